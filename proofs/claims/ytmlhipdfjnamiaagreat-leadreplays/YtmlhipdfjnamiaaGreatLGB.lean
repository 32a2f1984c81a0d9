/- The contract of the document's LeaderReplay. (Written by tools/gen_leadgB.py.) -/
import Derived.Test.YtmlhipdfjnamiaaGreatLGA
import Derived.Test.YtmlhipdfjnamiaaGreatLG6
import Derived.Test.YtmlhipdfjnamiaaGreatME
import Derived.Test.YtmlhipdfjnamiaaGreatLVH
namespace Go.Proofs.YtmlhipdfjnamiaaGreat
open Go.RowKit
theorem next_ids {cf : Ld.Config} {l : Ld.Leader} {r : Lk.Note} (h : ∀ p ∈ l.rels, -9223372036854775808 ≤ p.1 ∧ p.1 < 9223372036854775808) : ∀ p ∈ (Ld.nextL cf l r).1.rels, -9223372036854775808 ≤ p.1 ∧ p.1 < 9223372036854775808 := by
  have hn : ∀ p ∈ Ld.Leader.none.rels, -9223372036854775808 ≤ p.1 ∧ p.1 < 9223372036854775808 := fun p hp => by cases hp
  unfold Ld.nextL
  by_cases h1 : Ld.chkLeader cf l = 0
  rotate_left
  · rw [if_neg h1]; exact hn
  rw [if_pos h1]
  by_cases h2 : Lk.chkNote r = 0
  rotate_left
  · rw [if_neg h2]; exact hn
  rw [if_pos h2]
  have hl := (Ld.lead_iff cf l).1 h1
  unfold Ld.nextIn
  repeat' split
  all_goals first
    | exact hn
    | exact h
    | (intro p hp
       rcases List.mem_append.1 hp with hp | hp
       · exact h p hp
       · simp only [List.mem_cons, List.not_mem_nil, or_false] at hp
         subst hp
         simp only
         obtain ⟨_, g2, _⟩ := hl
         omega)
set_option maxHeartbeats 16000000 in
set_option maxRecDepth 100000 in
theorem ldReplayR_any (cf : Ld.Config) (A B D : Value) (ps : List (Lk.Note × Value)) (v : Value) (w : World) (hC : CfAt w cf A B D) (hRs : RecsAt w v ps) (hwk : ∀ p ∈ ps, (Lit.int .i64 p.1.kind).wf = true) :
    Calls Tryz.prog 10 #[cfV cf A B D, v] w fun e w' => (∃ Y Z, e = .returned (.tuple #[leV (Ld.replayL cf (ps.map Prod.fst)).1 Y Z, .int .i64 (Ld.replayL cf (ps.map Prod.fst)).2]) ∧ LdAt w' (Ld.replayL cf (ps.map Prod.fst)).1 Y Z) ∧ Below w.heap.size w w' := by
  obtain ⟨va, vc, rfl⟩ := recs_slice hRs
  have hlen := hRs.1
  have HRS : Hid (RecsAt w (.slice va ps.length vc) ps) := hRs
  have HWK : Hid (∀ p ∈ ps, (Lit.int .i64 p.1.kind).wf = true) := hwk
  have HCC : Hid (∀ w', Below w.heap.size w w' → Calls Tryz.prog 31 #[cfV cf A B D] w' fun e w'' => e = .returned (.int .i64 (Ld.chkConfig cf)) ∧ Below w'.heap.size w' w'') := fun w' hb => ckConfR_any cf A B D w' (hC.below hb)
  have HFR : Hid (Ld.chkConfig cf = 0 → ∀ w', Below w.heap.size w w' → Calls Tryz.prog 32 #[cfV cf A B D] w' fun e w'' => (∃ gR gK, e = .returned (leV (Ld.freshL cf) (.slice (some ⟨gR, 0, none⟩) 1 1) (.slice (some ⟨gK, 0, none⟩) (Ld.many cf) (Ld.many cf))) ∧ w'.heap.size ≤ gR ∧ w'.heap.size ≤ gK ∧ Keep (fun x => w.heap.size ≤ x ∧ x ≠ gR ∧ x ≠ gK) (fun w => LdAt w (Ld.freshL cf) (.slice (some ⟨gR, 0, none⟩) 1 1) (.slice (some ⟨gK, 0, none⟩) (Ld.many cf) (Ld.many cf))) w'') ∧ Below w'.heap.size w' w'') := fun hc w' hb => freshR_any cf A B D w w' hC hb hc
  have HNX : Hid (∀ (S : Nat → Prop) (ld : Ld.Leader) (Y Z : Value) (r : Lk.Note) (z : Value) (w' : World), Below w.heap.size w w' → (∀ x, S x → x < w'.heap.size) → LdS S w' ld Y Z → Keep S (fun w => PinsAt w z r.lock) w' → (∀ p ∈ ld.rels, -9223372036854775808 ≤ p.1 ∧ p.1 < 9223372036854775808) → (Lit.int .i64 r.kind).wf = true → Calls Tryz.prog 6 #[cfV cf A B D, leV ld Y Z, .agg #[.int .i64 r.kind, .int .i64 r.agent, .int .i64 r.tr, .int .i64 r.n, .bool r.good, .int .i64 r.id, z]] w' fun e w'' => leS S w'' (Ld.nextL cf ld r) e ∧ Below w'.heap.size w' w'') := fun S ld Y Z r z w' hb hs h1 h2 hw hk => ldNextR_any S cf A B D ld Y Z r.kind r.agent r.tr r.n r.id r.good r.lock z w' hs (hC.below hb) h1 h2 hw hk
  have F1 : Hid (¬ Ld.chkConfig cf = 0 → Ld.replayL cf (ps.map Prod.fst) = (Ld.Leader.none, Ld.chkConfig cf)) := fun h => by unfold Ld.replayL; rw [if_neg h]
  have F3 : Hid (Ld.chkConfig cf = 0 → 200 < ps.length → Ld.replayL cf (ps.map Prod.fst) = (Ld.Leader.none, 2)) := fun h h2 => by unfold Ld.replayL; rw [if_pos h, if_pos (by rw [List.length_map]; exact h2)]
  have F4 : Hid (Ld.chkConfig cf = 0 → ¬ 200 < ps.length → Ld.replayL cf (ps.map Prod.fst) = Ld.replayFrom cf (Ld.freshL cf) ((ps.drop 0).map Prod.fst)) := fun h h2 => by unfold Ld.replayL; rw [if_pos h, if_neg (by rw [List.length_map]; exact h2), List.drop_zero]
  have FID : Hid (Ld.chkConfig cf = 0 → ∀ p ∈ (Ld.freshL cf).rels, -9223372036854775808 ≤ p.1 ∧ p.1 < 9223372036854775808) := fun h p hp => by
    simp only [Ld.freshL, List.mem_cons, List.not_mem_nil, or_false] at hp
    subst hp
    have : cf.fid = 1 := by
      unfold Ld.chkConfig at h
      by_cases e1 : Lk.chkRel cf.fid cf.flock = 0
      · rw [if_pos e1] at h
        by_cases e2 : cf.fid = 1 ∧ Lk.within cf.budget 0 3 = true
        · exact e2.1
        · rw [if_neg e2] at h; exact absurd h (by decide)
      · rw [if_neg e1] at h; exact absurd h e1
    simp only [this]
    decide
  have HNI : Hid (∀ (ld : Ld.Leader) (r : Lk.Note), (∀ p ∈ ld.rels, -9223372036854775808 ≤ p.1 ∧ p.1 < 9223372036854775808) → ∀ p ∈ (Ld.nextL cf ld r).1.rels, -9223372036854775808 ≤ p.1 ∧ p.1 < 9223372036854775808) := fun ld r h => next_ids h
  have HST : Hid (∀ (A : Ld.Leader) (k : Nat) (r : Lk.Note) (z : Value), ps[k]? = some (r, z) → Ld.replayFrom cf A ((ps.drop k).map Prod.fst) = if (Ld.nextL cf A r).2 = 0 then Ld.replayFrom cf (Ld.nextL cf A r).1 ((ps.drop (k + 1)).map Prod.fst) else (Ld.Leader.none, (Ld.nextL cf A r).2)) := fun A k r z h => lrep_step h
  have HEN : Hid (∀ (A : Ld.Leader) (k : Nat), ps.length ≤ k → Ld.replayFrom cf A ((ps.drop k).map Prod.fst) = (A, 0)) := fun A k h => lrep_end h
  obtain ⟨f, L, R, W, d⟩ := cf
  obtain ⟨a1, c1, rfl⟩ := pins_slice hC.1
  obtain ⟨a2, c2, rfl⟩ := rules_slice hC.2.1
  obtain ⟨a3, c3, rfl⟩ := waves_slice hC.2.2
  clear hC hRs hwk
  unfold cfV cfC at HCC HFR HNX
  unfold cfV cfC
  simp only at HCC HFR HNX
  simp only
  generalize Ld.replayL ⟨f, L, R, W, d⟩ (ps.map Prod.fst) = Q at F1 F3 F4 ⊢
  generalize Ld.chkConfig ⟨f, L, R, W, d⟩ = CK at F1 F3 F4 FID HCC HFR
  generalize Ld.many ⟨f, L, R, W, d⟩ = M at HFR
  generalize L.length = n1 at *
  generalize R.length = n2 at *
  generalize W.length = n3 at *
  obtain ⟨hB0, hK0, hZ0⟩ := box2 w #[.int .i64 f, .slice a1 n1 c1, .slice a2 n2 c2, .slice a3 n3 c3, .int .i64 d] #[.slice none 0 0, .int .i64 0, .int .i64 0, .bool false, .slice none 0 0, .int .i64 0] 28 32
  go_enter Tryz.func10, Tryz.ntmps10
  go_upto_region 1 with fail
  generalize ((w.alloc (.cells #[.int .i64 f, .slice a1 n1 c1, .slice a2 n2 c2, .slice a3 n3 c3, .int .i64 d] 28)).alloc (.cells #[.slice none 0 0, .int .i64 0, .int .i64 0, .bool false, .slice none 0 0, .int .i64 0] 32)) = V at hB0 hK0 hZ0 ⊢
  have HB0 : Hid (Below w.heap.size w V) := hB0
  have HK0 : Hid (Blk V w.heap.size #[.int .i64 f, .slice a1 n1 c1, .slice a2 n2 c2, .slice a3 n3 c3, .int .i64 d] 28) := hK0
  have HZ0 : Hid (Blk V (w.heap.size + 1) #[.slice none 0 0, .int .i64 0, .int .i64 0, .bool false, .slice none 0 0, .int .i64 0] 32) := hZ0
  clear hB0 hK0 hZ0
  have kc0 := HK0.out.cell 0
  have kc1 := HK0.out.cell 1
  have kc2 := HK0.out.cell 2
  have kc3 := HK0.out.cell 3
  have kc4 := HK0.out.cell 4
  simp only [List.getElem?_toArray, List.getElem?_cons_zero, List.getElem?_cons_succ] at kc0 kc1 kc2 kc3 kc4
  go_wp2_with fail
  refine (HCC.out _ HB0.out).mono ?_
  rintro e w1 ⟨rfl, hb1⟩
  have HB1 : Hid (Below w.heap.size w w1) := HB0.out.trans (hb1.mono HB0.out.size)
  have HK1 : Hid (Blk w1 w.heap.size #[.int .i64 f, .slice a1 n1 c1, .slice a2 n2 c2, .slice a3 n3 c3, .int .i64 d] 28) := HK0.out.below hb1
  have HZ1 : Hid (Blk w1 (w.heap.size + 1) #[.slice none 0 0, .int .i64 0, .int .i64 0, .bool false, .slice none 0 0, .int .i64 0] 32) := HZ0.out.below hb1
  clear hb1 HB0 HK0 HZ0 HCC kc0 kc1 kc2 kc3 kc4
  by_cases h1 : CK = 0
  rotate_left
  · have HQ : Hid (Q = (Ld.Leader.none, CK)) := F1.out h1
    have h1b : (CK != 0) = true := by rw [bne_iff_ne]; exact h1
    clear F1 F3 F4 FID h1 HNX HRS HWK HNI HST HEN HFR HK1
    have d0 := HZ1.out.cell 0
    have d1 := HZ1.out.cell 1
    have d2 := HZ1.out.cell 2
    have d3 := HZ1.out.cell 3
    have d4 := HZ1.out.cell 4
    have d5 := HZ1.out.cell 5
    simp only [List.getElem?_toArray, List.getElem?_cons_zero, List.getElem?_cons_succ] at d0 d1 d2 d3 d4 d5
    have df0 := HZ1.out.free 0
    have df1 := HZ1.out.free 1
    have df2 := HZ1.out.free 2
    have df3 := HZ1.out.free 3
    have df4 := HZ1.out.free 4
    have df5 := HZ1.out.free 5
    clear HZ1
    go_wp2
    refine bodyPost_ret (v := .tuple #[.agg #[.slice none 0 0, .int .i64 0, .int .i64 0, .bool false, .slice none 0 0, .int .i64 0], .int .i64 CK]) (by simp [results, Tryz.results10, go_sem, d0, d1, d2, d3, d4, d5]) rfl ⟨⟨_, _, by rw [HQ.out]; rfl, by rw [HQ.out]; exact ld_none _⟩, below_six HB1.out (Nat.le_succ _) _ _ _ _ _ _⟩
  subst h1
  have HMY : Hid (200 < ps.length → Q = (Ld.Leader.none, 2)) := F3.out rfl
  have HIN : Hid (¬ 200 < ps.length → Q = Ld.replayFrom ⟨f, L, R, W, d⟩ (Ld.freshL ⟨f, L, R, W, d⟩) ((ps.drop 0).map Prod.fst)) := F4.out rfl
  have HI0 : Hid (∀ p ∈ (Ld.freshL ⟨f, L, R, W, d⟩).rels, _) := FID.out rfl
  have HF0 : Hid (∀ w', Below w.heap.size w w' → _) := HFR.out rfl
  clear F1 F3 F4 FID HFR
  by_cases h2 : 200 < ps.length
  · have HQ : Hid (Q = (Ld.Leader.none, 2)) := HMY.out h2
    have h2' : (200 : Int) < (ps.length : Int) := by omega
    have h2b : decide ((200 : Int) < (ps.length : Int)) = true := decide_eq_true h2'
    clear HMY HIN HI0 HF0 h2 HNX HRS HWK HNI HST HEN HK1
    have d0 := HZ1.out.cell 0
    have d1 := HZ1.out.cell 1
    have d2 := HZ1.out.cell 2
    have d3 := HZ1.out.cell 3
    have d4 := HZ1.out.cell 4
    have d5 := HZ1.out.cell 5
    simp only [List.getElem?_toArray, List.getElem?_cons_zero, List.getElem?_cons_succ] at d0 d1 d2 d3 d4 d5
    have df0 := HZ1.out.free 0
    have df1 := HZ1.out.free 1
    have df2 := HZ1.out.free 2
    have df3 := HZ1.out.free 3
    have df4 := HZ1.out.free 4
    have df5 := HZ1.out.free 5
    clear HZ1
    go_wp2
    refine bodyPost_ret (v := .tuple #[.agg #[.slice none 0 0, .int .i64 0, .int .i64 0, .bool false, .slice none 0 0, .int .i64 0], .int .i64 2]) (by simp [results, Tryz.results10, go_sem, d0, d1, d2, d3, d4, d5]) rfl ⟨⟨_, _, by rw [HQ.out]; rfl, by rw [HQ.out]; exact ld_none _⟩, below_six HB1.out (Nat.le_succ _) _ _ _ _ _ _⟩
  have h2' : ¬ (200 : Int) < (ps.length : Int) := by omega
  have h2b : decide ((200 : Int) < (ps.length : Int)) = false := decide_eq_false h2'
  have h2c : (ps.length : Int) ≤ 200 := by omega
  have HQ0 := HIN.out h2
  have HQ1 : Hid (Q = _) := HQ0
  clear HMY HIN h2 h2' HQ0
  generalize Ld.freshL ⟨f, L, R, W, d⟩ = FL at *
  obtain ⟨rs, nw, g, bk, ks, nx⟩ := FL
  simp only [leV, leC] at HF0
  have kc0 := HK1.out.cell 0
  have kc1 := HK1.out.cell 1
  have kc2 := HK1.out.cell 2
  have kc3 := HK1.out.cell 3
  have kc4 := HK1.out.cell 4
  simp only [List.getElem?_toArray, List.getElem?_cons_zero, List.getElem?_cons_succ] at kc0 kc1 kc2 kc3 kc4
  go_wp2_with fail
  refine (HF0.out _ HB1.out).mono ?_
  rintro e w2 ⟨⟨gR, gK, rfl, hgR, hgK, hkp⟩, hb2⟩
  have hltg : w.heap.size + 1 < w1.heap.size := HZ1.out.lt
  have hR1 : w.heap.size + 1 ≠ gR := by omega
  have hK1' : w.heap.size + 1 ≠ gK := by omega
  have hb2' := hb2
  have HBB : Hid (Below w.heap.size w w2) := HB1.out.trans (hb2.mono HB1.out.size)
  have HKB : Hid (Blk w2 w.heap.size #[.int .i64 f, .slice a1 n1 c1, .slice a2 n2 c2, .slice a3 n3 c3, .int .i64 d] 28) := HK1.out.below hb2
  have HZB : Hid (Blk w2 (w.heap.size + 1) #[.slice none 0 0, .int .i64 0, .int .i64 0, .bool false, .slice none 0 0, .int .i64 0] 32) := HZ1.out.below hb2
  have hld2 := hkp.here
  obtain ⟨a4, c4, e4⟩ := relA_slice hld2.1
  obtain ⟨a5, c5, e5⟩ := knows_slice hld2.2
  simp only at e4 e5
  have hgRl : gR < w2.heap.size ∧ gK < w2.heap.size ∨ True := .inr trivial
  injection e4 with e4a e4b e4c
  injection e5 with e5a e5b e5c
  have hrs1 : rs.length = 1 := e4b.symm
  have hksM : ks.length = M := e5b.symm
  clear e4a e4c e5a e5c hgRl hld2
  have hlR : gR < w2.heap.size := by
    obtain ⟨b, o, _, e, hb, _⟩ := relA_at hkp.here.1 (k := 0) (by show 0 < rs.length; omega)
    injection e with e; injection e with e1 _; rw [e1]; exact hb
  have HG0 : Hid (LdS (fun x => x = w.heap.size + 1 ∨ x = w2.heap.size) (w2.alloc (.cells #[.slice (some ⟨gR, 0, none⟩) 1 1, .int .i64 nw, .int .i64 g, .bool bk, .slice (some ⟨gK, 0, none⟩) M M, .int .i64 nx] 32)) ⟨rs, nw, g, bk, ks, nx⟩ (.slice (some ⟨gR, 0, none⟩) 1 1) (.slice (some ⟨gK, 0, none⟩) M M)) := by
    refine ⟨Keep.grow hkp (al_below w2 _) (fun x hx => ?_), fun ad n c e hs => ?_⟩
    · rcases hx with hx | hx
      · subst hx; exact .inl ⟨Nat.le_succ _, hR1, hK1'⟩
      · exact .inr (by omega)
    · injection e with e1 _ _
      injection e1 with e1
      subst e1
      simp only at hs
      omega
  have hbA := al_below w2 (.cells #[.slice (some ⟨gR, 0, none⟩) 1 1, .int .i64 nw, .int .i64 g, .bool bk, .slice (some ⟨gK, 0, none⟩) M M, .int .i64 nx] 32)
  have HBA : Hid (Below w.heap.size w (w2.alloc (.cells #[.slice (some ⟨gR, 0, none⟩) 1 1, .int .i64 nw, .int .i64 g, .bool bk, .slice (some ⟨gK, 0, none⟩) M M, .int .i64 nx] 32))) := HBB.out.trans (hbA.mono HBB.out.size)
  have HKA : Hid (Blk (w2.alloc (.cells #[.slice (some ⟨gR, 0, none⟩) 1 1, .int .i64 nw, .int .i64 g, .bool bk, .slice (some ⟨gK, 0, none⟩) M M, .int .i64 nx] 32)) w.heap.size #[.int .i64 f, .slice a1 n1 c1, .slice a2 n2 c2, .slice a3 n3 c3, .int .i64 d] 28) := HKB.out.below hbA
  have HZA : Hid (Blk (w2.alloc (.cells #[.slice (some ⟨gR, 0, none⟩) 1 1, .int .i64 nw, .int .i64 g, .bool bk, .slice (some ⟨gK, 0, none⟩) M M, .int .i64 nx] 32)) (w.heap.size + 1) #[.slice none 0 0, .int .i64 0, .int .i64 0, .bool false, .slice none 0 0, .int .i64 0] 32) := HZB.out.below hbA
  have HGA : Hid (Blk (w2.alloc (.cells #[.slice (some ⟨gR, 0, none⟩) 1 1, .int .i64 nw, .int .i64 g, .bool bk, .slice (some ⟨gK, 0, none⟩) M M, .int .i64 nx] 32)) w2.heap.size #[.slice (some ⟨gR, 0, none⟩) 1 1, .int .i64 nw, .int .i64 g, .bool bk, .slice (some ⟨gK, 0, none⟩) M M, .int .i64 nx] 32) := blk_alloc w2 _ _
  have hg6 : w.heap.size + 1 < w2.heap.size := HZB.out.lt
  clear hbA HB1 HK1 HZ1 hb2 hb2' hkp hR1 hK1' hgR hgK HF0 HBB HKB HZB kc0 kc1 kc2 kc3 kc4 hrs1 hksM hlR hltg e4b e5b
  go_upto_region 7 with fail
  generalize (w2.alloc (.cells #[.slice (some ⟨gR, 0, none⟩) 1 1, .int .i64 nw, .int .i64 g, .bool bk, .slice (some ⟨gK, 0, none⟩) M M, .int .i64 nx] 32)) = wA at HBA HZA HKA HGA HG0 ⊢
  generalize w2.heap.size = g6 at HGA HG0 hg6 ⊢
  go_wp2_with fail
  go_loopg [26] ps.length (fun gh s26 wr => ∃ (k : Nat) (ld : Ld.Leader) (Y Z : Value), k ≤ ps.length ∧ ps.length - k ≤ gh ∧ s26 = .int .i64 k ∧ Hid (Q = Ld.replayFrom ⟨f, L, R, W, d⟩ ld ((ps.drop k).map Prod.fst)) ∧ Hid (Blk wr g6 #[Y, .int .i64 ld.now, .int .i64 ld.goal, .bool ld.back, Z, .int .i64 ld.next] 32) ∧ Hid (Blk wr (w.heap.size + 1) #[.slice none 0 0, .int .i64 0, .int .i64 0, .bool false, .slice none 0 0, .int .i64 0] 32) ∧ Hid (Blk wr w.heap.size #[.int .i64 f, .slice a1 n1 c1, .slice a2 n2 c2, .slice a3 n3 c3, .int .i64 d] 28) ∧ Hid (LdS (fun x => x = w.heap.size + 1 ∨ x = g6) wr ld Y Z) ∧ Hid (Below w.heap.size w wr) ∧ Hid (∀ p ∈ ld.rels, -9223372036854775808 ≤ p.1 ∧ p.1 < 9223372036854775808))
  case atStart => exact ⟨0, ⟨rs, nw, g, bk, ks, nx⟩, _, _, Nat.zero_le _, by omega, rfl, HQ1, HGA, HZA, HKA, HG0, HBA, HI0⟩
  case round =>
    clear HBA HZA HKA HGA HG0 HQ1 HI0
    obtain ⟨k, ld, Y, Z, hk, hg, rfl, HQk, HGk, HZk, HKk, HLk, HBk, HIk⟩ := hrel
    obtain ⟨rs', nw', g', bk', ks', nx'⟩ := ld
    have hld := HLk.out.ld
    obtain ⟨b4, e4, rfl⟩ := relA_slice hld.1
    obtain ⟨b5, e5, rfl⟩ := knows_slice hld.2
    simp only at HGk HLk
    clear hld
    have kg0 := HGk.out.cell 0
    have kg1 := HGk.out.cell 1
    have kg2 := HGk.out.cell 2
    have kg3 := HGk.out.cell 3
    have kg4 := HGk.out.cell 4
    have kg5 := HGk.out.cell 5
    simp only [List.getElem?_toArray, List.getElem?_cons_zero, List.getElem?_cons_succ] at kg0 kg1 kg2 kg3 kg4 kg5
    have kc0 := HKk.out.cell 0
    have kc1 := HKk.out.cell 1
    have kc2 := HKk.out.cell 2
    have kc3 := HKk.out.cell 3
    have kc4 := HKk.out.cell 4
    simp only [List.getElem?_toArray, List.getElem?_cons_zero, List.getElem?_cons_succ] at kc0 kc1 kc2 kc3 kc4
    have kz0 := HZk.out.cell 0
    have kz1 := HZk.out.cell 1
    have kz2 := HZk.out.cell 2
    have kz3 := HZk.out.cell 3
    have kz4 := HZk.out.cell 4
    have kz5 := HZk.out.cell 5
    simp only [List.getElem?_toArray, List.getElem?_cons_zero, List.getElem?_cons_succ] at kz0 kz1 kz2 kz3 kz4 kz5
    have kzf0 := HZk.out.free 0
    have kzf1 := HZk.out.free 1
    have kzf2 := HZk.out.free 2
    have kzf3 := HZk.out.free 3
    have kzf4 := HZk.out.free 4
    have kzf5 := HZk.out.free 5
    have hl6 : g6 < wr.heap.size := HGk.out.lt
    have hlw : w.heap.size < wr.heap.size := HKk.out.lt
    have hlz : w.heap.size + 1 < wr.heap.size := HZk.out.lt
    by_cases hlt : k < ps.length
    rotate_left
    · have hk' : k = ps.length := by omega
      have HQ : Hid (Q = (⟨rs', nw', g', bk', ks', nx'⟩, 0)) := HQk.out.trans (HEN.out _ k (by omega))
      subst hk'
      clear hk hlt HQk HST HEN HNX HRS HWK HNI HKk HGk HZk HIk kc0 kc1 kc2 kc3 kc4
      have hne6 : ¬ g6 = w.heap.size + 1 := by omega
      have hne6' : ¬ w.heap.size + 1 = g6 := by omega
      go_wp2
      refine bodyPost_ret (v := .tuple #[.agg #[.slice b4 rs'.length e4, .int .i64 nw', .int .i64 g', .bool bk', .slice b5 ks'.length e5, .int .i64 nx'], .int .i64 0]) (by simp [results, Tryz.results10, go_sem, kz0, kz1, kz2, kz3, kz4, kz5]) rfl ⟨?_, below_six HBk.out (Nat.le_succ _) _ _ _ _ _ _⟩
      rw [HQ.out]
      exact ⟨_, _, rfl, (Keep.six HLk.out.1 (.inl rfl) _ _ _ _ _ _).here⟩
    have hat : ps[k]? = some (ps[k].1, ps[k].2) := List.getElem?_eq_getElem hlt
    obtain ⟨rb, ro, rfl, hrb, r0, r1, r2, r3, r4, r5, r6⟩ := recs_at (HRS.out.below HBk.out) hat
    have hP := recs_pins HRS.out _ (List.getElem_mem hlt)
    have hPK : Keep (fun x => x = w.heap.size + 1 ∨ x = g6) (fun w => PinsAt w ps[k].2 ps[k].1.lock) wr := Keep.older hP (pins_stab _ _) (fun x hx => by rcases hx with hx | hx <;> omega) HBk.out
    have hWK := HWK.out _ (List.getElem_mem hlt)
    have HS := HST.out ⟨rs', nw', g', bk', ks', nx'⟩ k _ _ hat
    have HII := HNI.out ⟨rs', nw', g', bk', ks', nx'⟩ ps[k].1 HIk.out
    have HNC := HNX.out (fun x => x = w.heap.size + 1 ∨ x = g6) ⟨rs', nw', g', bk', ks', nx'⟩ (.slice b4 rs'.length e4) (.slice b5 ks'.length e5) ps[k].1 ps[k].2
    generalize ps[k] = p at r0 r1 r2 r3 r4 r5 r6 hP hPK HS HNC HII hWK
    obtain ⟨⟨rk, ra, rt, rn, rg, ri, lk⟩, z⟩ := p
    simp only at r0 r1 r2 r3 r4 r5 r6 hP hPK HNC hWK
    obtain ⟨az, cz, rfl⟩ := pins_slice hP
    have hx := box1 wr #[.int .i64 rk, .int .i64 ra, .int .i64 rt, .int .i64 rn, .bool rg, .int .i64 ri, .slice az lk.length cz] 34
    have HCL := HNC (wr.alloc (.cells #[.int .i64 rk, .int .i64 ra, .int .i64 rt, .int .i64 rn, .bool rg, .int .i64 ri, .slice az lk.length cz] 34)) (HBk.out.trans (hx.1.mono HBk.out.size)) (fun x hx' => by have := hx.1.size; rcases hx' with h | h <;> omega) (HLk.out.below hx.1) (hPK.below hx.1) HIk.out hWK
    simp only [leV, leC] at HCL
    have HX1 : Hid (Below wr.heap.size wr (wr.alloc (.cells #[.int .i64 rk, .int .i64 ra, .int .i64 rt, .int .i64 rn, .bool rg, .int .i64 ri, .slice az lk.length cz] 34))) := hx.1
    have HS' : Hid (_ = _) := HS
    have HI2 : Hid (∀ p ∈ (Ld.nextL ⟨f, L, R, W, d⟩ ⟨rs', nw', g', bk', ks', nx'⟩ ⟨rk, ra, rt, rn, rg, ri, lk⟩).1.rels, _) := HII
    have hklt : (k : Int) < ps.length := by omega
    clear hx hP hPK HNC HS HII hWK HIk
    generalize Ld.nextL ⟨f, L, R, W, d⟩ ⟨rs', nw', g', bk', ks', nx'⟩ ⟨rk, ra, rt, rn, rg, ri, lk⟩ = q at HCL HS' HI2
    obtain ⟨⟨rs2, nw2, g2, bk2, ks2, nx2⟩, E2⟩ := q
    go_wp2_with fail
    refine HCL.mono ?_
    rintro e w3 ⟨⟨Y2, Z2, rfl, hn2⟩, hb3⟩
    have hl2 := hn2.ld
    obtain ⟨b42, e42, rfl⟩ := relA_slice hl2.1
    obtain ⟨b52, e52, rfl⟩ := knows_slice hl2.2
    have hb3' := HX1.out.trans (hb3.mono HX1.out.size)
    have hal := al_below w3 (.cells #[.slice b42 rs2.length e42, .int .i64 nw2, .int .i64 g2, .bool bk2, .slice b52 ks2.length e52, .int .i64 nx2] 32)
    have HB3 : Hid (Below w.heap.size w (w3.alloc (.cells #[.slice b42 rs2.length e42, .int .i64 nw2, .int .i64 g2, .bool bk2, .slice b52 ks2.length e52, .int .i64 nx2] 32))) := (HBk.out.trans (hb3'.mono HBk.out.size)).trans (hal.mono (HBk.out.trans (hb3'.mono HBk.out.size)).size)
    have HN2 : Hid (LdS (fun x => x = w.heap.size + 1 ∨ x = g6) (w3.alloc (.cells #[.slice b42 rs2.length e42, .int .i64 nw2, .int .i64 g2, .bool bk2, .slice b52 ks2.length e52, .int .i64 nx2] 32)) ⟨rs2, nw2, g2, bk2, ks2, nx2⟩ (.slice b42 rs2.length e42) (.slice b52 ks2.length e52)) := hn2.below hal
    have HK3 : Hid (Blk (w3.alloc (.cells #[.slice b42 rs2.length e42, .int .i64 nw2, .int .i64 g2, .bool bk2, .slice b52 ks2.length e52, .int .i64 nx2] 32)) w.heap.size #[.int .i64 f, .slice a1 n1 c1, .slice a2 n2 c2, .slice a3 n3 c3, .int .i64 d] 28) := (HKk.out.below hb3').below hal
    have HG3 : Hid (Blk (w3.alloc (.cells #[.slice b42 rs2.length e42, .int .i64 nw2, .int .i64 g2, .bool bk2, .slice b52 ks2.length e52, .int .i64 nx2] 32)) g6 _ 32) := (HGk.out.below hb3').below hal
    have HZ3 : Hid (Blk (w3.alloc (.cells #[.slice b42 rs2.length e42, .int .i64 nw2, .int .i64 g2, .bool bk2, .slice b52 ks2.length e52, .int .i64 nx2] 32)) (w.heap.size + 1) #[.slice none 0 0, .int .i64 0, .int .i64 0, .bool false, .slice none 0 0, .int .i64 0] 32) := (HZk.out.below hb3').below hal
    have HO3 : Hid (Blk (w3.alloc (.cells #[.slice b42 rs2.length e42, .int .i64 nw2, .int .i64 g2, .bool bk2, .slice b52 ks2.length e52, .int .i64 nx2] 32)) w3.heap.size #[.slice b42 rs2.length e42, .int .i64 nw2, .int .i64 g2, .bool bk2, .slice b52 ks2.length e52, .int .i64 nx2] 32) := blk_alloc w3 _ _
    simp only [leV, leC]
    clear hb3 hb3' hn2 hl2 hal HCL HKk HGk HZk HLk HX1 kg0 kg1 kg2 kg3 kg4 kg5 kc0 kc1 kc2 kc3 kc4 kz0 kz1 kz2 kz3 kz4 kz5 kzf0 kzf1 kzf2 kzf3 kzf4 kzf5 r0 r1 r2 r3 r4 r5 r6 HBk
    go_upto_region 11 with fail
    have hO3 := HO3.out
    have hG3 := HG3.out
    have hZ3 := HZ3.out
    clear HO3
    generalize (w3.alloc (.cells #[.slice b42 rs2.length e42, .int .i64 nw2, .int .i64 g2, .bool bk2, .slice b52 ks2.length e52, .int .i64 nx2] 32)) = w4 at HB3 HN2 HK3 HG3 HZ3 hO3 hG3 hZ3 ⊢
    have jo0 := hO3.cell 0
    have jo1 := hO3.cell 1
    have jo2 := hO3.cell 2
    have jo3 := hO3.cell 3
    have jo4 := hO3.cell 4
    have jo5 := hO3.cell 5
    simp only [List.getElem?_toArray, List.getElem?_cons_zero, List.getElem?_cons_succ] at jo0 jo1 jo2 jo3 jo4 jo5
    have jg0 := hG3.cell 0
    have jg1 := hG3.cell 1
    have jg2 := hG3.cell 2
    have jg3 := hG3.cell 3
    have jg4 := hG3.cell 4
    have jg5 := hG3.cell 5
    simp only [List.getElem?_toArray, List.getElem?_cons_zero, List.getElem?_cons_succ] at jg0 jg1 jg2 jg3 jg4 jg5
    have jgf0 := hG3.free 0
    have jgf1 := hG3.free 1
    have jgf2 := hG3.free 2
    have jgf3 := hG3.free 3
    have jgf4 := hG3.free 4
    have jgf5 := hG3.free 5
    have jz0 := hZ3.cell 0
    have jz1 := hZ3.cell 1
    have jz2 := hZ3.cell 2
    have jz3 := hZ3.cell 3
    have jz4 := hZ3.cell 4
    have jz5 := hZ3.cell 5
    simp only [List.getElem?_toArray, List.getElem?_cons_zero, List.getElem?_cons_succ] at jz0 jz1 jz2 jz3 jz4 jz5
    have jzf0 := hZ3.free 0
    have jzf1 := hZ3.free 1
    have jzf2 := hZ3.free 2
    have jzf3 := hZ3.free 3
    have jzf4 := hZ3.free 4
    have jzf5 := hZ3.free 5
    have hl64 : g6 < w4.heap.size := hG3.lt
    have hlz4 : w.heap.size + 1 < w4.heap.size := hZ3.lt
    clear hG3 hZ3 hO3
    have hne6 : ¬ g6 = w.heap.size + 1 := by omega
    have hne6' : ¬ w.heap.size + 1 = g6 := by omega
    have hgz : w.heap.size ≤ g6 := by omega
    by_cases h3 : E2 = 0
    · subst h3
      have HQ2 : Hid (Q = Ld.replayFrom ⟨f, L, R, W, d⟩ ⟨rs2, nw2, g2, bk2, ks2, nx2⟩ ((ps.drop (k + 1)).map Prod.fst)) := (show Q = _ from by
        have := HQk.out.trans HS'.out
        simpa using this)
      clear HQk HS'
      go_wp2
      go_roundg (ps.length - (k + 1))
      case measure => omega
      case rel =>
        refine ⟨k + 1, ⟨rs2, nw2, g2, bk2, ks2, nx2⟩, .slice b42 rs2.length e42, .slice b52 ks2.length e52, by omega, by omega, by go_num, HQ2, ?_, ?_, ?_, ?_, ?_, HI2⟩
        · exact (((((HG3.out.put 0 _).put 1 _).put 2 _).put 3 _).put 4 _).put 5 _
        · exact HZ3.out.six hne6 _ _ _ _ _ _
        · exact HK3.out.six (by omega) _ _ _ _ _ _
        · exact ⟨Keep.six HN2.out.1 (.inr rfl) _ _ _ _ _ _, HN2.out.2⟩
        · exact below_six HB3.out hgz _ _ _ _ _ _
    · have HQ : Hid (Q = (Ld.Leader.none, E2)) := (show Q = _ from by
        have := HQk.out.trans HS'.out
        simpa [h3] using this)
      have h3' : (E2 != 0) = true := by rw [bne_iff_ne]; exact h3
      clear HQk HS' h3 HN2 HK3 HG3 HI2
      go_wp2
      refine bodyPost_ret (v := .tuple #[.agg #[.slice none 0 0, .int .i64 0, .int .i64 0, .bool false, .slice none 0 0, .int .i64 0], .int .i64 E2]) (by simp [results, Tryz.results10, go_sem, jz0, jz1, jz2, jz3, jz4, jz5]) rfl ⟨⟨_, _, by rw [HQ.out]; rfl, by rw [HQ.out]; exact ld_none _⟩, below_six HB3.out (Nat.le_succ _) _ _ _ _ _ _⟩
end Go.Proofs.YtmlhipdfjnamiaaGreat
