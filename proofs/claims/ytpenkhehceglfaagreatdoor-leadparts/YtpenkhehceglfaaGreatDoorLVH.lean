/- The contract of lead.Replay. -/
import Derived.Test.YtpenkhehceglfaaGreatDoorLVG
import Derived.Test.YtpenkhehceglfaaGreatDoorMO
import Derived.Test.YtpenkhehceglfaaGreatDoorRR
namespace Go.Proofs.YtpenkhehceglfaaGreatDoor
open Go.RowKit
theorem lrep_step {cf : Ld.Config} {A : Ld.Leader} {ps : List (Lk.Note × Value)} {k : Nat} {r : Lk.Note} {z : Value} (h : ps[k]? = some (r, z)) : Ld.replayFrom cf A ((ps.drop k).map Prod.fst) = if (Ld.nextL cf A r).2 = 0 then Ld.replayFrom cf (Ld.nextL cf A r).1 ((ps.drop (k + 1)).map Prod.fst) else (Ld.Leader.none, (Ld.nextL cf A r).2) := by
  have hlt : k < ps.length := (List.getElem?_eq_some_iff.1 h).1
  rw [List.drop_eq_getElem_cons hlt]
  have e : ps[k] = (r, z) := (List.getElem?_eq_some_iff.1 h).2
  rw [e, List.map_cons, Ld.replayFrom]
theorem lrep_end {cf : Ld.Config} {A : Ld.Leader} {ps : List (Lk.Note × Value)} {k : Nat} (h : ps.length ≤ k) : Ld.replayFrom cf A ((ps.drop k).map Prod.fst) = (A, 0) := by
  rw [List.drop_of_length_le h]; rfl
set_option maxHeartbeats 16000000 in
set_option maxRecDepth 100000 in
theorem ldReplay_any (cf : Ld.Config) (A B D : Value) (ps : List (Lk.Note × Value)) (v : Value) (w : World) (hC : CfAt w cf A B D) (hRs : RecsAt w v ps) :
    Calls Tryz.prog 13 #[cfV cf A B D, v] w fun e w' => leN w' w.heap.size (Ld.replayL cf (ps.map Prod.fst)) e ∧ Below w.heap.size w w' := by
  obtain ⟨va, vc, rfl⟩ := recs_slice hRs
  have hlen := hRs.1
  have HRS : Hid (RecsAt w (.slice va ps.length vc) ps) := hRs
  have HNW : Hid (∀ w', Below w.heap.size w w' → Calls Tryz.prog 31 #[cfV cf A B D] w' fun e w'' => leN w'' w'.heap.size (Ld.newL cf) e ∧ Below w'.heap.size w' w'') := fun w' hb => ldNew_any cf A B D w' (hC.below hb)
  have HNX : Hid (∀ (ld : Ld.Leader) (Y Z : Value) (r : Lk.Note) (z : Value) (w' : World), Below w.heap.size w w' → LdAt w' ld Y Z → PinsAt w' z r.lock → Calls Tryz.prog 15 #[cfV cf A B D, leV ld Y Z, .agg #[.int .i64 r.kind, .int .i64 r.agent, .int .i64 r.tr, .int .i64 r.n, .bool r.good, .int .i64 r.id, z]] w' fun e w'' => leN w'' w'.heap.size (Ld.nextL cf ld r) e ∧ Below w'.heap.size w' w'') := fun ld Y Z r z w' hb h1 h2 => ldNext_any cf A B D ld Y Z r.kind r.agent r.tr r.n r.id r.good r.lock z w' (hC.below hb) h1 h2
  have F1 : Hid (¬ Ld.chkConfig cf = 0 → Ld.newL cf = (Ld.Leader.none, Ld.chkConfig cf) ∧ Ld.replayL cf (ps.map Prod.fst) = (Ld.Leader.none, Ld.chkConfig cf)) := fun h => ⟨by unfold Ld.newL; rw [if_neg h], by unfold Ld.replayL; rw [if_neg h]⟩
  have F2 : Hid (Ld.chkConfig cf = 0 → Ld.newL cf = (Ld.freshL cf, 0)) := fun h => by unfold Ld.newL; rw [if_pos h]
  have F3 : Hid (Ld.chkConfig cf = 0 → 200 < ps.length → Ld.replayL cf (ps.map Prod.fst) = (Ld.Leader.none, 2)) := fun h h2 => by unfold Ld.replayL; rw [if_pos h, if_pos (by rw [List.length_map]; exact h2)]
  have F4 : Hid (Ld.chkConfig cf = 0 → ¬ 200 < ps.length → Ld.replayL cf (ps.map Prod.fst) = Ld.replayFrom cf (Ld.freshL cf) ((ps.drop 0).map Prod.fst)) := fun h h2 => by unfold Ld.replayL; rw [if_pos h, if_neg (by rw [List.length_map]; exact h2), List.drop_zero]
  have HCF : Hid (∃ c, c = cf) := ⟨cf, rfl⟩
  obtain ⟨cc, hcc⟩ := HCF.out
  have HST : Hid (∀ (A : Ld.Leader) (k : Nat) (r : Lk.Note) (z : Value), ps[k]? = some (r, z) → Ld.replayFrom cf A ((ps.drop k).map Prod.fst) = if (Ld.nextL cf A r).2 = 0 then Ld.replayFrom cf (Ld.nextL cf A r).1 ((ps.drop (k + 1)).map Prod.fst) else (Ld.Leader.none, (Ld.nextL cf A r).2)) := fun A k r z h => lrep_step h
  have HEN : Hid (∀ (A : Ld.Leader) (k : Nat), ps.length ≤ k → Ld.replayFrom cf A ((ps.drop k).map Prod.fst) = (A, 0)) := fun A k h => lrep_end h
  clear HCF hcc
  obtain ⟨f, L, R, W, d⟩ := cf
  obtain ⟨a1, c1, rfl⟩ := pins_slice hC.1
  obtain ⟨a2, c2, rfl⟩ := rules_slice hC.2.1
  obtain ⟨a3, c3, rfl⟩ := waves_slice hC.2.2
  clear hC hRs
  unfold cfV cfC at HNW HNX
  unfold cfV cfC
  simp only at HNW HNX
  simp only
  generalize Ld.newL ⟨f, L, R, W, d⟩ = QN at F1 F2 HNW
  generalize Ld.replayL ⟨f, L, R, W, d⟩ (ps.map Prod.fst) = Q at F1 F3 F4 ⊢
  generalize Ld.chkConfig ⟨f, L, R, W, d⟩ = CK at F1 F2 F3 F4
  generalize L.length = n1 at *
  generalize R.length = n2 at *
  generalize W.length = n3 at *
  obtain ⟨hB0, hK0, hZ0⟩ := box2 w #[.int .i64 f, .slice a1 n1 c1, .slice a2 n2 c2, .slice a3 n3 c3, .int .i64 d] #[.slice none 0 0, .int .i64 0, .int .i64 0, .bool false, .slice none 0 0, .int .i64 0] 45 49
  go_enter Tryz.func13, Tryz.ntmps13
  go_wp2_with fail
  have hsV : ((w.alloc (.cells #[.int .i64 f, .slice a1 n1 c1, .slice a2 n2 c2, .slice a3 n3 c3, .int .i64 d] 45)).alloc (.cells #[.slice none 0 0, .int .i64 0, .int .i64 0, .bool false, .slice none 0 0, .int .i64 0] 49)).heap.size = w.heap.size + 1 + 1 := by simp
  generalize ((w.alloc (.cells #[.int .i64 f, .slice a1 n1 c1, .slice a2 n2 c2, .slice a3 n3 c3, .int .i64 d] 45)).alloc (.cells #[.slice none 0 0, .int .i64 0, .int .i64 0, .bool false, .slice none 0 0, .int .i64 0] 49)) = V at hB0 hK0 hZ0 hsV ⊢
  refine (HNW.out _ hB0).mono ?_
  rintro e w1 ⟨⟨Y, Z, rfl, hnew⟩, hb1⟩
  have hY := hnew.here
  obtain ⟨a4, c4, rfl⟩ := relA_slice hY.1
  obtain ⟨a5, c5, rfl⟩ := knows_slice hY.2
  have HB1 : Hid (Below w.heap.size w w1) := hB0.trans (hb1.mono hB0.size)
  have HK1 : Hid (Blk w1 w.heap.size #[.int .i64 f, .slice a1 n1 c1, .slice a2 n2 c2, .slice a3 n3 c3, .int .i64 d] 45) := hK0.below hb1
  have HZ1 : Hid (Blk w1 (w.heap.size + 1) #[.slice none 0 0, .int .i64 0, .int .i64 0, .bool false, .slice none 0 0, .int .i64 0] 49) := hZ0.below hb1
  have hg6 : w.heap.size + 1 < w1.heap.size := HZ1.out.lt
  have HNEW : Hid (New (w.heap.size + 1 + 1) _ w1) := hsV ▸ hnew
  clear hb1 hB0 hK0 hZ0 HNW hnew hY hsV
  by_cases h1 : CK = 0
  rotate_left
  · obtain ⟨e1, e2⟩ := F1.out h1
    have HQ : Hid (Q = (Ld.Leader.none, CK)) := e2
    have h1b : (CK != 0) = true := by rw [bne_iff_ne]; exact h1
    subst e1
    clear F1 F2 F3 F4 h1 HNX HRS HST HEN HNEW e2 HK1
    simp only [leV, leC, Ld.Leader.none, List.length_nil]
    have HBA : Hid (Below w.heap.size w (w1.alloc (.cells #[.slice a4 0 c4, .int .i64 0, .int .i64 0, .bool false, .slice a5 0 c5, .int .i64 0] 49))) := HB1.out.alloc HB1.out.size _
    have HZA : Hid (Blk (w1.alloc (.cells #[.slice a4 0 c4, .int .i64 0, .int .i64 0, .bool false, .slice a5 0 c5, .int .i64 0] 49)) (w.heap.size + 1) #[.slice none 0 0, .int .i64 0, .int .i64 0, .bool false, .slice none 0 0, .int .i64 0] 49) := HZ1.out.below ((Below.refl _ _).alloc (Nat.le_refl _) _)
    go_upto_region 2 with fail
    generalize (w1.alloc (.cells #[.slice a4 0 c4, .int .i64 0, .int .i64 0, .bool false, .slice a5 0 c5, .int .i64 0] 49)) = w2 at HBA HZA ⊢
    clear HB1 HZ1
    have d0 := HZA.out.cell 0
    have d1 := HZA.out.cell 1
    have d2 := HZA.out.cell 2
    have d3 := HZA.out.cell 3
    have d4 := HZA.out.cell 4
    have d5 := HZA.out.cell 5
    simp only [List.getElem?_toArray, List.getElem?_cons_zero, List.getElem?_cons_succ] at d0 d1 d2 d3 d4 d5
    have df0 := HZA.out.free 0
    have df1 := HZA.out.free 1
    have df2 := HZA.out.free 2
    have df3 := HZA.out.free 3
    have df4 := HZA.out.free 4
    have df5 := HZA.out.free 5
    clear HZA
    go_wp2
    refine bodyPost_ret (v := .tuple #[.agg #[.slice none 0 0, .int .i64 0, .int .i64 0, .bool false, .slice none 0 0, .int .i64 0], .int .i64 CK]) (by simp [results, Tryz.results13, go_sem, d0, d1, d2, d3, d4, d5]) rfl ⟨leN_none _ _ HQ.out, below_six HBA.out (Nat.le_succ _) _ _ _ _ _ _⟩
  have hqn := F2.out h1
  subst hqn
  have HMY : Hid (200 < ps.length → Q = (Ld.Leader.none, 2)) := F3.out h1
  have HIN : Hid (¬ 200 < ps.length → Q = Ld.replayFrom ⟨f, L, R, W, d⟩ (Ld.freshL ⟨f, L, R, W, d⟩) ((ps.drop 0).map Prod.fst)) := F4.out h1
  subst h1
  clear F1 F2 F3 F4
  generalize Ld.freshL ⟨f, L, R, W, d⟩ = FL at *
  obtain ⟨rs, nw, g, bk, ks, nx⟩ := FL
  simp only at HNEW
  simp only [leV, leC]
  have hbA : Below w1.heap.size w1 (w1.alloc (.cells #[.slice a4 rs.length c4, .int .i64 nw, .int .i64 g, .bool bk, .slice a5 ks.length c5, .int .i64 nx] 49)) := (Below.refl _ _).alloc (Nat.le_refl _) _
  have HBA : Hid (Below w.heap.size w (w1.alloc (.cells #[.slice a4 rs.length c4, .int .i64 nw, .int .i64 g, .bool bk, .slice a5 ks.length c5, .int .i64 nx] 49))) := HB1.out.alloc HB1.out.size _
  have HZA : Hid (Blk (w1.alloc (.cells #[.slice a4 rs.length c4, .int .i64 nw, .int .i64 g, .bool bk, .slice a5 ks.length c5, .int .i64 nx] 49)) (w.heap.size + 1) #[.slice none 0 0, .int .i64 0, .int .i64 0, .bool false, .slice none 0 0, .int .i64 0] 49) := HZ1.out.below hbA
  have HKA : Hid (Blk (w1.alloc (.cells #[.slice a4 rs.length c4, .int .i64 nw, .int .i64 g, .bool bk, .slice a5 ks.length c5, .int .i64 nx] 49)) w.heap.size #[.int .i64 f, .slice a1 n1 c1, .slice a2 n2 c2, .slice a3 n3 c3, .int .i64 d] 45) := HK1.out.below hbA
  have HGA : Hid (Blk (w1.alloc (.cells #[.slice a4 rs.length c4, .int .i64 nw, .int .i64 g, .bool bk, .slice a5 ks.length c5, .int .i64 nx] 49)) w1.heap.size #[.slice a4 rs.length c4, .int .i64 nw, .int .i64 g, .bool bk, .slice a5 ks.length c5, .int .i64 nx] 49) := blk_alloc w1 _ _
  have HLA : Hid (Keep (fun x => x < w.heap.size + 1 + 1 ∨ x = w1.heap.size) (fun w => LdAt w ⟨rs, nw, g, bk, ks, nx⟩ (.slice a4 rs.length c4) (.slice a5 ks.length c5)) (w1.alloc (.cells #[.slice a4 rs.length c4, .int .i64 nw, .int .i64 g, .bool bk, .slice a5 ks.length c5, .int .i64 nx] 49))) := Keep.grow HNEW.out hbA (fun x hx => by rcases hx with hx | hx; exact .inl hx; exact .inr (by omega))
  go_upto_region 2 with fail
  generalize (w1.alloc (.cells #[.slice a4 rs.length c4, .int .i64 nw, .int .i64 g, .bool bk, .slice a5 ks.length c5, .int .i64 nx] 49)) = w2 at HBA HZA HKA HGA HLA ⊢
  generalize w1.heap.size = g6 at HGA HLA hg6 ⊢
  clear HB1 HK1 HZ1 HNEW hbA
  by_cases h2 : 200 < ps.length
  · have HQ : Hid (Q = (Ld.Leader.none, 2)) := HMY.out h2
    have h2' : (200 : Int) < (ps.length : Int) := by omega
    have h2b : decide ((200 : Int) < (ps.length : Int)) = true := decide_eq_true h2'
    clear HMY HIN h2 HKA HGA HLA HNX HRS HST HEN
    have d0 := HZA.out.cell 0
    have d1 := HZA.out.cell 1
    have d2 := HZA.out.cell 2
    have d3 := HZA.out.cell 3
    have d4 := HZA.out.cell 4
    have d5 := HZA.out.cell 5
    simp only [List.getElem?_toArray, List.getElem?_cons_zero, List.getElem?_cons_succ] at d0 d1 d2 d3 d4 d5
    have df0 := HZA.out.free 0
    have df1 := HZA.out.free 1
    have df2 := HZA.out.free 2
    have df3 := HZA.out.free 3
    have df4 := HZA.out.free 4
    have df5 := HZA.out.free 5
    clear HZA
    go_wp2
    refine bodyPost_ret (v := .tuple #[.agg #[.slice none 0 0, .int .i64 0, .int .i64 0, .bool false, .slice none 0 0, .int .i64 0], .int .i64 2]) (by simp [results, Tryz.results13, go_sem, d0, d1, d2, d3, d4, d5]) rfl ⟨leN_none _ _ HQ.out, below_six HBA.out (Nat.le_succ _) _ _ _ _ _ _⟩
  have h2' : ¬ (200 : Int) < (ps.length : Int) := by omega
  have h2b : decide ((200 : Int) < (ps.length : Int)) = false := decide_eq_false h2'
  have h2c : (ps.length : Int) ≤ 200 := by omega
  have HQ0 := HIN.out h2
  clear HMY HIN h2 h2'
  go_wp2
  go_loopg [25] ps.length (fun gh s25 wr => ∃ (k : Nat) (ld : Ld.Leader) (Y Z : Value), k ≤ ps.length ∧ ps.length - k ≤ gh ∧ s25 = .int .i64 k ∧ Hid (Q = Ld.replayFrom ⟨f, L, R, W, d⟩ ld ((ps.drop k).map Prod.fst)) ∧ Hid (Blk wr g6 #[Y, .int .i64 ld.now, .int .i64 ld.goal, .bool ld.back, Z, .int .i64 ld.next] 49) ∧ Hid (Blk wr (w.heap.size + 1) #[.slice none 0 0, .int .i64 0, .int .i64 0, .bool false, .slice none 0 0, .int .i64 0] 49) ∧ Hid (Blk wr w.heap.size #[.int .i64 f, .slice a1 n1 c1, .slice a2 n2 c2, .slice a3 n3 c3, .int .i64 d] 45) ∧ Hid (Keep (fun x => x < w.heap.size + 1 + 1 ∨ x = g6) (fun w => LdAt w ld Y Z) wr) ∧ Hid (Below w.heap.size w wr))
  case atStart => exact ⟨0, ⟨rs, nw, g, bk, ks, nx⟩, _, _, Nat.zero_le _, by omega, rfl, HQ0, HGA, HZA, HKA, HLA, HBA⟩
  case round =>
    clear HBA HZA HKA HGA HLA HQ0
    obtain ⟨k, ld, Y, Z, hk, hg, rfl, HQk, HGk, HZk, HKk, HLk, HBk⟩ := hrel
    obtain ⟨rs', nw', g', bk', ks', nx'⟩ := ld
    have hld := HLk.out.here
    obtain ⟨b4, e4, rfl⟩ := relA_slice hld.1
    obtain ⟨b5, e5, rfl⟩ := knows_slice hld.2
    have HLD : Hid (LdAt wr ⟨rs', nw', g', bk', ks', nx'⟩ _ _) := hld
    simp only at HGk HLk HLD
    clear hld
    have kg0 := HGk.out.cell 0
    have kg1 := HGk.out.cell 1
    have kg2 := HGk.out.cell 2
    have kg3 := HGk.out.cell 3
    have kg4 := HGk.out.cell 4
    have kg5 := HGk.out.cell 5
    simp only [List.getElem?_toArray, List.getElem?_cons_zero, List.getElem?_cons_succ] at kg0 kg1 kg2 kg3 kg4 kg5
    have kc0 := HKk.out.cell 0
    have kc1 := HKk.out.cell 1
    have kc2 := HKk.out.cell 2
    have kc3 := HKk.out.cell 3
    have kc4 := HKk.out.cell 4
    simp only [List.getElem?_toArray, List.getElem?_cons_zero, List.getElem?_cons_succ] at kc0 kc1 kc2 kc3 kc4
    have kz0 := HZk.out.cell 0
    have kz1 := HZk.out.cell 1
    have kz2 := HZk.out.cell 2
    have kz3 := HZk.out.cell 3
    have kz4 := HZk.out.cell 4
    have kz5 := HZk.out.cell 5
    simp only [List.getElem?_toArray, List.getElem?_cons_zero, List.getElem?_cons_succ] at kz0 kz1 kz2 kz3 kz4 kz5
    have kzf0 := HZk.out.free 0
    have kzf1 := HZk.out.free 1
    have kzf2 := HZk.out.free 2
    have kzf3 := HZk.out.free 3
    have kzf4 := HZk.out.free 4
    have kzf5 := HZk.out.free 5
    have hl6 : g6 < wr.heap.size := HGk.out.lt
    have hlw : w.heap.size < wr.heap.size := HKk.out.lt
    have hlz : w.heap.size + 1 < wr.heap.size := HZk.out.lt
    by_cases hlt : k < ps.length
    rotate_left
    · have hk' : k = ps.length := by omega
      have HQ : Hid (Q = (⟨rs', nw', g', bk', ks', nx'⟩, 0)) := HQk.out.trans (HEN.out _ k (by omega))
      subst hk'
      clear hk hlt HQk HST HEN HNX HRS HLD HKk HGk HZk kc0 kc1 kc2 kc3 kc4
      have hne6 : ¬ g6 = w.heap.size + 1 := by omega
      have hne6' : ¬ w.heap.size + 1 = g6 := by omega
      go_wp2
      refine bodyPost_ret (v := .tuple #[.agg #[.slice b4 rs'.length e4, .int .i64 nw', .int .i64 g', .bool bk', .slice b5 ks'.length e5, .int .i64 nx'], .int .i64 0]) (by simp [results, Tryz.results13, go_sem, kz0, kz1, kz2, kz3, kz4, kz5]) rfl ⟨?_, below_six HBk.out (Nat.le_succ _) _ _ _ _ _ _⟩
      rw [HQ.out]
      refine ⟨_, _, rfl, ?_⟩
      exact Keep.sub (Keep.six HLk.out (.inl (by omega)) _ _ _ _ _ _) (fun x hx => .inl (by omega))
    have hat : ps[k]? = some (ps[k].1, ps[k].2) := List.getElem?_eq_getElem hlt
    obtain ⟨rb, ro, rfl, hrb, r0, r1, r2, r3, r4, r5, r6⟩ := recs_at (HRS.out.below HBk.out) hat
    have hP := recs_pins (HRS.out.below HBk.out) _ (List.getElem_mem hlt)
    have HS := HST.out ⟨rs', nw', g', bk', ks', nx'⟩ k _ _ hat
    have HNC := HNX.out ⟨rs', nw', g', bk', ks', nx'⟩ (.slice b4 rs'.length e4) (.slice b5 ks'.length e5) ps[k].1 ps[k].2
    generalize ps[k] = p at r0 r1 r2 r3 r4 r5 r6 hP HS HNC
    obtain ⟨⟨rk, ra, rt, rn, rg, ri, lk⟩, z⟩ := p
    simp only at r0 r1 r2 r3 r4 r5 r6 hP HNC
    obtain ⟨az, cz, rfl⟩ := pins_slice hP
    have hx := box1 wr #[.int .i64 rk, .int .i64 ra, .int .i64 rt, .int .i64 rn, .bool rg, .int .i64 ri, .slice az lk.length cz] 34
    have HCL := HNC (wr.alloc (.cells #[.int .i64 rk, .int .i64 ra, .int .i64 rt, .int .i64 rn, .bool rg, .int .i64 ri, .slice az lk.length cz] 34)) (HBk.out.trans (hx.1.mono HBk.out.size)) (HLD.out.below hx.1) (hP.below hx.1)
    simp only [leV, leC] at HCL
    have HX1 : Hid (Below wr.heap.size wr (wr.alloc (.cells #[.int .i64 rk, .int .i64 ra, .int .i64 rt, .int .i64 rn, .bool rg, .int .i64 ri, .slice az lk.length cz] 34))) := hx.1
    have HS' : Hid (_ = _) := HS
    have hklt : (k : Int) < ps.length := by omega
    clear hx hP HNC HS HLD
    generalize Ld.nextL ⟨f, L, R, W, d⟩ ⟨rs', nw', g', bk', ks', nx'⟩ ⟨rk, ra, rt, rn, rg, ri, lk⟩ = q at HCL HS'
    obtain ⟨⟨rs2, nw2, g2, bk2, ks2, nx2⟩, E2⟩ := q
    go_wp2_with fail
    refine HCL.mono ?_
    rintro e w3 ⟨⟨Y2, Z2, rfl, hn2⟩, hb3⟩
    have hl2 := hn2.here
    obtain ⟨b42, e42, rfl⟩ := relA_slice hl2.1
    obtain ⟨b52, e52, rfl⟩ := knows_slice hl2.2
    have hb3' := HX1.out.trans (hb3.mono HX1.out.size)
    have hK3 := HKk.out.below hb3'
    have hG3 := HGk.out.below hb3'
    have hZ3 := HZk.out.below hb3'
    have HB3 : Hid (Below w.heap.size w w3) := HBk.out.trans (hb3'.mono HBk.out.size)
    have HN2 : Hid (Keep (fun x => x < w.heap.size + 1 + 1 ∨ x = g6) (fun w => LdAt w ⟨rs2, nw2, g2, bk2, ks2, nx2⟩ (.slice b42 rs2.length e42) (.slice b52 ks2.length e52)) w3) := Keep.sub hn2 (fun x hx => by have := HX1.out.size; rcases hx with hx | hx <;> omega)
    have HK3 : Hid (Blk w3 w.heap.size #[.int .i64 f, .slice a1 n1 c1, .slice a2 n2 c2, .slice a3 n3 c3, .int .i64 d] 45) := hK3
    have HG3 : Hid (Blk w3 g6 _ 49) := hG3
    have HZ3 : Hid (Blk w3 (w.heap.size + 1) #[.slice none 0 0, .int .i64 0, .int .i64 0, .bool false, .slice none 0 0, .int .i64 0] 49) := hZ3
    simp only [leV, leC]
    clear hb3 hb3' hn2 hl2 hK3 hZ3 HCL HKk HGk HZk HLk HX1 kg0 kg1 kg2 kg3 kg4 kg5 kc0 kc1 kc2 kc3 kc4 kz0 kz1 kz2 kz3 kz4 kz5 kzf0 kzf1 kzf2 kzf3 kzf4 kzf5 r0 r1 r2 r3 r4 r5 r6
    have jg0 := hG3.cell 0
    have jg1 := hG3.cell 1
    have jg2 := hG3.cell 2
    have jg3 := hG3.cell 3
    have jg4 := hG3.cell 4
    have jg5 := hG3.cell 5
    simp only [List.getElem?_toArray, List.getElem?_cons_zero, List.getElem?_cons_succ] at jg0 jg1 jg2 jg3 jg4 jg5
    have jgf0 := hG3.free 0
    have jgf1 := hG3.free 1
    have jgf2 := hG3.free 2
    have jgf3 := hG3.free 3
    have jgf4 := hG3.free 4
    have jgf5 := hG3.free 5
    have jz0 := HZ3.out.cell 0
    have jz1 := HZ3.out.cell 1
    have jz2 := HZ3.out.cell 2
    have jz3 := HZ3.out.cell 3
    have jz4 := HZ3.out.cell 4
    have jz5 := HZ3.out.cell 5
    simp only [List.getElem?_toArray, List.getElem?_cons_zero, List.getElem?_cons_succ] at jz0 jz1 jz2 jz3 jz4 jz5
    have jzf0 := HZ3.out.free 0
    have jzf1 := HZ3.out.free 1
    have jzf2 := HZ3.out.free 2
    have jzf3 := HZ3.out.free 3
    have jzf4 := HZ3.out.free 4
    have jzf5 := HZ3.out.free 5
    clear hG3
    have hne6 : ¬ g6 = w.heap.size + 1 := by omega
    have hne6' : ¬ w.heap.size + 1 = g6 := by omega
    have hgz : w.heap.size ≤ g6 := by omega
    by_cases h3 : E2 = 0
    · subst h3
      have HQ2 : Hid (Q = Ld.replayFrom ⟨f, L, R, W, d⟩ ⟨rs2, nw2, g2, bk2, ks2, nx2⟩ ((ps.drop (k + 1)).map Prod.fst)) := (show Q = _ from by
        have := HQk.out.trans HS'.out
        simpa using this)
      clear HQk HS'
      go_wp2
      go_roundg (ps.length - (k + 1))
      case measure => omega
      case rel =>
        refine ⟨k + 1, ⟨rs2, nw2, g2, bk2, ks2, nx2⟩, .slice b42 rs2.length e42, .slice b52 ks2.length e52, by omega, by omega, by go_num, HQ2, ?_, ?_, ?_, ?_, ?_⟩
        · exact (((((HG3.out.put 0 _).put 1 _).put 2 _).put 3 _).put 4 _).put 5 _
        · exact HZ3.out.six hne6 _ _ _ _ _ _
        · exact HK3.out.six (by omega) _ _ _ _ _ _
        · exact HN2.out.six (.inr rfl) _ _ _ _ _ _
        · exact below_six HB3.out hgz _ _ _ _ _ _
    · have HQ : Hid (Q = (Ld.Leader.none, E2)) := (show Q = _ from by
        have := HQk.out.trans HS'.out
        simpa [h3] using this)
      have h3' : (E2 != 0) = true := by rw [bne_iff_ne]; exact h3
      clear HQk HS' h3 HN2 HK3 HG3
      have HB6 : Hid (∀ v0 v1 v2 v3 v4 v5 u0 u1 u2 u3 u4 u5, Below w.heap.size w ((((((((((((w3.setCell ⟨g6, 0, none⟩ v0).setCell ⟨g6, 1, none⟩ v1).setCell ⟨g6, 2, none⟩ v2).setCell ⟨g6, 3, none⟩ v3).setCell ⟨g6, 4, none⟩ v4).setCell ⟨g6, 5, none⟩ v5).setCell ⟨w.heap.size + 1, 0, none⟩ u0).setCell ⟨w.heap.size + 1, 1, none⟩ u1).setCell ⟨w.heap.size + 1, 2, none⟩ u2).setCell ⟨w.heap.size + 1, 3, none⟩ u3).setCell ⟨w.heap.size + 1, 4, none⟩ u4).setCell ⟨w.heap.size + 1, 5, none⟩ u5)) := fun v0 v1 v2 v3 v4 v5 u0 u1 u2 u3 u4 u5 => below_six (below_six HB3.out hgz v0 v1 v2 v3 v4 v5) (Nat.le_succ _) u0 u1 u2 u3 u4 u5
      go_wp2
      refine bodyPost_ret (v := .tuple #[.agg #[.slice none 0 0, .int .i64 0, .int .i64 0, .bool false, .slice none 0 0, .int .i64 0], .int .i64 E2]) (by simp [results, Tryz.results13, go_sem, jz0, jz1, jz2, jz3, jz4, jz5]) rfl ⟨leN_none _ _ HQ.out, HB6.out _ _ _ _ _ _ _ _ _ _ _ _⟩
end Go.Proofs.YtpenkhehceglfaaGreatDoor
