/- The contract of the document's AgentReplay. -/
import Derived.Test.YtbnaaookeagjgaaAG5
import Derived.Test.YtbnaaookeagjgaaARep
import Derived.Test.YtbnaaookeagjgaaAV5
namespace Go.Proofs.Ytbnaaookeagjgaa
open Go.RowKit
set_option maxHeartbeats 16000000 in
set_option maxRecDepth 100000 in
theorem agReplayR_any (i : Int) (v vs : Value) (l : List (Int × Int)) (ps : List (Lk.Note × Value)) (w : World) (hP : PinsAt w v l) (hR : RecsAt w vs ps)
    (hC : ∀ q ∈ ps, ∀ w', PinsAt w' q.2 q.1.lock → Calls Try.prog 32 #[recV q.1 q.2] w' fun e w'' => e = .returned (.int .i64 (Lk.chkNote q.1)) ∧ Below w'.heap.size w' w'') :
    Calls Try.prog 19 #[relV i v, vs] w fun e w' => agR w' (Ag.replayA i l (ps.map Prod.fst)) e ∧ Below w.heap.size w w' := by
  obtain ⟨a, c, rfl⟩ := pins_slice hP
  obtain ⟨pa, pc, rfl⟩ := recs_slice hR
  have HCl : Hid (∀ w', Below w.heap.size w w' → Calls Try.prog 11 #[.agg #[.int .i64 i, .slice a l.length c]] w' fun e w'' => e = .returned (.int .i64 (Lk.chkRel i l)) ∧ Below w'.heap.size w' w'') := fun w' hb => releaseR_any i _ l w' (hP.below hb)
  have HRs : Hid (RecsAt w (.slice pa ps.length pc) ps ∧ ∀ w', Below w.heap.size w w' → RecsAt w' (.slice pa ps.length pc) ps) := ⟨hR, fun w' hb => hR.below hb⟩
  have HCk : Hid (∀ q ∈ ps, ∀ w', PinsAt w' q.2 q.1.lock → Calls Try.prog 32 #[recV q.1 q.2] w' fun e w'' => e = .returned (.int .i64 (Lk.chkNote q.1)) ∧ Below w'.heap.size w' w'') := hC
  have HPl : Hid (PinsAt w (.slice a l.length c) l) := hP
  have F1 : Hid (¬ Lk.chkRel i l = 0 → Ag.replayA i l (ps.map Prod.fst) = (Ag.Agent.none, Lk.chkRel i l)) := fun h => rep_bad h
  have F2 : Hid (Lk.chkRel i l = 0 → (200 < ps.length → Ag.replayA i l (ps.map Prod.fst) = (Ag.Agent.none, 2)) ∧ (¬ 200 < ps.length → Ag.replayA i l (ps.map Prod.fst) = Ag.replayFrom ⟨l, i, 0, false, 0, [], true⟩ ((ps.drop 0).map Prod.fst)) ∧ Ag.chkAgent ⟨l, i, 0, false, 0, [], true⟩ = 0) := fun h => ⟨fun h2 => rep_many h (by simpa using h2), fun h2 => rep_in h (by simpa using h2), Ag.fresh_chk h⟩
  clear hP hR hC
  unfold relV
  generalize Ag.replayA i l (ps.map Prod.fst) = Q at F1 F2 ⊢
  generalize Lk.chkRel i l = C at F1 F2 HCl
  generalize l.length = n at HCl HPl ⊢
  generalize hm : ps.length = m at HRs F2 ⊢
  have HM : Hid (ps.length = m) := hm
  clear hm
  have HB0 : Hid (Below w.heap.size w ((w.alloc (.cells #[.int .i64 i, .slice a n c] 24)).alloc (.cells #[.slice none 0 0, .int .i64 0, .int .i64 0, .bool false, .int .i64 0, .slice none 0 0, .bool false] 26))) := ((Below.refl _ w).alloc (Nat.le_refl _) _).alloc (by simp) _
  have HK0 : Hid (Blk ((w.alloc (.cells #[.int .i64 i, .slice a n c] 24)).alloc (.cells #[.slice none 0 0, .int .i64 0, .int .i64 0, .bool false, .int .i64 0, .slice none 0 0, .bool false] 26)) w.heap.size #[.int .i64 i, .slice a n c] 24) := (blk_alloc w _ _).below ((Below.refl _ _).alloc (Nat.le_refl _) _)
  have HZ0 : Hid (Blk ((w.alloc (.cells #[.int .i64 i, .slice a n c] 24)).alloc (.cells #[.slice none 0 0, .int .i64 0, .int .i64 0, .bool false, .int .i64 0, .slice none 0 0, .bool false] 26)) (w.heap.size + 1) #[.slice none 0 0, .int .i64 0, .int .i64 0, .bool false, .int .i64 0, .slice none 0 0, .bool false] 26) := by
    have := blk_alloc (w.alloc (.cells #[.int .i64 i, .slice a n c] 24)) #[.slice none 0 0, .int .i64 0, .int .i64 0, .bool false, .int .i64 0, .slice none 0 0, .bool false] 26
    rwa [World.size_alloc] at this
  go_enter Try.func19, Try.ntmps19
  go_upto_region 1 with fail
  generalize ((w.alloc (.cells #[.int .i64 i, .slice a n c] 24)).alloc (.cells #[.slice none 0 0, .int .i64 0, .int .i64 0, .bool false, .int .i64 0, .slice none 0 0, .bool false] 26)) = w0 at HB0 HK0 HZ0 ⊢
  have k0 := HK0.out.cell 0
  have k1 := HK0.out.cell 1
  simp only [List.getElem?_toArray, List.getElem?_cons_zero, List.getElem?_cons_succ] at k0 k1
  go_wp2_with fail
  refine (HCl.out _ HB0.out).mono ?_
  rintro e w1 ⟨rfl, hb1⟩
  have HB1 : Hid (Below w.heap.size w w1) := HB0.out.trans (hb1.mono HB0.out.size)
  have HK1 : Hid (Blk w1 w.heap.size #[.int .i64 i, .slice a n c] 24) := HK0.out.below hb1
  have HZ1 : Hid (Blk w1 (w.heap.size + 1) #[.slice none 0 0, .int .i64 0, .int .i64 0, .bool false, .int .i64 0, .slice none 0 0, .bool false] 26) := HZ0.out.below hb1
  clear hb1 HB0 HK0 HZ0 HCl k0 k1
  by_cases h1 : C = 0
  rotate_left
  · have h1b : (C != 0) = true := by rw [bne_iff_ne]; exact h1
    have HQ : Hid (Q = (Ag.Agent.none, C)) := F1.out h1
    clear F1 F2 h1 HRs HCk HPl HK1
    have d0 := HZ1.out.cell 0
    have d1 := HZ1.out.cell 1
    have d2 := HZ1.out.cell 2
    have d3 := HZ1.out.cell 3
    have d4 := HZ1.out.cell 4
    have d5 := HZ1.out.cell 5
    have d6 := HZ1.out.cell 6
    simp only [List.getElem?_toArray, List.getElem?_cons_zero, List.getElem?_cons_succ] at d0 d1 d2 d3 d4 d5 d6
    have df0 := HZ1.out.free 0
    have df1 := HZ1.out.free 1
    have df2 := HZ1.out.free 2
    have df3 := HZ1.out.free 3
    have df4 := HZ1.out.free 4
    have df5 := HZ1.out.free 5
    have df6 := HZ1.out.free 6
    clear HZ1
    go_wp2
    refine bodyPost_ret (v := .tuple #[.agg #[.slice none 0 0, .int .i64 0, .int .i64 0, .bool false, .int .i64 0, .slice none 0 0, .bool false], .int .i64 C]) (by simp [results, Try.results19, go_sem, d0, d1, d2, d3, d4, d5, d6]) rfl ⟨agR_none _ HQ.out, ?_⟩
    exact (((((((HB1.out.setCell (Nat.le_succ _) _).setCell (Nat.le_succ _) _).setCell (Nat.le_succ _) _).setCell (Nat.le_succ _) _).setCell (Nat.le_succ _) _).setCell (Nat.le_succ _) _).setCell (Nat.le_succ _) _)
  subst h1
  obtain ⟨hmany, hin, hck⟩ := F2.out rfl
  have HCg : Hid (Ag.chkAgent ⟨l, i, 0, false, 0, [], true⟩ = 0) := hck
  have HMy : Hid (200 < m → Q = (Ag.Agent.none, 2)) := hmany
  have HIn : Hid (¬ 200 < m → Q = Ag.replayFrom ⟨l, i, 0, false, 0, [], true⟩ ((ps.drop 0).map Prod.fst)) := hin
  clear F1 F2 hmany hin hck
  by_cases h2 : 200 < m
  · have HQ : Hid (Q = (Ag.Agent.none, 2)) := HMy.out h2
    have h2' : (200 : Int) < (m : Int) := by omega
    have h2b : decide ((200 : Int) < (m : Int)) = true := decide_eq_true h2'
    clear HMy HIn h2 HRs HCk HPl HK1 HCg
    have d0 := HZ1.out.cell 0
    have d1 := HZ1.out.cell 1
    have d2 := HZ1.out.cell 2
    have d3 := HZ1.out.cell 3
    have d4 := HZ1.out.cell 4
    have d5 := HZ1.out.cell 5
    have d6 := HZ1.out.cell 6
    simp only [List.getElem?_toArray, List.getElem?_cons_zero, List.getElem?_cons_succ] at d0 d1 d2 d3 d4 d5 d6
    have df0 := HZ1.out.free 0
    have df1 := HZ1.out.free 1
    have df2 := HZ1.out.free 2
    have df3 := HZ1.out.free 3
    have df4 := HZ1.out.free 4
    have df5 := HZ1.out.free 5
    have df6 := HZ1.out.free 6
    clear HZ1
    go_wp2
    refine bodyPost_ret (v := .tuple #[.agg #[.slice none 0 0, .int .i64 0, .int .i64 0, .bool false, .int .i64 0, .slice none 0 0, .bool false], .int .i64 2]) (by simp [results, Try.results19, go_sem, d0, d1, d2, d3, d4, d5, d6]) rfl ⟨agR_none _ HQ.out, ?_⟩
    exact (((((((HB1.out.setCell (Nat.le_succ _) _).setCell (Nat.le_succ _) _).setCell (Nat.le_succ _) _).setCell (Nat.le_succ _) _).setCell (Nat.le_succ _) _).setCell (Nat.le_succ _) _).setCell (Nat.le_succ _) _)
  have h2' : ¬ (200 : Int) < (m : Int) := by omega
  have h2b : decide ((200 : Int) < (m : Int)) = false := decide_eq_false h2'
  have h2c : (m : Int) ≤ 200 := by omega
  have HQ0 := HIn.out h2
  have HM200 : Hid (m ≤ 200) := (show m ≤ 200 by omega)
  clear HMy HIn h2 h2'
  have hbA : Below w1.heap.size w1 (w1.alloc (.cells #[.slice a n c, .int .i64 i, .int .i64 0, .bool false, .int .i64 0, .slice none 0 0, .bool true] 26)) := (Below.refl _ _).alloc (Nat.le_refl _) _
  have HBA : Hid (Below w.heap.size w (w1.alloc (.cells #[.slice a n c, .int .i64 i, .int .i64 0, .bool false, .int .i64 0, .slice none 0 0, .bool true] 26))) := HB1.out.alloc HB1.out.size _
  have HZA : Hid (Blk (w1.alloc (.cells #[.slice a n c, .int .i64 i, .int .i64 0, .bool false, .int .i64 0, .slice none 0 0, .bool true] 26)) (w.heap.size + 1) #[.slice none 0 0, .int .i64 0, .int .i64 0, .bool false, .int .i64 0, .slice none 0 0, .bool false] 26) := HZ1.out.below hbA
  have HKA : Hid (Blk (w1.alloc (.cells #[.slice a n c, .int .i64 i, .int .i64 0, .bool false, .int .i64 0, .slice none 0 0, .bool true] 26)) w1.heap.size #[.slice a n c, .int .i64 i, .int .i64 0, .bool false, .int .i64 0, .slice none 0 0, .bool true] 26) := blk_alloc w1 _ _
  have HPA : Hid (PinsOff (w1.alloc (.cells #[.slice a n c, .int .i64 i, .int .i64 0, .bool false, .int .i64 0, .slice none 0 0, .bool true] 26)) w1.heap.size (.slice a n c) l) := HPl.out.older HBA.out HB1.out.size
  have HG7 : Hid (w.heap.size + 1 < w1.heap.size) := HZ1.out.lt
  have k0 := HK1.out.cell 0
  have k1 := HK1.out.cell 1
  simp only [List.getElem?_toArray, List.getElem?_cons_zero, List.getElem?_cons_succ] at k0 k1
  clear hbA HB1 HK1 HZ1 HPl
  go_upto_region 7 with fail
  clear k0 k1
  generalize (w1.alloc (.cells #[.slice a n c, .int .i64 i, .int .i64 0, .bool false, .int .i64 0, .slice none 0 0, .bool true] 26)) = w2 at HBA HZA HKA HPA ⊢
  generalize w1.heap.size = g7 at HKA HG7 HPA ⊢
  go_wp2
  go_loopg [29] m (fun gh s29 wr => ∃ (k : Nat) (al am : List (Int × Int)) (aa at_ ai : Int) (ag ad : Bool) (sa : Option Addr) (sn sc : Nat) (ta : Option Addr) (tn tc : Nat), k ≤ m ∧ m - k ≤ gh ∧ s29 = .int .i64 k ∧ Hid (Q = Ag.replayFrom ⟨al, aa, at_, ag, ai, am, ad⟩ ((ps.drop k).map Prod.fst) ∧ Ag.chkAgent ⟨al, aa, at_, ag, ai, am, ad⟩ = 0 ∧ Blk wr g7 #[.slice sa sn sc, .int .i64 aa, .int .i64 at_, .bool ag, .int .i64 ai, .slice ta tn tc, .bool ad] 26 ∧ Blk wr (w.heap.size + 1) #[.slice none 0 0, .int .i64 0, .int .i64 0, .bool false, .int .i64 0, .slice none 0 0, .bool false] 26 ∧ PinsOff wr g7 (.slice sa sn sc) al ∧ PinsOff wr g7 (.slice ta tn tc) am ∧ Below w.heap.size w wr))
  case atStart => exact ⟨0, l, [], i, 0, 0, false, true, a, n, c, none, 0, 0, Nat.zero_le _, by omega, rfl, ⟨HQ0, HCg.out, HKA.out, HZA.out, HPA.out, pinsOff_none _ _, HBA.out⟩⟩
  case round =>
    clear HBA HZA HKA HPA HCg HQ0
    obtain ⟨k, al, am, aa, at_, ai, ag, ad, sa, sn, sc, ta, tn, tc, hk, hg, rfl, HI⟩ := hrel
    by_cases hlt : k < m
    rotate_left
    · have hk' : k = m := by omega
      have HQ : Hid (Q = (⟨al, aa, at_, ag, ai, am, ad⟩, 0)) := (show Q = _ from HI.out.1.trans (rep_end (by have := HM.out; omega)))
      have hlt1 : ¬ (k : Int) < (m : Int) := by omega
      have hlt2 : decide ((k : Int) < (m : Int)) = false := decide_eq_false hlt1
      have hlt3 : (m : Int) ≤ (k : Int) := by omega
      have hK := HI.out.2.2.1
      have hZ := HI.out.2.2.2.1
      have k0 := hK.cell 0
      have k1 := hK.cell 1
      have k2 := hK.cell 2
      have k3 := hK.cell 3
      have k4 := hK.cell 4
      have k5 := hK.cell 5
      have k6 := hK.cell 6
      simp only [List.getElem?_toArray, List.getElem?_cons_zero, List.getElem?_cons_succ] at k0 k1 k2 k3 k4 k5 k6
      have d0 := hZ.cell 0
      have d1 := hZ.cell 1
      have d2 := hZ.cell 2
      have d3 := hZ.cell 3
      have d4 := hZ.cell 4
      have d5 := hZ.cell 5
      have d6 := hZ.cell 6
      simp only [List.getElem?_toArray, List.getElem?_cons_zero, List.getElem?_cons_succ] at d0 d1 d2 d3 d4 d5 d6
      have df0 := hZ.free 0
      have df1 := hZ.free 1
      have df2 := hZ.free 2
      have df3 := hZ.free 3
      have df4 := hZ.free 4
      have df5 := hZ.free 5
      have df6 := hZ.free 6
      have HC1 : Hid (Lk.chk al = 0 ∧ Lk.chk am = 0) := agent_chks HI.out.2.1
      clear hK hZ hlt hlt1 hk' HRs HCk
      go_wp2
      refine bodyPost_ret (v := .tuple #[.agg #[.slice sa sn sc, .int .i64 aa, .int .i64 at_, .bool ag, .int .i64 ai, .slice ta tn tc, .bool ad], .int .i64 0]) (by simp [results, Try.results19, go_sem, d0, d1, d2, d3, d4, d5, d6]) rfl ⟨?_, ?_⟩
      · rw [HQ.out]
        exact ⟨_, _, rfl, ((((((((PinsAt.offZ HI.out.2.2.2.2.1.pins HC1.out.1 (blkZ HI.out.2.2.2.1)).set).set).set).set).set).set).set).pins, ((((((((PinsAt.offZ HI.out.2.2.2.2.2.1.pins HC1.out.2 (blkZ HI.out.2.2.2.1)).set).set).set).set).set).set).set).pins⟩
      · exact (((((((HI.out.2.2.2.2.2.2.setCell (Nat.le_succ _) _).setCell (Nat.le_succ _) _).setCell (Nat.le_succ _) _).setCell (Nat.le_succ _) _).setCell (Nat.le_succ _) _).setCell (Nat.le_succ _) _).setCell (Nat.le_succ _) _)
    have hlt1 : (k : Int) < (m : Int) := by omega
    have hlt2 : decide ((k : Int) < (m : Int)) = true := decide_eq_true hlt1
    obtain ⟨⟨r, z⟩, hr⟩ : ∃ x, ps[k]? = some x := ⟨_, List.getElem?_eq_getElem (show k < ps.length by have := HM.out; omega)⟩
    have hRS := HRs.out.2 wr HI.out.2.2.2.2.2.2
    obtain ⟨rb, ro, rfl, hrb, c0, c1, c2, c3, c4, c5, c6⟩ := recs_at hRS hr
    have hzw : PinsAt w z r.lock := recs_pins HRs.out.1 (r, z) (List.mem_of_getElem? hr)
    have HZw : Hid (PinsAt w z r.lock) := hzw
    have hck := HCk.out (r, z) (List.mem_of_getElem? hr)
    obtain ⟨b, f, rfl⟩ := pins_slice hzw
    have HST := rep_step (A := ⟨al, aa, at_, ag, ai, am, ad⟩) hr
    have HNX : Hid (∀ w', Below w.heap.size w w' → Below wr.heap.size wr w' → Calls Try.prog 9 #[agV ⟨al, aa, at_, ag, ai, am, ad⟩ (.slice sa sn sc) (.slice ta tn tc), recV r (.slice b r.lock.length f)] w' fun e w'' => agX w' w'' (.slice sa sn sc) (.slice ta tn tc) (.slice b r.lock.length f) al am r.lock (Ag.nextA ⟨al, aa, at_, ag, ai, am, ad⟩ r) e ∧ Below w'.heap.size w' w'') := fun w' hw hb => agNextR_any al am r.lock aa at_ ai r.kind r.agent r.tr r.n r.id ag ad r.good _ _ _ w' (HI.out.2.2.2.2.1.pins.below hb) (HI.out.2.2.2.2.2.1.pins.below hb) (hzw.below hw) (fun w'' hb2 => hck w'' ((hzw.below hw).below hb2))
    have HCn : Hid ((Ag.nextA ⟨al, aa, at_, ag, ai, am, ad⟩ r).2 = 0 → Ag.chkAgent (Ag.nextA ⟨al, aa, at_, ag, ai, am, ad⟩ r).1 = 0) := fun h => (Ag.next_chk h).2.2
    clear hRS hzw hr hck
    obtain ⟨r1, r2, r3, r4, r5, r6, r7⟩ := r
    simp only at c0 c1 c2 c3 c4 c5 c6 HZw
    unfold agV agC recV at HNX
    simp only at HNX
    generalize r7.length = q at HNX c6 HZw
    generalize Ag.nextA ⟨al, aa, at_, ag, ai, am, ad⟩ ⟨r1, r2, r3, r4, r5, r6, r7⟩ = NX at HST HNX HCn
    have HS1 : Hid (Q = if NX.2 = 0 then Ag.replayFrom NX.1 ((ps.drop (k + 1)).map Prod.fst) else (Ag.Agent.none, NX.2)) := (show Q = _ from HI.out.1.trans HST)
    clear HST
    have hbR : Below wr.heap.size wr (wr.alloc (.cells #[.int .i64 r1, .int .i64 r2, .int .i64 r3, .int .i64 r4, .bool r5, .int .i64 r6, .slice b q f] 28)) := (Below.refl _ _).alloc (Nat.le_refl _) _
    have HBR : Hid (Below wr.heap.size wr (wr.alloc (.cells #[.int .i64 r1, .int .i64 r2, .int .i64 r3, .int .i64 r4, .bool r5, .int .i64 r6, .slice b q f] 28))) := hbR
    have HKR : Hid (Blk (wr.alloc (.cells #[.int .i64 r1, .int .i64 r2, .int .i64 r3, .int .i64 r4, .bool r5, .int .i64 r6, .slice b q f] 28)) g7 #[.slice sa sn sc, .int .i64 aa, .int .i64 at_, .bool ag, .int .i64 ai, .slice ta tn tc, .bool ad] 26) := HI.out.2.2.1.below hbR
    have HRR : Hid (Blk (wr.alloc (.cells #[.int .i64 r1, .int .i64 r2, .int .i64 r3, .int .i64 r4, .bool r5, .int .i64 r6, .slice b q f] 28)) wr.heap.size #[.int .i64 r1, .int .i64 r2, .int .i64 r3, .int .i64 r4, .bool r5, .int .i64 r6, .slice b q f] 28) := blk_alloc wr _ _
    have HBw : Hid (Below w.heap.size w (wr.alloc (.cells #[.int .i64 r1, .int .i64 r2, .int .i64 r3, .int .i64 r4, .bool r5, .int .i64 r6, .slice b q f] 28))) := HI.out.2.2.2.2.2.2.trans (hbR.mono HI.out.2.2.2.2.2.2.size)
    have hsr : ((rb : Nat)) < wr.heap.size := hrb
    clear hbR hrb
    go_upto_region 10 with fail
    clear c0 c1 c2 c3 c4 c5 c6
    generalize (wr.alloc (.cells #[.int .i64 r1, .int .i64 r2, .int .i64 r3, .int .i64 r4, .bool r5, .int .i64 r6, .slice b q f] 28)) = w3 at HBR HKR HRR HBw ⊢
    have k0 := HKR.out.cell 0
    have k1 := HKR.out.cell 1
    have k2 := HKR.out.cell 2
    have k3 := HKR.out.cell 3
    have k4 := HKR.out.cell 4
    have k5 := HKR.out.cell 5
    have k6 := HKR.out.cell 6
    simp only [List.getElem?_toArray, List.getElem?_cons_zero, List.getElem?_cons_succ] at k0 k1 k2 k3 k4 k5 k6
    have x0 := HRR.out.cell 0
    have x1 := HRR.out.cell 1
    have x2 := HRR.out.cell 2
    have x3 := HRR.out.cell 3
    have x4 := HRR.out.cell 4
    have x5 := HRR.out.cell 5
    have x6 := HRR.out.cell 6
    simp only [List.getElem?_toArray, List.getElem?_cons_zero, List.getElem?_cons_succ] at x0 x1 x2 x3 x4 x5 x6
    go_wp2_with fail
    refine (HNX.out _ HBw.out HBR.out).mono ?_
    rintro e w4 ⟨⟨y1, y2, rfl, hy1, hy2, hyo⟩, hb4⟩
    obtain ⟨ua, uc, rfl⟩ := pins_slice hy1
    obtain ⟨va, vc, rfl⟩ := pins_slice hy2
    obtain ⟨⟨bl, ba, bt, bg, bi, bm, bd⟩, NE⟩ := NX
    simp only [agV, agC]
    have hof := hyo g7 HKR.out.lt (HI.out.2.2.2.2.1.below HBR.out) (HI.out.2.2.2.2.2.1.below HBR.out) (HZw.out.older HBw.out (by have := HG7.out; omega))
    simp only at hof HS1 HCn
    clear hyo hy1 hy2
    generalize bl.length = un at hof ⊢
    generalize bm.length = vn at hof ⊢
    have hbA : Below w4.heap.size w4 (w4.alloc (.cells #[.slice ua un uc, .int .i64 ba, .int .i64 bt, .bool bg, .int .i64 bi, .slice va vn vc, .bool bd] 26)) := (Below.refl _ _).alloc (Nat.le_refl _) _
    have hbB : Below w3.heap.size w3 (w4.alloc (.cells #[.slice ua un uc, .int .i64 ba, .int .i64 bt, .bool bg, .int .i64 bi, .slice va vn vc, .bool bd] 26)) := hb4.trans (hbA.mono hb4.size)
    have hbW : Below wr.heap.size wr (w4.alloc (.cells #[.slice ua un uc, .int .i64 ba, .int .i64 bt, .bool bg, .int .i64 bi, .slice va vn vc, .bool bd] 26)) := HBR.out.trans (hbB.mono HBR.out.size)
    have HZ4 : Hid (Blk (w4.alloc (.cells #[.slice ua un uc, .int .i64 ba, .int .i64 bt, .bool bg, .int .i64 bi, .slice va vn vc, .bool bd] 26)) (w.heap.size + 1) #[.slice none 0 0, .int .i64 0, .int .i64 0, .bool false, .int .i64 0, .slice none 0 0, .bool false] 26) := HI.out.2.2.2.1.below hbW
    have HB4 : Hid (Below w.heap.size w (w4.alloc (.cells #[.slice ua un uc, .int .i64 ba, .int .i64 bt, .bool bg, .int .i64 bi, .slice va vn vc, .bool bd] 26))) := HI.out.2.2.2.2.2.2.trans (hbW.mono HI.out.2.2.2.2.2.2.size)
    have HK4 : Hid (Blk (w4.alloc (.cells #[.slice ua un uc, .int .i64 ba, .int .i64 bt, .bool bg, .int .i64 bi, .slice va vn vc, .bool bd] 26)) g7 #[.slice sa sn sc, .int .i64 aa, .int .i64 at_, .bool ag, .int .i64 ai, .slice ta tn tc, .bool ad] 26) := HKR.out.below hbB
    have HN4 : Hid (Blk (w4.alloc (.cells #[.slice ua un uc, .int .i64 ba, .int .i64 bt, .bool bg, .int .i64 bi, .slice va vn vc, .bool bd] 26)) w4.heap.size #[.slice ua un uc, .int .i64 ba, .int .i64 bt, .bool bg, .int .i64 bi, .slice va vn vc, .bool bd] 26) := blk_alloc w4 _ _
    have HY1 : Hid (PinsOff (w4.alloc (.cells #[.slice ua un uc, .int .i64 ba, .int .i64 bt, .bool bg, .int .i64 bi, .slice va vn vc, .bool bd] 26)) g7 (.slice ua un uc) bl) := hof.1.below hbA
    have HY2 : Hid (PinsOff (w4.alloc (.cells #[.slice ua un uc, .int .i64 ba, .int .i64 bt, .bool bg, .int .i64 bi, .slice va vn vc, .bool bd] 26)) g7 (.slice va vn vc) bm) := hof.2.below hbA
    clear hbW hbA hbB hof hb4 HNX k0 k1 k2 k3 k4 k5 k6 x0 x1 x2 x3 x4 x5 x6 HKR HRR HBR HBw HI HRs HCk HZw
    by_cases he : NE = 0
    rotate_left
    · have heb : (NE != 0) = true := by rw [bne_iff_ne]; exact he
      have HQ : Hid (Q = (Ag.Agent.none, NE)) := (show Q = _ from by have := HS1.out; simpa [he] using this)
      clear HS1 HCn HY1 HY2 HK4 HN4
      go_upto_region 11 with fail
      generalize (w4.alloc (.cells #[.slice ua un uc, .int .i64 ba, .int .i64 bt, .bool bg, .int .i64 bi, .slice va vn vc, .bool bd] 26)) = w5 at HZ4 HB4 ⊢
      clear he
      have d0 := HZ4.out.cell 0
      have d1 := HZ4.out.cell 1
      have d2 := HZ4.out.cell 2
      have d3 := HZ4.out.cell 3
      have d4 := HZ4.out.cell 4
      have d5 := HZ4.out.cell 5
      have d6 := HZ4.out.cell 6
      simp only [List.getElem?_toArray, List.getElem?_cons_zero, List.getElem?_cons_succ] at d0 d1 d2 d3 d4 d5 d6
      have df0 := HZ4.out.free 0
      have df1 := HZ4.out.free 1
      have df2 := HZ4.out.free 2
      have df3 := HZ4.out.free 3
      have df4 := HZ4.out.free 4
      have df5 := HZ4.out.free 5
      have df6 := HZ4.out.free 6
      clear HZ4
      go_wp2
      refine bodyPost_ret (v := .tuple #[.agg #[.slice none 0 0, .int .i64 0, .int .i64 0, .bool false, .int .i64 0, .slice none 0 0, .bool false], .int .i64 NE]) (by simp [results, Try.results19, go_sem, d0, d1, d2, d3, d4, d5, d6]) rfl ⟨agR_none _ HQ.out, ?_⟩
      exact (((((((HB4.out.setCell (Nat.le_succ _) _).setCell (Nat.le_succ _) _).setCell (Nat.le_succ _) _).setCell (Nat.le_succ _) _).setCell (Nat.le_succ _) _).setCell (Nat.le_succ _) _).setCell (Nat.le_succ _) _)
    subst he
    have HQ1 : Hid (Q = Ag.replayFrom ⟨bl, ba, bt, bg, bi, bm, bd⟩ ((ps.drop (k + 1)).map Prod.fst)) := (show Q = _ from by have := HS1.out; simpa using this)
    have HC1 : Hid (Ag.chkAgent ⟨bl, ba, bt, bg, bi, bm, bd⟩ = 0) := HCn.out rfl
    clear HS1 HCn
    go_upto_region 11 with fail
    generalize (w4.alloc (.cells #[.slice ua un uc, .int .i64 ba, .int .i64 bt, .bool bg, .int .i64 bi, .slice va vn vc, .bool bd] 26)) = w5 at HZ4 HB4 HK4 HN4 HY1 HY2 ⊢
    generalize w4.heap.size = g10 at HN4 ⊢
    have hz6 : g7 ≠ w.heap.size + 1 := by have := HG7.out; omega
    have hw6 : w.heap.size ≤ g7 := by have := HG7.out; omega
    have HX : Hid (Blk (((((((w5.setCell ⟨g7, 0, none⟩ (.slice ua un uc)).setCell ⟨g7, 1, none⟩ (.int .i64 ba)).setCell ⟨g7, 2, none⟩ (.int .i64 bt)).setCell ⟨g7, 3, none⟩ (.bool bg)).setCell ⟨g7, 4, none⟩ (.int .i64 bi)).setCell ⟨g7, 5, none⟩ (.slice va vn vc)).setCell ⟨g7, 6, none⟩ (.bool bd)) g7 #[.slice ua un uc, .int .i64 ba, .int .i64 bt, .bool bg, .int .i64 bi, .slice va vn vc, .bool bd] 26 ∧ Blk (((((((w5.setCell ⟨g7, 0, none⟩ (.slice ua un uc)).setCell ⟨g7, 1, none⟩ (.int .i64 ba)).setCell ⟨g7, 2, none⟩ (.int .i64 bt)).setCell ⟨g7, 3, none⟩ (.bool bg)).setCell ⟨g7, 4, none⟩ (.int .i64 bi)).setCell ⟨g7, 5, none⟩ (.slice va vn vc)).setCell ⟨g7, 6, none⟩ (.bool bd)) (w.heap.size + 1) #[.slice none 0 0, .int .i64 0, .int .i64 0, .bool false, .int .i64 0, .slice none 0 0, .bool false] 26 ∧ PinsOff (((((((w5.setCell ⟨g7, 0, none⟩ (.slice ua un uc)).setCell ⟨g7, 1, none⟩ (.int .i64 ba)).setCell ⟨g7, 2, none⟩ (.int .i64 bt)).setCell ⟨g7, 3, none⟩ (.bool bg)).setCell ⟨g7, 4, none⟩ (.int .i64 bi)).setCell ⟨g7, 5, none⟩ (.slice va vn vc)).setCell ⟨g7, 6, none⟩ (.bool bd)) g7 (.slice ua un uc) bl ∧ PinsOff (((((((w5.setCell ⟨g7, 0, none⟩ (.slice ua un uc)).setCell ⟨g7, 1, none⟩ (.int .i64 ba)).setCell ⟨g7, 2, none⟩ (.int .i64 bt)).setCell ⟨g7, 3, none⟩ (.bool bg)).setCell ⟨g7, 4, none⟩ (.int .i64 bi)).setCell ⟨g7, 5, none⟩ (.slice va vn vc)).setCell ⟨g7, 6, none⟩ (.bool bd)) g7 (.slice va vn vc) bm ∧ Below w.heap.size w (((((((w5.setCell ⟨g7, 0, none⟩ (.slice ua un uc)).setCell ⟨g7, 1, none⟩ (.int .i64 ba)).setCell ⟨g7, 2, none⟩ (.int .i64 bt)).setCell ⟨g7, 3, none⟩ (.bool bg)).setCell ⟨g7, 4, none⟩ (.int .i64 bi)).setCell ⟨g7, 5, none⟩ (.slice va vn vc)).setCell ⟨g7, 6, none⟩ (.bool bd))) := ⟨((((((HK4.out.put 0 (.slice ua un uc)).put 1 (.int .i64 ba)).put 2 (.int .i64 bt)).put 3 (.bool bg)).put 4 (.int .i64 bi)).put 5 (.slice va vn vc)).put 6 (.bool bd), ((((((HZ4.out.off hz6).off hz6).off hz6).off hz6).off hz6).off hz6).off hz6, ((((((HY1.out.set).set).set).set).set).set).set, ((((((HY2.out.set).set).set).set).set).set).set, ((((((HB4.out.setCell hw6 _).setCell hw6 _).setCell hw6 _).setCell hw6 _).setCell hw6 _).setCell hw6 _).setCell hw6 _⟩
    have k0 := HN4.out.cell 0
    have k1 := HN4.out.cell 1
    have k2 := HN4.out.cell 2
    have k3 := HN4.out.cell 3
    have k4 := HN4.out.cell 4
    have k5 := HN4.out.cell 5
    have k6 := HN4.out.cell 6
    simp only [List.getElem?_toArray, List.getElem?_cons_zero, List.getElem?_cons_succ] at k0 k1 k2 k3 k4 k5 k6
    have x0 := HK4.out.cell 0
    have x1 := HK4.out.cell 1
    have x2 := HK4.out.cell 2
    have x3 := HK4.out.cell 3
    have x4 := HK4.out.cell 4
    have x5 := HK4.out.cell 5
    have x6 := HK4.out.cell 6
    simp only [List.getElem?_toArray, List.getElem?_cons_zero, List.getElem?_cons_succ] at x0 x1 x2 x3 x4 x5 x6
    have xf0 := HK4.out.free 0
    have xf1 := HK4.out.free 1
    have xf2 := HK4.out.free 2
    have xf3 := HK4.out.free 3
    have xf4 := HK4.out.free 4
    have xf5 := HK4.out.free 5
    have xf6 := HK4.out.free 6
    clear hz6 hw6 HZ4 HB4 HK4 HN4 HY1 HY2
    go_wp2
    go_roundg (m - (k + 1))
    case measure => omega
    case rel => exact ⟨k + 1, bl, bm, ba, bt, bi, bg, bd, ua, un, uc, va, vn, vc, by omega, by omega, by go_num, ⟨HQ1.out, HC1.out, HX.out⟩⟩
end Go.Proofs.Ytbnaaookeagjgaa
