/- The contract of agent.Replay. -/
import Derived.Test.YtpenkhehceglfaaGreatDoorAV4
import Derived.Test.YtpenkhehceglfaaGreatDoorARep
namespace Go.Proofs.YtpenkhehceglfaaGreatDoor
open Go.RowKit
theorem agent_chks {L M : List (Int × Int)} {p t i : Int} {g d : Bool} (h : Ag.chkAgent ⟨L, p, t, g, i, M, d⟩ = 0) : Lk.chk L = 0 ∧ Lk.chk M = 0 := by
  obtain ⟨h1, _, _, h4, h5⟩ := Ag.chk_parts h
  refine ⟨h1, ?_⟩
  cases g with
  | true => exact (Ag.rel_parts (h4 rfl).2.2).2
  | false => have := (h5 rfl).2; simp only at this; subst this; rfl
set_option maxHeartbeats 16000000 in
set_option maxRecDepth 100000 in
theorem agReplay_any (i : Int) (v vs : Value) (l : List (Int × Int)) (ps : List (Lk.Note × Value)) (w : World) (hP : PinsAt w v l) (hR : RecsAt w vs ps) :
    Calls Tryz.prog 5 #[relV i v, vs] w fun e w' => agR w' (Ag.replayA i l (ps.map Prod.fst)) e ∧ Below w.heap.size w w' := by
  obtain ⟨a, c, rfl⟩ := pins_slice hP
  obtain ⟨pa, pc, rfl⟩ := recs_slice hR
  have HNw : Hid (∀ w', Below w.heap.size w w' → Calls Tryz.prog 17 #[.agg #[.int .i64 i, .slice a l.length c]] w' fun e w'' => agR w'' (Ag.newA i l) e ∧ Below w'.heap.size w' w'') := fun w' hb => agNew_any i _ l w' (hP.below hb)
  have HRs : Hid (∀ w', Below w.heap.size w w' → RecsAt w' (.slice pa ps.length pc) ps) := fun w' hb => hR.below hb
  have HRl : Hid (ps.length ≤ 140737488355328) := hR.1
  have F1 : Hid (¬ Lk.chkRel i l = 0 → Ag.newA i l = (Ag.Agent.none, Lk.chkRel i l) ∧ Ag.replayA i l (ps.map Prod.fst) = (Ag.Agent.none, Lk.chkRel i l)) := fun h => ⟨by unfold Ag.newA; rw [if_neg h], rep_bad h⟩
  have F2 : Hid (Lk.chkRel i l = 0 → Ag.newA i l = (⟨l, i, 0, false, 0, [], true⟩, 0) ∧ (200 < ps.length → Ag.replayA i l (ps.map Prod.fst) = (Ag.Agent.none, 2)) ∧ (¬ 200 < ps.length → Ag.replayA i l (ps.map Prod.fst) = Ag.replayFrom ⟨l, i, 0, false, 0, [], true⟩ ((ps.drop 0).map Prod.fst)) ∧ Ag.chkAgent ⟨l, i, 0, false, 0, [], true⟩ = 0) := fun h => ⟨by unfold Ag.newA; rw [if_pos h]; rfl, fun h2 => rep_many h (by simpa using h2), fun h2 => rep_in h (by simpa using h2), Ag.fresh_chk h⟩
  clear hP hR
  unfold relV
  generalize Ag.replayA i l (ps.map Prod.fst) = Q at F1 F2 ⊢
  generalize Lk.chkRel i l = C at F1 F2
  generalize Ag.newA i l = NA at F1 F2 HNw
  generalize l.length = n at HNw ⊢
  generalize hm : ps.length = m at HRs HRl F2 ⊢
  have HM : Hid (ps.length = m) := hm
  clear hm
  have HB0 : Hid (Below w.heap.size w ((w.alloc (.cells #[.int .i64 i, .slice a n c] 24)).alloc (.cells #[.slice none 0 0, .int .i64 0, .int .i64 0, .bool false, .int .i64 0, .slice none 0 0, .bool false] 27))) := ((Below.refl _ w).alloc (Nat.le_refl _) _).alloc (by simp) _
  have HK0 : Hid (Blk ((w.alloc (.cells #[.int .i64 i, .slice a n c] 24)).alloc (.cells #[.slice none 0 0, .int .i64 0, .int .i64 0, .bool false, .int .i64 0, .slice none 0 0, .bool false] 27)) w.heap.size #[.int .i64 i, .slice a n c] 24) := (blk_alloc w _ _).below ((Below.refl _ _).alloc (Nat.le_refl _) _)
  have HZ0 : Hid (Blk ((w.alloc (.cells #[.int .i64 i, .slice a n c] 24)).alloc (.cells #[.slice none 0 0, .int .i64 0, .int .i64 0, .bool false, .int .i64 0, .slice none 0 0, .bool false] 27)) (w.heap.size + 1) #[.slice none 0 0, .int .i64 0, .int .i64 0, .bool false, .int .i64 0, .slice none 0 0, .bool false] 27) := by
    have := blk_alloc (w.alloc (.cells #[.int .i64 i, .slice a n c] 24)) #[.slice none 0 0, .int .i64 0, .int .i64 0, .bool false, .int .i64 0, .slice none 0 0, .bool false] 27
    rwa [World.size_alloc] at this
  go_enter Tryz.func5, Tryz.ntmps5
  go_upto_region 1 with fail
  generalize ((w.alloc (.cells #[.int .i64 i, .slice a n c] 24)).alloc (.cells #[.slice none 0 0, .int .i64 0, .int .i64 0, .bool false, .int .i64 0, .slice none 0 0, .bool false] 27)) = w0 at HB0 HK0 HZ0 ⊢
  have k0 := HK0.out.cell 0
  have k1 := HK0.out.cell 1
  simp only [List.getElem?_toArray, List.getElem?_cons_zero, List.getElem?_cons_succ] at k0 k1
  go_wp2_with fail
  refine (HNw.out _ HB0.out).mono ?_
  rintro e w1 ⟨⟨z1, z2, rfl, hz1, hz2⟩, hb1⟩
  have HB1 : Hid (Below w.heap.size w w1) := HB0.out.trans (hb1.mono HB0.out.size)
  have HZ1 : Hid (Blk w1 (w.heap.size + 1) #[.slice none 0 0, .int .i64 0, .int .i64 0, .bool false, .int .i64 0, .slice none 0 0, .bool false] 27) := HZ0.out.below hb1
  clear hb1 HB0 HK0 HZ0 HNw k0 k1
  obtain ⟨sa, sc, rfl⟩ := pins_slice hz1
  obtain ⟨ta, tc, rfl⟩ := pins_slice hz2
  by_cases h1 : C = 0
  rotate_left
  · have h1b : (C != 0) = true := by rw [bne_iff_ne]; exact h1
    obtain ⟨hN, hQ⟩ := F1.out h1
    have HQ : Hid (Q = (Ag.Agent.none, C)) := hQ
    subst hN
    clear F1 F2 h1 hQ hz1 hz2 HRs HRl
    simp only [agV, agC, Ag.Agent.none, List.length_nil]
    have HBA : Hid (Below w.heap.size w (w1.alloc (.cells #[.slice sa 0 sc, .int .i64 0, .int .i64 0, .bool false, .int .i64 0, .slice ta 0 tc, .bool false] 27))) := HB1.out.alloc HB1.out.size _
    have HZA : Hid (Blk (w1.alloc (.cells #[.slice sa 0 sc, .int .i64 0, .int .i64 0, .bool false, .int .i64 0, .slice ta 0 tc, .bool false] 27)) (w.heap.size + 1) #[.slice none 0 0, .int .i64 0, .int .i64 0, .bool false, .int .i64 0, .slice none 0 0, .bool false] 27) := HZ1.out.below ((Below.refl _ _).alloc (Nat.le_refl _) _)
    go_upto_region 2 with fail
    generalize (w1.alloc (.cells #[.slice sa 0 sc, .int .i64 0, .int .i64 0, .bool false, .int .i64 0, .slice ta 0 tc, .bool false] 27)) = w2 at HBA HZA ⊢
    clear HB1 HZ1
    have d0 := HZA.out.cell 0
    have d1 := HZA.out.cell 1
    have d2 := HZA.out.cell 2
    have d3 := HZA.out.cell 3
    have d4 := HZA.out.cell 4
    have d5 := HZA.out.cell 5
    have d6 := HZA.out.cell 6
    simp only [List.getElem?_toArray, List.getElem?_cons_zero, List.getElem?_cons_succ] at d0 d1 d2 d3 d4 d5 d6
    have df0 := HZA.out.free 0
    have df1 := HZA.out.free 1
    have df2 := HZA.out.free 2
    have df3 := HZA.out.free 3
    have df4 := HZA.out.free 4
    have df5 := HZA.out.free 5
    have df6 := HZA.out.free 6
    clear HZA
    go_wp2
    refine bodyPost_ret (v := .tuple #[.agg #[.slice none 0 0, .int .i64 0, .int .i64 0, .bool false, .int .i64 0, .slice none 0 0, .bool false], .int .i64 C]) (by simp [results, Tryz.results5, go_sem, d0, d1, d2, d3, d4, d5, d6]) rfl ⟨agR_none _ HQ.out, ?_⟩
    exact (((((((HBA.out.setCell (Nat.le_succ _) _).setCell (Nat.le_succ _) _).setCell (Nat.le_succ _) _).setCell (Nat.le_succ _) _).setCell (Nat.le_succ _) _).setCell (Nat.le_succ _) _).setCell (Nat.le_succ _) _)
  subst h1
  obtain ⟨hN, hmany, hin, hck⟩ := F2.out rfl
  subst hN
  have HCk : Hid (Ag.chkAgent ⟨l, i, 0, false, 0, [], true⟩ = 0) := hck
  have HMy : Hid (200 < m → Q = (Ag.Agent.none, 2)) := hmany
  have HIn : Hid (¬ 200 < m → Q = Ag.replayFrom ⟨l, i, 0, false, 0, [], true⟩ ((ps.drop 0).map Prod.fst)) := hin
  clear F1 F2 hmany hin hck
  simp only at hz1 hz2
  simp only [agV, agC]
  generalize l.length = sn at hz1 ⊢
  generalize ([] : List (Int × Int)).length = tn at hz2 ⊢
  have hbA : Below w1.heap.size w1 (w1.alloc (.cells #[.slice sa sn sc, .int .i64 i, .int .i64 0, .bool false, .int .i64 0, .slice ta tn tc, .bool true] 27)) := (Below.refl _ _).alloc (Nat.le_refl _) _
  have HBA : Hid (Below w.heap.size w (w1.alloc (.cells #[.slice sa sn sc, .int .i64 i, .int .i64 0, .bool false, .int .i64 0, .slice ta tn tc, .bool true] 27))) := HB1.out.alloc HB1.out.size _
  have HZA : Hid (Blk (w1.alloc (.cells #[.slice sa sn sc, .int .i64 i, .int .i64 0, .bool false, .int .i64 0, .slice ta tn tc, .bool true] 27)) (w.heap.size + 1) #[.slice none 0 0, .int .i64 0, .int .i64 0, .bool false, .int .i64 0, .slice none 0 0, .bool false] 27) := HZ1.out.below hbA
  have HKA : Hid (Blk (w1.alloc (.cells #[.slice sa sn sc, .int .i64 i, .int .i64 0, .bool false, .int .i64 0, .slice ta tn tc, .bool true] 27)) w1.heap.size #[.slice sa sn sc, .int .i64 i, .int .i64 0, .bool false, .int .i64 0, .slice ta tn tc, .bool true] 27) := blk_alloc w1 _ _
  have HPA : Hid (PinsAt (w1.alloc (.cells #[.slice sa sn sc, .int .i64 i, .int .i64 0, .bool false, .int .i64 0, .slice ta tn tc, .bool true] 27)) (.slice sa sn sc) l) := hz1.below hbA
  have HPB : Hid (PinsAt (w1.alloc (.cells #[.slice sa sn sc, .int .i64 i, .int .i64 0, .bool false, .int .i64 0, .slice ta tn tc, .bool true] 27)) (.slice ta tn tc) []) := hz2.below hbA
  have HG6 : Hid (w.heap.size + 1 < w1.heap.size) := HZ1.out.lt
  go_upto_region 2 with fail
  generalize (w1.alloc (.cells #[.slice sa sn sc, .int .i64 i, .int .i64 0, .bool false, .int .i64 0, .slice ta tn tc, .bool true] 27)) = w2 at HBA HZA HKA HPA HPB hbA ⊢
  clear hbA hz1 hz2 HB1 HZ1
  generalize w1.heap.size = g6 at HKA HG6 ⊢
  by_cases h2 : 200 < m
  · have HQ : Hid (Q = (Ag.Agent.none, 2)) := HMy.out h2
    have h2' : (200 : Int) < (m : Int) := by omega
    have h2b : decide ((200 : Int) < (m : Int)) = true := decide_eq_true h2'
    clear HMy HIn h2 HPA HPB HKA HRs HRl HCk
    have d0 := HZA.out.cell 0
    have d1 := HZA.out.cell 1
    have d2 := HZA.out.cell 2
    have d3 := HZA.out.cell 3
    have d4 := HZA.out.cell 4
    have d5 := HZA.out.cell 5
    have d6 := HZA.out.cell 6
    simp only [List.getElem?_toArray, List.getElem?_cons_zero, List.getElem?_cons_succ] at d0 d1 d2 d3 d4 d5 d6
    have df0 := HZA.out.free 0
    have df1 := HZA.out.free 1
    have df2 := HZA.out.free 2
    have df3 := HZA.out.free 3
    have df4 := HZA.out.free 4
    have df5 := HZA.out.free 5
    have df6 := HZA.out.free 6
    clear HZA
    go_wp2
    refine bodyPost_ret (v := .tuple #[.agg #[.slice none 0 0, .int .i64 0, .int .i64 0, .bool false, .int .i64 0, .slice none 0 0, .bool false], .int .i64 2]) (by simp [results, Tryz.results5, go_sem, d0, d1, d2, d3, d4, d5, d6]) rfl ⟨agR_none _ HQ.out, ?_⟩
    exact (((((((HBA.out.setCell (Nat.le_succ _) _).setCell (Nat.le_succ _) _).setCell (Nat.le_succ _) _).setCell (Nat.le_succ _) _).setCell (Nat.le_succ _) _).setCell (Nat.le_succ _) _).setCell (Nat.le_succ _) _)
  have h2' : ¬ (200 : Int) < (m : Int) := by omega
  have h2b : decide ((200 : Int) < (m : Int)) = false := decide_eq_false h2'
  have h2c : (m : Int) ≤ 200 := by omega
  have HQ0 := HIn.out h2
  have HM200 : Hid (m ≤ 200) := (show m ≤ 200 by omega)
  clear HMy HIn h2 h2'
  go_wp2
  go_loopg [25] m (fun gh s25 wr => ∃ (k : Nat) (al am : List (Int × Int)) (aa at_ ai : Int) (ag ad : Bool) (sa : Option Addr) (sn sc : Nat) (ta : Option Addr) (tn tc : Nat), k ≤ m ∧ m - k ≤ gh ∧ s25 = .int .i64 k ∧ Hid (Q = Ag.replayFrom ⟨al, aa, at_, ag, ai, am, ad⟩ ((ps.drop k).map Prod.fst) ∧ Ag.chkAgent ⟨al, aa, at_, ag, ai, am, ad⟩ = 0 ∧ Blk wr g6 #[.slice sa sn sc, .int .i64 aa, .int .i64 at_, .bool ag, .int .i64 ai, .slice ta tn tc, .bool ad] 27 ∧ Blk wr (w.heap.size + 1) #[.slice none 0 0, .int .i64 0, .int .i64 0, .bool false, .int .i64 0, .slice none 0 0, .bool false] 27 ∧ PinsAt wr (.slice sa sn sc) al ∧ PinsAt wr (.slice ta tn tc) am ∧ Below w.heap.size w wr))
  case atStart => exact ⟨0, l, [], i, 0, 0, false, true, sa, sn, sc, ta, tn, tc, Nat.zero_le _, by omega, rfl, ⟨HQ0, HCk.out, HKA.out, HZA.out, HPA.out, HPB.out, HBA.out⟩⟩
  case round =>
    clear HBA HZA HKA HPA HPB HCk HQ0
    obtain ⟨k, al, am, aa, at_, ai, ag, ad, sa, sn, sc, ta, tn, tc, hk, hg, rfl, HI⟩ := hrel
    by_cases hlt : k < m
    rotate_left
    · have hk' : k = m := by omega
      have HQ : Hid (Q = (⟨al, aa, at_, ag, ai, am, ad⟩, 0)) := (show Q = _ from HI.out.1.trans (rep_end (by have := HM.out; omega)))
      have hlt1 : ¬ (k : Int) < (m : Int) := by omega
      have hlt2 : decide ((k : Int) < (m : Int)) = false := decide_eq_false hlt1
      have hlt3 : (m : Int) ≤ (k : Int) := by omega
      have hK := HI.out.2.2.1
      have hZ := HI.out.2.2.2.1
      have k0 := hK.cell 0
      have k1 := hK.cell 1
      have k2 := hK.cell 2
      have k3 := hK.cell 3
      have k4 := hK.cell 4
      have k5 := hK.cell 5
      have k6 := hK.cell 6
      simp only [List.getElem?_toArray, List.getElem?_cons_zero, List.getElem?_cons_succ] at k0 k1 k2 k3 k4 k5 k6
      have d0 := hZ.cell 0
      have d1 := hZ.cell 1
      have d2 := hZ.cell 2
      have d3 := hZ.cell 3
      have d4 := hZ.cell 4
      have d5 := hZ.cell 5
      have d6 := hZ.cell 6
      simp only [List.getElem?_toArray, List.getElem?_cons_zero, List.getElem?_cons_succ] at d0 d1 d2 d3 d4 d5 d6
      have df0 := hZ.free 0
      have df1 := hZ.free 1
      have df2 := hZ.free 2
      have df3 := hZ.free 3
      have df4 := hZ.free 4
      have df5 := hZ.free 5
      have df6 := hZ.free 6
      have HC1 : Hid (Lk.chk al = 0 ∧ Lk.chk am = 0) := agent_chks HI.out.2.1
      clear hK hZ hlt hlt1 hk' HRs HRl
      go_wp2
      refine bodyPost_ret (v := .tuple #[.agg #[.slice sa sn sc, .int .i64 aa, .int .i64 at_, .bool ag, .int .i64 ai, .slice ta tn tc, .bool ad], .int .i64 0]) (by simp [results, Tryz.results5, go_sem, d0, d1, d2, d3, d4, d5, d6]) rfl ⟨?_, ?_⟩
      · rw [HQ.out]
        exact ⟨_, _, rfl, ((((((((PinsAt.offZ HI.out.2.2.2.2.1 HC1.out.1 (blkZ HI.out.2.2.2.1)).set).set).set).set).set).set).set).pins, ((((((((PinsAt.offZ HI.out.2.2.2.2.2.1 HC1.out.2 (blkZ HI.out.2.2.2.1)).set).set).set).set).set).set).set).pins⟩
      · exact (((((((HI.out.2.2.2.2.2.2.setCell (Nat.le_succ _) _).setCell (Nat.le_succ _) _).setCell (Nat.le_succ _) _).setCell (Nat.le_succ _) _).setCell (Nat.le_succ _) _).setCell (Nat.le_succ _) _).setCell (Nat.le_succ _) _)
    have hlt1 : (k : Int) < (m : Int) := by omega
    have hlt2 : decide ((k : Int) < (m : Int)) = true := decide_eq_true hlt1
    obtain ⟨⟨r, z⟩, hr⟩ : ∃ x, ps[k]? = some x := ⟨_, List.getElem?_eq_getElem (show k < ps.length by have := HM.out; omega)⟩
    have hRS := HRs.out wr HI.out.2.2.2.2.2.2
    obtain ⟨rb, ro, rfl, hrb, c0, c1, c2, c3, c4, c5, c6⟩ := recs_at hRS hr
    have hzp : PinsAt wr z r.lock := recs_pins hRS (r, z) (List.mem_of_getElem? hr)
    obtain ⟨b, f, rfl⟩ := pins_slice hzp
    have HST := rep_step (A := ⟨al, aa, at_, ag, ai, am, ad⟩) hr
    have HNX : Hid (∀ w', Below wr.heap.size wr w' → Calls Tryz.prog 8 #[agV ⟨al, aa, at_, ag, ai, am, ad⟩ (.slice sa sn sc) (.slice ta tn tc), recV r (.slice b r.lock.length f)] w' fun e w'' => agN w'' w'.heap.size (Ag.nextA ⟨al, aa, at_, ag, ai, am, ad⟩ r) e ∧ Below w'.heap.size w' w'') := fun w' hb => agNext_any al am r.lock aa at_ ai r.kind r.agent r.tr r.n r.id ag ad r.good _ _ _ w' (HI.out.2.2.2.2.1.below hb) (HI.out.2.2.2.2.2.1.below hb) (hzp.below hb)
    have HCn : Hid ((Ag.nextA ⟨al, aa, at_, ag, ai, am, ad⟩ r).2 = 0 → Ag.chkAgent (Ag.nextA ⟨al, aa, at_, ag, ai, am, ad⟩ r).1 = 0) := fun h => (Ag.next_chk h).2.2
    clear hRS hzp hr
    obtain ⟨r1, r2, r3, r4, r5, r6, r7⟩ := r
    simp only at c0 c1 c2 c3 c4 c5 c6
    unfold agV agC recV at HNX
    simp only at HNX
    generalize r7.length = q at HNX c6
    generalize Ag.nextA ⟨al, aa, at_, ag, ai, am, ad⟩ ⟨r1, r2, r3, r4, r5, r6, r7⟩ = NX at HST HNX HCn
    have HS1 : Hid (Q = if NX.2 = 0 then Ag.replayFrom NX.1 ((ps.drop (k + 1)).map Prod.fst) else (Ag.Agent.none, NX.2)) := (show Q = _ from HI.out.1.trans HST)
    clear HST
    have hbR : Below wr.heap.size wr (wr.alloc (.cells #[.int .i64 r1, .int .i64 r2, .int .i64 r3, .int .i64 r4, .bool r5, .int .i64 r6, .slice b q f] 34)) := (Below.refl _ _).alloc (Nat.le_refl _) _
    have HBR : Hid (Below wr.heap.size wr (wr.alloc (.cells #[.int .i64 r1, .int .i64 r2, .int .i64 r3, .int .i64 r4, .bool r5, .int .i64 r6, .slice b q f] 34))) := hbR
    have HKR : Hid (Blk (wr.alloc (.cells #[.int .i64 r1, .int .i64 r2, .int .i64 r3, .int .i64 r4, .bool r5, .int .i64 r6, .slice b q f] 34)) g6 #[.slice sa sn sc, .int .i64 aa, .int .i64 at_, .bool ag, .int .i64 ai, .slice ta tn tc, .bool ad] 27) := HI.out.2.2.1.below hbR
    have HRR : Hid (Blk (wr.alloc (.cells #[.int .i64 r1, .int .i64 r2, .int .i64 r3, .int .i64 r4, .bool r5, .int .i64 r6, .slice b q f] 34)) wr.heap.size #[.int .i64 r1, .int .i64 r2, .int .i64 r3, .int .i64 r4, .bool r5, .int .i64 r6, .slice b q f] 34) := blk_alloc wr _ _
    have hsr : ((rb : Nat)) < wr.heap.size := hrb
    clear hbR hrb
    go_upto_region 9 with fail
    clear c0 c1 c2 c3 c4 c5 c6
    generalize (wr.alloc (.cells #[.int .i64 r1, .int .i64 r2, .int .i64 r3, .int .i64 r4, .bool r5, .int .i64 r6, .slice b q f] 34)) = w3 at HBR HKR HRR ⊢
    have k0 := HKR.out.cell 0
    have k1 := HKR.out.cell 1
    have k2 := HKR.out.cell 2
    have k3 := HKR.out.cell 3
    have k4 := HKR.out.cell 4
    have k5 := HKR.out.cell 5
    have k6 := HKR.out.cell 6
    simp only [List.getElem?_toArray, List.getElem?_cons_zero, List.getElem?_cons_succ] at k0 k1 k2 k3 k4 k5 k6
    have x0 := HRR.out.cell 0
    have x1 := HRR.out.cell 1
    have x2 := HRR.out.cell 2
    have x3 := HRR.out.cell 3
    have x4 := HRR.out.cell 4
    have x5 := HRR.out.cell 5
    have x6 := HRR.out.cell 6
    simp only [List.getElem?_toArray, List.getElem?_cons_zero, List.getElem?_cons_succ] at x0 x1 x2 x3 x4 x5 x6
    go_wp2_with fail
    refine (HNX.out _ HBR.out).mono ?_
    rintro e w4 ⟨⟨y1, y2, rfl, hy1, hy2⟩, hb4⟩
    obtain ⟨ua, uc, rfl⟩ := pins_slice hy1.pins
    obtain ⟨va, vc, rfl⟩ := pins_slice hy2.pins
    obtain ⟨⟨bl, ba, bt, bg, bi, bm, bd⟩, NE⟩ := NX
    simp only [agV, agC]
    simp only at hy1 hy2 HS1 HCn
    have hbW : Below wr.heap.size wr w4 := HBR.out.trans (hb4.mono HBR.out.size)
    have hk4 := HKR.out.below hb4
    have HZ4 : Hid (Blk w4 (w.heap.size + 1) #[.slice none 0 0, .int .i64 0, .int .i64 0, .bool false, .int .i64 0, .slice none 0 0, .bool false] 27) := HI.out.2.2.2.1.below hbW
    have HB4 : Hid (Below w.heap.size w w4) := HI.out.2.2.2.2.2.2.trans (hbW.mono HI.out.2.2.2.2.2.2.size)
    have HK4 : Hid (Blk w4 g6 #[.slice sa sn sc, .int .i64 aa, .int .i64 at_, .bool ag, .int .i64 ai, .slice ta tn tc, .bool ad] 27) := hk4
    have HL3 : Hid (g6 < w3.heap.size) := HKR.out.lt
    generalize bl.length = un at hy1 ⊢
    generalize bm.length = vn at hy2 ⊢
    have HY1 : Hid (PinsNew w4 w3.heap.size (.slice ua un uc) bl) := hy1
    have HY2 : Hid (PinsNew w4 w3.heap.size (.slice va vn vc) bm) := hy2
    clear hbW hb4 hy1 hy2 HNX k0 k1 k2 k3 k4 k5 k6 x0 x1 x2 x3 x4 x5 x6 HKR HRR HBR
    have k0 := hk4.cell 0
    have k1 := hk4.cell 1
    have k2 := hk4.cell 2
    have k3 := hk4.cell 3
    have k4 := hk4.cell 4
    have k5 := hk4.cell 5
    have k6 := hk4.cell 6
    simp only [List.getElem?_toArray, List.getElem?_cons_zero, List.getElem?_cons_succ] at k0 k1 k2 k3 k4 k5 k6
    have kf0 := hk4.free 0
    have kf1 := hk4.free 1
    have kf2 := hk4.free 2
    have kf3 := hk4.free 3
    have kf4 := hk4.free 4
    have kf5 := hk4.free 5
    have kf6 := hk4.free 6
    clear hk4
    have hz6 : g6 ≠ w.heap.size + 1 := by have := HG6.out; omega
    have hw6 : w.heap.size ≤ g6 := by have := HG6.out; omega
    have HX : Hid (Blk (((((((w4.setCell ⟨g6, 0, none⟩ (.slice ua un uc)).setCell ⟨g6, 1, none⟩ (.int .i64 ba)).setCell ⟨g6, 2, none⟩ (.int .i64 bt)).setCell ⟨g6, 3, none⟩ (.bool bg)).setCell ⟨g6, 4, none⟩ (.int .i64 bi)).setCell ⟨g6, 5, none⟩ (.slice va vn vc)).setCell ⟨g6, 6, none⟩ (.bool bd)) g6 #[.slice ua un uc, .int .i64 ba, .int .i64 bt, .bool bg, .int .i64 bi, .slice va vn vc, .bool bd] 27 ∧ Blk (((((((w4.setCell ⟨g6, 0, none⟩ (.slice ua un uc)).setCell ⟨g6, 1, none⟩ (.int .i64 ba)).setCell ⟨g6, 2, none⟩ (.int .i64 bt)).setCell ⟨g6, 3, none⟩ (.bool bg)).setCell ⟨g6, 4, none⟩ (.int .i64 bi)).setCell ⟨g6, 5, none⟩ (.slice va vn vc)).setCell ⟨g6, 6, none⟩ (.bool bd)) (w.heap.size + 1) #[.slice none 0 0, .int .i64 0, .int .i64 0, .bool false, .int .i64 0, .slice none 0 0, .bool false] 27 ∧ PinsAt (((((((w4.setCell ⟨g6, 0, none⟩ (.slice ua un uc)).setCell ⟨g6, 1, none⟩ (.int .i64 ba)).setCell ⟨g6, 2, none⟩ (.int .i64 bt)).setCell ⟨g6, 3, none⟩ (.bool bg)).setCell ⟨g6, 4, none⟩ (.int .i64 bi)).setCell ⟨g6, 5, none⟩ (.slice va vn vc)).setCell ⟨g6, 6, none⟩ (.bool bd)) (.slice ua un uc) bl ∧ PinsAt (((((((w4.setCell ⟨g6, 0, none⟩ (.slice ua un uc)).setCell ⟨g6, 1, none⟩ (.int .i64 ba)).setCell ⟨g6, 2, none⟩ (.int .i64 bt)).setCell ⟨g6, 3, none⟩ (.bool bg)).setCell ⟨g6, 4, none⟩ (.int .i64 bi)).setCell ⟨g6, 5, none⟩ (.slice va vn vc)).setCell ⟨g6, 6, none⟩ (.bool bd)) (.slice va vn vc) bm ∧ Below w.heap.size w (((((((w4.setCell ⟨g6, 0, none⟩ (.slice ua un uc)).setCell ⟨g6, 1, none⟩ (.int .i64 ba)).setCell ⟨g6, 2, none⟩ (.int .i64 bt)).setCell ⟨g6, 3, none⟩ (.bool bg)).setCell ⟨g6, 4, none⟩ (.int .i64 bi)).setCell ⟨g6, 5, none⟩ (.slice va vn vc)).setCell ⟨g6, 6, none⟩ (.bool bd))) := ⟨((((((HK4.out.put 0 (.slice ua un uc)).put 1 (.int .i64 ba)).put 2 (.int .i64 bt)).put 3 (.bool bg)).put 4 (.int .i64 bi)).put 5 (.slice va vn vc)).put 6 (.bool bd), ((((((HZ4.out.off hz6).off hz6).off hz6).off hz6).off hz6).off hz6).off hz6, (((((((HY1.out.set HL3.out).set HL3.out).set HL3.out).set HL3.out).set HL3.out).set HL3.out).set HL3.out).pins, (((((((HY2.out.set HL3.out).set HL3.out).set HL3.out).set HL3.out).set HL3.out).set HL3.out).set HL3.out).pins, ((((((HB4.out.setCell hw6 _).setCell hw6 _).setCell hw6 _).setCell hw6 _).setCell hw6 _).setCell hw6 _).setCell hw6 _⟩
    clear hz6 hw6 HZ4 HB4 HK4 HY1 HY2 HI HRs
    by_cases he : NE = 0
    · subst he
      have HQ1 : Hid (Q = Ag.replayFrom ⟨bl, ba, bt, bg, bi, bm, bd⟩ ((ps.drop (k + 1)).map Prod.fst)) := (show Q = _ from by have := HS1.out; simpa using this)
      have HC1 : Hid (Ag.chkAgent ⟨bl, ba, bt, bg, bi, bm, bd⟩ = 0) := HCn.out rfl
      clear HS1 HCn
      go_wp2
      go_roundg (m - (k + 1))
      case measure => omega
      case rel => exact ⟨k + 1, bl, bm, ba, bt, bi, bg, bd, ua, un, uc, va, vn, vc, by omega, by omega, by go_num, ⟨HQ1.out, HC1.out, HX.out⟩⟩
    · have heb : (NE != 0) = true := by rw [bne_iff_ne]; exact he
      have HQ : Hid (Q = (Ag.Agent.none, NE)) := (show Q = _ from by have := HS1.out; simpa [he] using this)
      clear HS1 HCn
      go_upto_region 10 with fail
      generalize ((((((w4.setCell ⟨g6, 0, none⟩ (.slice ua un uc)).setCell ⟨g6, 1, none⟩ (.int .i64 ba)).setCell ⟨g6, 2, none⟩ (.int .i64 bt)).setCell ⟨g6, 3, none⟩ (.bool bg)).setCell ⟨g6, 4, none⟩ (.int .i64 bi)).setCell ⟨g6, 5, none⟩ (.slice va vn vc)).setCell ⟨g6, 6, none⟩ (.bool bd) = w5 at HX ⊢
      clear k0 k1 k2 k3 k4 k5 k6 kf0 kf1 kf2 kf3 kf4 kf5 kf6
      have HZ5 : Hid (Blk w5 (w.heap.size + 1) #[.slice none 0 0, .int .i64 0, .int .i64 0, .bool false, .int .i64 0, .slice none 0 0, .bool false] 27) := HX.out.2.1
      have HB5 : Hid (Below w.heap.size w w5) := HX.out.2.2.2.2
      clear HX he
      have d0 := HZ5.out.cell 0
      have d1 := HZ5.out.cell 1
      have d2 := HZ5.out.cell 2
      have d3 := HZ5.out.cell 3
      have d4 := HZ5.out.cell 4
      have d5 := HZ5.out.cell 5
      have d6 := HZ5.out.cell 6
      simp only [List.getElem?_toArray, List.getElem?_cons_zero, List.getElem?_cons_succ] at d0 d1 d2 d3 d4 d5 d6
      have df0 := HZ5.out.free 0
      have df1 := HZ5.out.free 1
      have df2 := HZ5.out.free 2
      have df3 := HZ5.out.free 3
      have df4 := HZ5.out.free 4
      have df5 := HZ5.out.free 5
      have df6 := HZ5.out.free 6
      clear HZ5
      go_wp2
      refine bodyPost_ret (v := .tuple #[.agg #[.slice none 0 0, .int .i64 0, .int .i64 0, .bool false, .int .i64 0, .slice none 0 0, .bool false], .int .i64 NE]) (by simp [results, Tryz.results5, go_sem, d0, d1, d2, d3, d4, d5, d6]) rfl ⟨agR_none _ HQ.out, ?_⟩
      exact (((((((HB5.out.setCell (Nat.le_succ _) _).setCell (Nat.le_succ _) _).setCell (Nat.le_succ _) _).setCell (Nat.le_succ _) _).setCell (Nat.le_succ _) _).setCell (Nat.le_succ _) _).setCell (Nat.le_succ _) _)
end Go.Proofs.YtpenkhehceglfaaGreatDoor
