/- The document's AgentNext where somebody goes on; AgentNext whole. (Written by tools/gen_agent5.py.) -/
import Derived.Test.YtbnaaookeagjgaaAG4
import Derived.Test.YtbnaaookeagjgaaAV4
import Derived.Test.YtbnaaookeagjgaaT9
import Derived.Test.YtbnaaookeagjgaaT10S
namespace Go.Proofs.Ytbnaaookeagjgaa
open Go.RowKit
theorem stepsR_going (v u : Value) (L M : List (Int × Int)) (p t i : Int) (d : Bool) (h : Ag.chkAgent ⟨L, p, t, true, i, M, d⟩ = 0) (w : World) (hP : PinsAt w v L) (hQ : PinsAt w u M) :
    Calls Try.prog 12 #[v, u] w fun e w' => (∃ x, e = .returned (.tuple #[x, .int .i64 0]) ∧ OpsAt w' x (Ag.stepsA ⟨L, p, t, true, i, M, d⟩)) ∧ Below w.heap.size w w' := by
  obtain ⟨h1, _, _, h4, _⟩ := Ag.chk_parts h
  have h5 := (Ag.rel_parts (h4 rfl).2.2).2
  have he : Dk.diffErr L M = 0 := by
    unfold Dk.diffErr
    rw [if_pos (show Lk.chk L = 0 from h1)]; exact h5
  have := stepsR_any v u L M w hP hQ
  rw [he, Dk.diffed, if_pos he] at this
  exact this
set_option maxHeartbeats 8000000 in
set_option maxRecDepth 100000 in
theorem agNextR_goes2 (L M r7 : List (Int × Int)) (p t i r2 r4 r6 : Int) (d r5 : Bool) (v u z : Value) (w : World) (hP : PinsAt w v L) (hQ : PinsAt w u M) (hR : PinsAt w z r7)
    (hC : ∀ w', Below w.heap.size w w' → Calls Try.prog 32 #[recV ⟨2, r2, t, r4, r5, r6, r7⟩ z] w' fun e w'' => e = .returned (.int .i64 (Lk.chkNote ⟨2, r2, t, r4, r5, r6, r7⟩)) ∧ Below w'.heap.size w' w'')
    (hca : Ag.chkAgent ⟨L, p, t, true, i, M, d⟩ = 0) (hcr : Lk.chkNote ⟨2, r2, t, r4, r5, r6, r7⟩ = 0) :
    Calls Try.prog 9 #[agV ⟨L, p, t, true, i, M, d⟩ v u, recV ⟨2, r2, t, r4, r5, r6, r7⟩ z] w fun e w' => agX w w' v u z L M r7 (Ag.nextA ⟨L, p, t, true, i, M, d⟩ ⟨2, r2, t, r4, r5, r6, r7⟩) e ∧ Below w.heap.size w w' := by
  obtain ⟨a, c, rfl⟩ := pins_slice hP
  obtain ⟨a', c', rfl⟩ := pins_slice hQ
  obtain ⟨b, f, rfl⟩ := pins_slice hR
  rw [nx_in hca hcr, if_neg (show ¬ (2 : Int) = 1 by decide), if_neg (show ¬ 3 < (2 : Int) by decide), if_pos ⟨rfl, rfl⟩]
  unfold agV agC recV
  simp only
  have HCA : Hid (∀ w', Below w.heap.size w w' → Calls Try.prog 10 #[.agg #[.slice a L.length c, .int .i64 p, .int .i64 t, .bool true, .int .i64 i, .slice a' M.length c', .bool d]] w' fun e w'' => e = .returned (.int .i64 0) ∧ Below w'.heap.size w' w'') := fun w' hb => by
    have := checkAgR_any L M p t i true d _ _ w' (hP.below hb) (hQ.below hb)
    rw [hca] at this
    exact this
  have HCR : Hid (∀ w', Below w.heap.size w w' → Calls Try.prog 32 #[.agg #[.int .i64 2, .int .i64 r2, .int .i64 t, .int .i64 r4, .bool r5, .int .i64 r6, .slice b r7.length f]] w' fun e w'' => e = .returned (.int .i64 0) ∧ Below w'.heap.size w' w'') := fun w' hb => by
    have := hC w' hb
    rw [hcr] at this
    exact this
  have HSt : Hid (∀ w', Below w.heap.size w w' → Calls Try.prog 12 #[.slice a L.length c, .slice a' M.length c'] w' fun e w'' => (∃ x, e = .returned (.tuple #[x, .int .i64 0]) ∧ OpsAt w'' x (Ag.stepsA ⟨L, p, t, true, i, M, d⟩)) ∧ Below w'.heap.size w' w'') := fun w' hb => stepsR_going _ _ L M p t i d hca w' (hP.below hb) (hQ.below hb)
  have HSd : Hid (∀ o1 o2 o3, ∀ w', Below w.heap.size w w' → Calls Try.prog 33 #[.slice a L.length c, .agg #[.int .i64 o1, .int .i64 o2, .int .i64 o3]] w' fun e w'' => (∃ y, e = .returned (.tuple #[y, .int .i64 (Dk.applyErr L (o1, o2, o3))]) ∧ PinsNew w'' w'.heap.size y (Dk.applied L (o1, o2, o3))) ∧ Below w'.heap.size w' w'') := fun o1 o2 o3 w' hb => stepped_new _ L o1 o2 o3 w' (hP.below hb)
  have HPL : Hid (∀ w', Below w.heap.size w w' → PinsAt w' (.slice a L.length c) L) := fun w' hb => hP.below hb
  have HPM : Hid (∀ w', Below w.heap.size w w' → PinsAt w' (.slice a' M.length c') M) := fun w' hb => hQ.below hb
  have HG : Hid (Ag.goesA ⟨L, p, t, true, i, M, d⟩ ⟨2, r2, t, r4, r5, r6, r7⟩ = (match Ag.stepsA ⟨L, p, t, true, i, M, d⟩ with | o :: _ => if (2 : Int) = 2 then (⟨Dk.applied L o, p, t, true, i, M, d⟩, 0) else (Ag.Agent.none, 7) | [] => if (2 : Int) = 3 then (⟨L, i, t, false, 0, [], r5⟩, 0) else (Ag.Agent.none, 7))) := by
    unfold Ag.goesA
    rfl
  have HNr : Hid (∀ o s, Ag.stepsA ⟨L, p, t, true, i, M, d⟩ = o :: s → Lk.chk (Dk.applied L o) = 0) := fun o s hs => (Ag.chk_parts (Ag.step_nearer hca rfl hs).1).1
  clear hP hQ hR hC hca hcr
  generalize Ag.goesA ⟨L, p, t, true, i, M, d⟩ ⟨2, r2, t, r4, r5, r6, r7⟩ = Q at HG ⊢
  generalize Ag.stepsA ⟨L, p, t, true, i, M, d⟩ = SS at HG HSt HNr
  generalize L.length = n at HCA HSt HSd HPL ⊢
  generalize M.length = m at HCA HSt HPM ⊢
  generalize r7.length = q at HCR ⊢
  have HB0 : Hid (Below w.heap.size w (((w.alloc (.cells #[.slice a n c, .int .i64 p, .int .i64 t, .bool true, .int .i64 i, .slice a' m c', .bool d] 26)).alloc (.cells #[.int .i64 2, .int .i64 r2, .int .i64 t, .int .i64 r4, .bool r5, .int .i64 r6, .slice b q f] 28)).alloc (.cells #[.slice none 0 0, .int .i64 0, .int .i64 0, .bool false, .int .i64 0, .slice none 0 0, .bool false] 26))) := (((Below.refl _ w).alloc (Nat.le_refl _) _).alloc (by simp) _).alloc (by simp; omega) _
  have HA0 : Hid (Blk (((w.alloc (.cells #[.slice a n c, .int .i64 p, .int .i64 t, .bool true, .int .i64 i, .slice a' m c', .bool d] 26)).alloc (.cells #[.int .i64 2, .int .i64 r2, .int .i64 t, .int .i64 r4, .bool r5, .int .i64 r6, .slice b q f] 28)).alloc (.cells #[.slice none 0 0, .int .i64 0, .int .i64 0, .bool false, .int .i64 0, .slice none 0 0, .bool false] 26)) w.heap.size #[.slice a n c, .int .i64 p, .int .i64 t, .bool true, .int .i64 i, .slice a' m c', .bool d] 26) := ((blk_alloc w _ _).below ((Below.refl _ _).alloc (Nat.le_refl _) _)).below ((Below.refl _ _).alloc (Nat.le_refl _) _)
  have HR0 : Hid (Blk (((w.alloc (.cells #[.slice a n c, .int .i64 p, .int .i64 t, .bool true, .int .i64 i, .slice a' m c', .bool d] 26)).alloc (.cells #[.int .i64 2, .int .i64 r2, .int .i64 t, .int .i64 r4, .bool r5, .int .i64 r6, .slice b q f] 28)).alloc (.cells #[.slice none 0 0, .int .i64 0, .int .i64 0, .bool false, .int .i64 0, .slice none 0 0, .bool false] 26)) (w.heap.size + 1) #[.int .i64 2, .int .i64 r2, .int .i64 t, .int .i64 r4, .bool r5, .int .i64 r6, .slice b q f] 28) := by
    have := (blk_alloc (w.alloc (.cells #[.slice a n c, .int .i64 p, .int .i64 t, .bool true, .int .i64 i, .slice a' m c', .bool d] 26)) #[.int .i64 2, .int .i64 r2, .int .i64 t, .int .i64 r4, .bool r5, .int .i64 r6, .slice b q f] 28).below ((Below.refl _ _).alloc (Nat.le_refl _) (.cells #[.slice none 0 0, .int .i64 0, .int .i64 0, .bool false, .int .i64 0, .slice none 0 0, .bool false] 26))
    rwa [World.size_alloc] at this
  have HN0 : Hid (Blk (((w.alloc (.cells #[.slice a n c, .int .i64 p, .int .i64 t, .bool true, .int .i64 i, .slice a' m c', .bool d] 26)).alloc (.cells #[.int .i64 2, .int .i64 r2, .int .i64 t, .int .i64 r4, .bool r5, .int .i64 r6, .slice b q f] 28)).alloc (.cells #[.slice none 0 0, .int .i64 0, .int .i64 0, .bool false, .int .i64 0, .slice none 0 0, .bool false] 26)) (w.heap.size + 1 + 1) #[.slice none 0 0, .int .i64 0, .int .i64 0, .bool false, .int .i64 0, .slice none 0 0, .bool false] 26) := by
    have := blk_alloc ((w.alloc (.cells #[.slice a n c, .int .i64 p, .int .i64 t, .bool true, .int .i64 i, .slice a' m c', .bool d] 26)).alloc (.cells #[.int .i64 2, .int .i64 r2, .int .i64 t, .int .i64 r4, .bool r5, .int .i64 r6, .slice b q f] 28)) #[.slice none 0 0, .int .i64 0, .int .i64 0, .bool false, .int .i64 0, .slice none 0 0, .bool false] 26
    rwa [World.size_alloc, World.size_alloc] at this
  go_enter Try.func9, Try.ntmps9
  go_upto_region 2 with fail
  generalize (((w.alloc (.cells #[.slice a n c, .int .i64 p, .int .i64 t, .bool true, .int .i64 i, .slice a' m c', .bool d] 26)).alloc (.cells #[.int .i64 2, .int .i64 r2, .int .i64 t, .int .i64 r4, .bool r5, .int .i64 r6, .slice b q f] 28)).alloc (.cells #[.slice none 0 0, .int .i64 0, .int .i64 0, .bool false, .int .i64 0, .slice none 0 0, .bool false] 26)) = w0 at HB0 HA0 HR0 HN0 ⊢
  have k0 := HA0.out.cell 0
  have k1 := HA0.out.cell 1
  have k2 := HA0.out.cell 2
  have k3 := HA0.out.cell 3
  have k4 := HA0.out.cell 4
  have k5 := HA0.out.cell 5
  have k6 := HA0.out.cell 6
  simp only [List.getElem?_toArray, List.getElem?_cons_zero, List.getElem?_cons_succ] at k0 k1 k2 k3 k4 k5 k6
  go_wp2_with fail
  refine (HCA.out _ HB0.out).mono ?_
  rintro e w1 ⟨rfl, hb1⟩
  have HB1 : Hid (Below w.heap.size w w1) := HB0.out.trans (hb1.mono HB0.out.size)
  have HA1 : Hid (Blk w1 _ _ _) := HA0.out.below hb1
  have HR1 : Hid (Blk w1 _ _ _) := HR0.out.below hb1
  have HN1 : Hid (Blk w1 _ _ _) := HN0.out.below hb1
  clear hb1 HB0 HA0 HR0 HN0 HCA k0 k1 k2 k3 k4 k5 k6
  have k0 := HR1.out.cell 0
  have k1 := HR1.out.cell 1
  have k2 := HR1.out.cell 2
  have k3 := HR1.out.cell 3
  have k4 := HR1.out.cell 4
  have k5 := HR1.out.cell 5
  have k6 := HR1.out.cell 6
  simp only [List.getElem?_toArray, List.getElem?_cons_zero, List.getElem?_cons_succ] at k0 k1 k2 k3 k4 k5 k6
  go_wp2_with fail
  refine (HCR.out _ HB1.out).mono ?_
  rintro e w2 ⟨rfl, hb2⟩
  have HB2 : Hid (Below w.heap.size w w2) := HB1.out.trans (hb2.mono HB1.out.size)
  have HA2 : Hid (Blk w2 _ _ _) := HA1.out.below hb2
  have HR2 : Hid (Blk w2 _ _ _) := HR1.out.below hb2
  have HN2 : Hid (Blk w2 _ _ _) := HN1.out.below hb2
  clear hb2 HB1 HA1 HR1 HN1 HCR k0 k1 k2 k3 k4 k5 k6
  have k0 := HR2.out.cell 0
  have k1 := HR2.out.cell 1
  have k2 := HR2.out.cell 2
  have k3 := HR2.out.cell 3
  have k4 := HR2.out.cell 4
  have k5 := HR2.out.cell 5
  have k6 := HR2.out.cell 6
  simp only [List.getElem?_toArray, List.getElem?_cons_zero, List.getElem?_cons_succ] at k0 k1 k2 k3 k4 k5 k6
  have x0 := HA2.out.cell 0
  have x1 := HA2.out.cell 1
  have x2 := HA2.out.cell 2
  have x3 := HA2.out.cell 3
  have x4 := HA2.out.cell 4
  have x5 := HA2.out.cell 5
  have x6 := HA2.out.cell 6
  simp only [List.getElem?_toArray, List.getElem?_cons_zero, List.getElem?_cons_succ] at x0 x1 x2 x3 x4 x5 x6
  go_wp2_with fail
  refine (HSt.out _ HB2.out).mono ?_
  rintro e w3 ⟨⟨x, rfl, hx⟩, hb3⟩
  obtain ⟨xa, xc, rfl⟩ := ops_slice hx
  have HX : Hid (OpsAt w3 (.slice xa SS.length xc) SS) := hx
  have HB3 : Hid (Below w.heap.size w w3) := HB2.out.trans (hb3.mono HB2.out.size)
  have HA3 : Hid (Blk w3 _ _ _) := HA2.out.below hb3
  have HR3 : Hid (Blk w3 _ _ _) := HR2.out.below hb3
  have HN3 : Hid (Blk w3 _ _ _) := HN2.out.below hb3
  clear hx hb3 HB2 HA2 HR2 HN2 HSt k0 k1 k2 k3 k4 k5 k6 x0 x1 x2 x3 x4 x5 x6
  cases SS with
  | nil =>
    have HQ : Hid (Q = (Ag.Agent.none, 7)) := HG.out
    clear HG HSd HNr HPL HPM HX HA3
    have k0 := HR3.out.cell 0
    have k1 := HR3.out.cell 1
    have k2 := HR3.out.cell 2
    have k3 := HR3.out.cell 3
    have k4 := HR3.out.cell 4
    have k5 := HR3.out.cell 5
    have k6 := HR3.out.cell 6
    simp only [List.getElem?_toArray, List.getElem?_cons_zero, List.getElem?_cons_succ] at k0 k1 k2 k3 k4 k5 k6
    simp only [List.length_nil]
    go_wp2_with fail
    refine (agbad_any 7 _).mono ?_
    rintro e w9 ⟨rfl, hb9⟩
    have HB9 : Hid (Below w.heap.size w w9) := HB3.out.trans (hb9.mono HB3.out.size)
    have hn9 := HN3.out.below hb9
    clear hb9 HB3 HN3
    have d0 := hn9.cell 0
    have d1 := hn9.cell 1
    have d2 := hn9.cell 2
    have d3 := hn9.cell 3
    have d4 := hn9.cell 4
    have d5 := hn9.cell 5
    have d6 := hn9.cell 6
    simp only [List.getElem?_toArray, List.getElem?_cons_zero, List.getElem?_cons_succ] at d0 d1 d2 d3 d4 d5 d6
    have df0 := hn9.free 0
    have df1 := hn9.free 1
    have df2 := hn9.free 2
    have df3 := hn9.free 3
    have df4 := hn9.free 4
    have df5 := hn9.free 5
    have df6 := hn9.free 6
    clear hn9
    go_wp2
    refine bodyPost_ret (v := .tuple #[.agg #[.slice none 0 0, .int .i64 0, .int .i64 0, .bool false, .int .i64 0, .slice none 0 0, .bool false], .int .i64 7]) (by simp [results, Try.results9, go_sem, d0, d1, d2, d3, d4, d5, d6]) rfl ⟨agX_none HQ.out, ?_⟩
    exact (((((((HB9.out.setCell (Nat.le_add_right _ 2) _).setCell (Nat.le_add_right _ 2) _).setCell (Nat.le_add_right _ 2) _).setCell (Nat.le_add_right _ 2) _).setCell (Nat.le_add_right _ 2) _).setCell (Nat.le_add_right _ 2) _).setCell (Nat.le_add_right _ 2) _)
  | cons o s =>
    obtain ⟨o1, o2, o3⟩ := o
    have HQ : Hid (Q = (⟨Dk.applied L (o1, o2, o3), p, t, true, i, M, d⟩, 0)) := HG.out
    have HCa : Hid (Lk.chk (Dk.applied L (o1, o2, o3)) = 0) := HNr.out _ _ rfl
    have HApo : Hid (∀ w', Below w.heap.size w w' → Calls Try.prog 33 #[.slice a n c, .agg #[.int .i64 o1, .int .i64 o2, .int .i64 o3]] w' fun e w'' => (∃ y, e = .returned (.tuple #[y, .int .i64 (Dk.applyErr L (o1, o2, o3))]) ∧ PinsNew w'' w'.heap.size y (Dk.applied L (o1, o2, o3))) ∧ Below w'.heap.size w' w'') := HSd.out o1 o2 o3
    obtain ⟨ob, of, oc, he, ho1, ho2, ho3, ho4⟩ := ops_first HX.out
    injection he with he1 he2 he3
    subst he1 he3
    rw [he2]
    have HO : Hid (ob < w3.heap.size ∧ w3.cell? ⟨ob, of, none⟩ = some (.int .i64 o1) ∧ w3.cell? ⟨ob, of + 1, none⟩ = some (.int .i64 o2) ∧ w3.cell? ⟨ob, of + 2, none⟩ = some (.int .i64 o3)) := ⟨ho1, ho2, ho3, ho4⟩
    generalize hln : s.length + 1 = ln at ⊢
    have hlp : (0 : Int) < (ln : Int) := by omega
    have hlp' : decide ((0 : Int) < (ln : Int)) = true := decide_eq_true hlp
    clear HG HSd HNr HPL HX ho1 ho2 ho3 ho4 he2 hln
    generalize Dk.applyErr L (o1, o2, o3) = AE at HApo
    generalize Dk.applied L (o1, o2, o3) = AL at HApo HQ HCa
    have k0 := HR3.out.cell 0
    have k1 := HR3.out.cell 1
    have k2 := HR3.out.cell 2
    have k3 := HR3.out.cell 3
    have k4 := HR3.out.cell 4
    have k5 := HR3.out.cell 5
    have k6 := HR3.out.cell 6
    simp only [List.getElem?_toArray, List.getElem?_cons_zero, List.getElem?_cons_succ] at k0 k1 k2 k3 k4 k5 k6
    go_upto_region 18 with fail
    clear k0 k1 k2 k3 k4 k5 k6 hlp'
    have hB : Below w.heap.size w w3.drew := HB3.out.drew
    have hA : Blk w3.drew w.heap.size #[.slice a n c, .int .i64 p, .int .i64 t, .bool true, .int .i64 i, .slice a' m c', .bool d] 26 := HA3.out
    have HKd : Hid (Blk w3.drew w.heap.size #[.slice a n c, .int .i64 p, .int .i64 t, .bool true, .int .i64 i, .slice a' m c', .bool d] 26) := HA3.out
    have HZd : Hid (Blk w3.drew (w.heap.size + 1 + 1) #[.slice none 0 0, .int .i64 0, .int .i64 0, .bool false, .int .i64 0, .slice none 0 0, .bool false] 26) := HN3.out
    have o1c : w3.drew.cell? ⟨ob, of, none⟩ = some (.int .i64 o1) := HO.out.2.1
    have o2c : w3.drew.cell? ⟨ob, of + 1, none⟩ = some (.int .i64 o2) := HO.out.2.2.1
    have o3c : w3.drew.cell? ⟨ob, of + 2, none⟩ = some (.int .i64 o3) := HO.out.2.2.2
    have x0 := hA.cell 0
    simp only [List.getElem?_toArray, List.getElem?_cons_zero] at x0
    go_region_with (go_at_call 33; refine (HApo.out _ (by assumption)).mono ?_; rintro e w7 ⟨⟨y, rfl, hy⟩, hb7⟩; obtain ⟨sa, sc, rfl⟩ := pins_slice hy.pins; have PS : Hid (PinsNew w7 _ (.slice sa AL.length sc) AL) := hy; have hBn : Below w.heap.size w w7 := Below.trans (by assumption) (hb7.mono (Below.size (by assumption))); have hKn : Blk w7 w.heap.size #[.slice a n c, .int .i64 p, .int .i64 t, .bool true, .int .i64 i, .slice a' m c', .bool d] 26 := HKd.out.below hb7; have hZn : Blk w7 (w.heap.size + 1 + 1) #[.slice none 0 0, .int .i64 0, .int .i64 0, .bool false, .int .i64 0, .slice none 0 0, .bool false] 26 := HZd.out.below hb7; clear hy hb7; have kk0 := hKn.cell 0; simp only [List.getElem?_toArray, List.getElem?_cons_zero] at kk0; have kkf0 := hKn.free 0;)
    all_goals
      have hB6 : w.heap.size + 1 + 1 + 1 ≤ w3.drew.heap.size := HN3.out.lt
      have HX : Hid (Blk (w7.setCell ⟨w.heap.size, 0, none⟩ (.slice sa AL.length sc)) w.heap.size #[.slice sa AL.length sc, .int .i64 p, .int .i64 t, .bool true, .int .i64 i, .slice a' m c', .bool d] 26 ∧ Blk (w7.setCell ⟨w.heap.size, 0, none⟩ (.slice sa AL.length sc)) (w.heap.size + 1 + 1) #[.slice none 0 0, .int .i64 0, .int .i64 0, .bool false, .int .i64 0, .slice none 0 0, .bool false] 26 ∧ PinsNew (w7.setCell ⟨w.heap.size, 0, none⟩ (.slice sa AL.length sc)) (w.heap.size + 1 + 1 + 1) (.slice sa AL.length sc) AL ∧ PinsAt (w7.setCell ⟨w.heap.size, 0, none⟩ (.slice sa AL.length sc)) (.slice a' m c') M ∧ Below w.heap.size w (w7.setCell ⟨w.heap.size, 0, none⟩ (.slice sa AL.length sc))) := by
       refine ⟨hKn.put 0 (.slice sa AL.length sc), hZn.off (by omega), (PS.out.set (Nat.lt_of_lt_of_le (by omega) hB6)).mono hB6, HPM.out _ (hBn.setCell (Nat.le_refl _) _), hBn.setCell (Nat.le_refl _) _⟩
      clear hKn hZn hBn PS hB6
      try clear hA hB
      try clear x0 o1c o2c o3c
      try clear kk0 kkf0
      generalize w7.setCell ⟨w.heap.size, 0, none⟩ (.slice sa AL.length sc) = wc at HX ⊢
      generalize AL.length = sn at HX ⊢
      have hK := HX.out.1
      have hZ := HX.out.2.1
      have k0 := hK.cell 0
      have k1 := hK.cell 1
      have k2 := hK.cell 2
      have k3 := hK.cell 3
      have k4 := hK.cell 4
      have k5 := hK.cell 5
      have k6 := hK.cell 6
      simp only [List.getElem?_toArray, List.getElem?_cons_zero, List.getElem?_cons_succ] at k0 k1 k2 k3 k4 k5 k6
      have dd0 := hZ.cell 0
      have dd1 := hZ.cell 1
      have dd2 := hZ.cell 2
      have dd3 := hZ.cell 3
      have dd4 := hZ.cell 4
      have dd5 := hZ.cell 5
      have dd6 := hZ.cell 6
      simp only [List.getElem?_toArray, List.getElem?_cons_zero, List.getElem?_cons_succ] at dd0 dd1 dd2 dd3 dd4 dd5 dd6
      have ddf0 := hZ.free 0
      have ddf1 := hZ.free 1
      have ddf2 := hZ.free 2
      have ddf3 := hZ.free 3
      have ddf4 := hZ.free 4
      have ddf5 := hZ.free 5
      have ddf6 := hZ.free 6
      clear hK hZ
      go_wp2
      refine bodyPost_ret (v := .tuple #[.agg #[.slice sa sn sc, .int .i64 p, .int .i64 t, .bool true, .int .i64 i, .slice a' m c', .bool d], .int .i64 0]) (by simp [results, Try.results9, go_sem, dd0, dd1, dd2, dd3, dd4, dd5, dd6]) rfl ⟨?_, ?_⟩
      · rw [HQ.out]
        exact ⟨_, _, rfl, ((((((((HX.out.2.2.1.set (Nat.lt_succ_self _)).set (Nat.lt_succ_self _)).set (Nat.lt_succ_self _)).set (Nat.lt_succ_self _)).set (Nat.lt_succ_self _)).set (Nat.lt_succ_self _)).set (Nat.lt_succ_self _))).pins, HPM.out _ ((((((((HX.out.2.2.2.2.setCell (Nat.le_add_right _ 2) _).setCell (Nat.le_add_right _ 2) _).setCell (Nat.le_add_right _ 2) _).setCell (Nat.le_add_right _ 2) _).setCell (Nat.le_add_right _ 2) _).setCell (Nat.le_add_right _ 2) _).setCell (Nat.le_add_right _ 2) _)), fun g hg _ h2 _ => ⟨(((((((((HX.out.2.2.1.set (Nat.lt_succ_self _)).set (Nat.lt_succ_self _)).set (Nat.lt_succ_self _)).set (Nat.lt_succ_self _)).set (Nat.lt_succ_self _)).set (Nat.lt_succ_self _)).set (Nat.lt_succ_self _))).mono (show w.heap.size ≤ w.heap.size + 1 + 1 + 1 by omega)).off hg, h2.below ((((((((HX.out.2.2.2.2.setCell (Nat.le_add_right _ 2) _).setCell (Nat.le_add_right _ 2) _).setCell (Nat.le_add_right _ 2) _).setCell (Nat.le_add_right _ 2) _).setCell (Nat.le_add_right _ 2) _).setCell (Nat.le_add_right _ 2) _).setCell (Nat.le_add_right _ 2) _))⟩⟩
      · exact (((((((HX.out.2.2.2.2.setCell (Nat.le_add_right _ 2) _).setCell (Nat.le_add_right _ 2) _).setCell (Nat.le_add_right _ 2) _).setCell (Nat.le_add_right _ 2) _).setCell (Nat.le_add_right _ 2) _).setCell (Nat.le_add_right _ 2) _).setCell (Nat.le_add_right _ 2) _)
set_option maxHeartbeats 8000000 in
set_option maxRecDepth 100000 in
theorem agNextR_goes3 (L M r7 : List (Int × Int)) (p t i r2 r4 r6 : Int) (d r5 : Bool) (v u z : Value) (w : World) (hP : PinsAt w v L) (hQ : PinsAt w u M) (hR : PinsAt w z r7)
    (hC : ∀ w', Below w.heap.size w w' → Calls Try.prog 32 #[recV ⟨3, r2, t, r4, r5, r6, r7⟩ z] w' fun e w'' => e = .returned (.int .i64 (Lk.chkNote ⟨3, r2, t, r4, r5, r6, r7⟩)) ∧ Below w'.heap.size w' w'')
    (hca : Ag.chkAgent ⟨L, p, t, true, i, M, d⟩ = 0) (hcr : Lk.chkNote ⟨3, r2, t, r4, r5, r6, r7⟩ = 0) :
    Calls Try.prog 9 #[agV ⟨L, p, t, true, i, M, d⟩ v u, recV ⟨3, r2, t, r4, r5, r6, r7⟩ z] w fun e w' => agX w w' v u z L M r7 (Ag.nextA ⟨L, p, t, true, i, M, d⟩ ⟨3, r2, t, r4, r5, r6, r7⟩) e ∧ Below w.heap.size w w' := by
  obtain ⟨a, c, rfl⟩ := pins_slice hP
  obtain ⟨a', c', rfl⟩ := pins_slice hQ
  obtain ⟨b, f, rfl⟩ := pins_slice hR
  rw [nx_in hca hcr, if_neg (show ¬ (3 : Int) = 1 by decide), if_neg (show ¬ 3 < (3 : Int) by decide), if_pos ⟨rfl, rfl⟩]
  unfold agV agC recV
  simp only
  have HCA : Hid (∀ w', Below w.heap.size w w' → Calls Try.prog 10 #[.agg #[.slice a L.length c, .int .i64 p, .int .i64 t, .bool true, .int .i64 i, .slice a' M.length c', .bool d]] w' fun e w'' => e = .returned (.int .i64 0) ∧ Below w'.heap.size w' w'') := fun w' hb => by
    have := checkAgR_any L M p t i true d _ _ w' (hP.below hb) (hQ.below hb)
    rw [hca] at this
    exact this
  have HCR : Hid (∀ w', Below w.heap.size w w' → Calls Try.prog 32 #[.agg #[.int .i64 3, .int .i64 r2, .int .i64 t, .int .i64 r4, .bool r5, .int .i64 r6, .slice b r7.length f]] w' fun e w'' => e = .returned (.int .i64 0) ∧ Below w'.heap.size w' w'') := fun w' hb => by
    have := hC w' hb
    rw [hcr] at this
    exact this
  have HSt : Hid (∀ w', Below w.heap.size w w' → Calls Try.prog 12 #[.slice a L.length c, .slice a' M.length c'] w' fun e w'' => (∃ x, e = .returned (.tuple #[x, .int .i64 0]) ∧ OpsAt w'' x (Ag.stepsA ⟨L, p, t, true, i, M, d⟩)) ∧ Below w'.heap.size w' w'') := fun w' hb => stepsR_going _ _ L M p t i d hca w' (hP.below hb) (hQ.below hb)
  have HSd : Hid (∀ o1 o2 o3, ∀ w', Below w.heap.size w w' → Calls Try.prog 33 #[.slice a L.length c, .agg #[.int .i64 o1, .int .i64 o2, .int .i64 o3]] w' fun e w'' => (∃ y, e = .returned (.tuple #[y, .int .i64 (Dk.applyErr L (o1, o2, o3))]) ∧ PinsNew w'' w'.heap.size y (Dk.applied L (o1, o2, o3))) ∧ Below w'.heap.size w' w'') := fun o1 o2 o3 w' hb => stepped_new _ L o1 o2 o3 w' (hP.below hb)
  have HPL : Hid (∀ w', Below w.heap.size w w' → PinsAt w' (.slice a L.length c) L) := fun w' hb => hP.below hb
  have HPM : Hid (∀ w', Below w.heap.size w w' → PinsAt w' (.slice a' M.length c') M) := fun w' hb => hQ.below hb
  have HG : Hid (Ag.goesA ⟨L, p, t, true, i, M, d⟩ ⟨3, r2, t, r4, r5, r6, r7⟩ = (match Ag.stepsA ⟨L, p, t, true, i, M, d⟩ with | o :: _ => if (3 : Int) = 2 then (⟨Dk.applied L o, p, t, true, i, M, d⟩, 0) else (Ag.Agent.none, 7) | [] => if (3 : Int) = 3 then (⟨L, i, t, false, 0, [], r5⟩, 0) else (Ag.Agent.none, 7))) := by
    unfold Ag.goesA
    rfl
  have HNr : Hid (∀ o s, Ag.stepsA ⟨L, p, t, true, i, M, d⟩ = o :: s → Lk.chk (Dk.applied L o) = 0) := fun o s hs => (Ag.chk_parts (Ag.step_nearer hca rfl hs).1).1
  clear hP hQ hR hC hca hcr
  generalize Ag.goesA ⟨L, p, t, true, i, M, d⟩ ⟨3, r2, t, r4, r5, r6, r7⟩ = Q at HG ⊢
  generalize Ag.stepsA ⟨L, p, t, true, i, M, d⟩ = SS at HG HSt HNr
  generalize L.length = n at HCA HSt HSd HPL ⊢
  generalize M.length = m at HCA HSt HPM ⊢
  generalize r7.length = q at HCR ⊢
  have HB0 : Hid (Below w.heap.size w (((w.alloc (.cells #[.slice a n c, .int .i64 p, .int .i64 t, .bool true, .int .i64 i, .slice a' m c', .bool d] 26)).alloc (.cells #[.int .i64 3, .int .i64 r2, .int .i64 t, .int .i64 r4, .bool r5, .int .i64 r6, .slice b q f] 28)).alloc (.cells #[.slice none 0 0, .int .i64 0, .int .i64 0, .bool false, .int .i64 0, .slice none 0 0, .bool false] 26))) := (((Below.refl _ w).alloc (Nat.le_refl _) _).alloc (by simp) _).alloc (by simp; omega) _
  have HA0 : Hid (Blk (((w.alloc (.cells #[.slice a n c, .int .i64 p, .int .i64 t, .bool true, .int .i64 i, .slice a' m c', .bool d] 26)).alloc (.cells #[.int .i64 3, .int .i64 r2, .int .i64 t, .int .i64 r4, .bool r5, .int .i64 r6, .slice b q f] 28)).alloc (.cells #[.slice none 0 0, .int .i64 0, .int .i64 0, .bool false, .int .i64 0, .slice none 0 0, .bool false] 26)) w.heap.size #[.slice a n c, .int .i64 p, .int .i64 t, .bool true, .int .i64 i, .slice a' m c', .bool d] 26) := ((blk_alloc w _ _).below ((Below.refl _ _).alloc (Nat.le_refl _) _)).below ((Below.refl _ _).alloc (Nat.le_refl _) _)
  have HR0 : Hid (Blk (((w.alloc (.cells #[.slice a n c, .int .i64 p, .int .i64 t, .bool true, .int .i64 i, .slice a' m c', .bool d] 26)).alloc (.cells #[.int .i64 3, .int .i64 r2, .int .i64 t, .int .i64 r4, .bool r5, .int .i64 r6, .slice b q f] 28)).alloc (.cells #[.slice none 0 0, .int .i64 0, .int .i64 0, .bool false, .int .i64 0, .slice none 0 0, .bool false] 26)) (w.heap.size + 1) #[.int .i64 3, .int .i64 r2, .int .i64 t, .int .i64 r4, .bool r5, .int .i64 r6, .slice b q f] 28) := by
    have := (blk_alloc (w.alloc (.cells #[.slice a n c, .int .i64 p, .int .i64 t, .bool true, .int .i64 i, .slice a' m c', .bool d] 26)) #[.int .i64 3, .int .i64 r2, .int .i64 t, .int .i64 r4, .bool r5, .int .i64 r6, .slice b q f] 28).below ((Below.refl _ _).alloc (Nat.le_refl _) (.cells #[.slice none 0 0, .int .i64 0, .int .i64 0, .bool false, .int .i64 0, .slice none 0 0, .bool false] 26))
    rwa [World.size_alloc] at this
  have HN0 : Hid (Blk (((w.alloc (.cells #[.slice a n c, .int .i64 p, .int .i64 t, .bool true, .int .i64 i, .slice a' m c', .bool d] 26)).alloc (.cells #[.int .i64 3, .int .i64 r2, .int .i64 t, .int .i64 r4, .bool r5, .int .i64 r6, .slice b q f] 28)).alloc (.cells #[.slice none 0 0, .int .i64 0, .int .i64 0, .bool false, .int .i64 0, .slice none 0 0, .bool false] 26)) (w.heap.size + 1 + 1) #[.slice none 0 0, .int .i64 0, .int .i64 0, .bool false, .int .i64 0, .slice none 0 0, .bool false] 26) := by
    have := blk_alloc ((w.alloc (.cells #[.slice a n c, .int .i64 p, .int .i64 t, .bool true, .int .i64 i, .slice a' m c', .bool d] 26)).alloc (.cells #[.int .i64 3, .int .i64 r2, .int .i64 t, .int .i64 r4, .bool r5, .int .i64 r6, .slice b q f] 28)) #[.slice none 0 0, .int .i64 0, .int .i64 0, .bool false, .int .i64 0, .slice none 0 0, .bool false] 26
    rwa [World.size_alloc, World.size_alloc] at this
  go_enter Try.func9, Try.ntmps9
  go_upto_region 2 with fail
  generalize (((w.alloc (.cells #[.slice a n c, .int .i64 p, .int .i64 t, .bool true, .int .i64 i, .slice a' m c', .bool d] 26)).alloc (.cells #[.int .i64 3, .int .i64 r2, .int .i64 t, .int .i64 r4, .bool r5, .int .i64 r6, .slice b q f] 28)).alloc (.cells #[.slice none 0 0, .int .i64 0, .int .i64 0, .bool false, .int .i64 0, .slice none 0 0, .bool false] 26)) = w0 at HB0 HA0 HR0 HN0 ⊢
  have k0 := HA0.out.cell 0
  have k1 := HA0.out.cell 1
  have k2 := HA0.out.cell 2
  have k3 := HA0.out.cell 3
  have k4 := HA0.out.cell 4
  have k5 := HA0.out.cell 5
  have k6 := HA0.out.cell 6
  simp only [List.getElem?_toArray, List.getElem?_cons_zero, List.getElem?_cons_succ] at k0 k1 k2 k3 k4 k5 k6
  go_wp2_with fail
  refine (HCA.out _ HB0.out).mono ?_
  rintro e w1 ⟨rfl, hb1⟩
  have HB1 : Hid (Below w.heap.size w w1) := HB0.out.trans (hb1.mono HB0.out.size)
  have HA1 : Hid (Blk w1 _ _ _) := HA0.out.below hb1
  have HR1 : Hid (Blk w1 _ _ _) := HR0.out.below hb1
  have HN1 : Hid (Blk w1 _ _ _) := HN0.out.below hb1
  clear hb1 HB0 HA0 HR0 HN0 HCA k0 k1 k2 k3 k4 k5 k6
  have k0 := HR1.out.cell 0
  have k1 := HR1.out.cell 1
  have k2 := HR1.out.cell 2
  have k3 := HR1.out.cell 3
  have k4 := HR1.out.cell 4
  have k5 := HR1.out.cell 5
  have k6 := HR1.out.cell 6
  simp only [List.getElem?_toArray, List.getElem?_cons_zero, List.getElem?_cons_succ] at k0 k1 k2 k3 k4 k5 k6
  go_wp2_with fail
  refine (HCR.out _ HB1.out).mono ?_
  rintro e w2 ⟨rfl, hb2⟩
  have HB2 : Hid (Below w.heap.size w w2) := HB1.out.trans (hb2.mono HB1.out.size)
  have HA2 : Hid (Blk w2 _ _ _) := HA1.out.below hb2
  have HR2 : Hid (Blk w2 _ _ _) := HR1.out.below hb2
  have HN2 : Hid (Blk w2 _ _ _) := HN1.out.below hb2
  clear hb2 HB1 HA1 HR1 HN1 HCR k0 k1 k2 k3 k4 k5 k6
  have k0 := HR2.out.cell 0
  have k1 := HR2.out.cell 1
  have k2 := HR2.out.cell 2
  have k3 := HR2.out.cell 3
  have k4 := HR2.out.cell 4
  have k5 := HR2.out.cell 5
  have k6 := HR2.out.cell 6
  simp only [List.getElem?_toArray, List.getElem?_cons_zero, List.getElem?_cons_succ] at k0 k1 k2 k3 k4 k5 k6
  have x0 := HA2.out.cell 0
  have x1 := HA2.out.cell 1
  have x2 := HA2.out.cell 2
  have x3 := HA2.out.cell 3
  have x4 := HA2.out.cell 4
  have x5 := HA2.out.cell 5
  have x6 := HA2.out.cell 6
  simp only [List.getElem?_toArray, List.getElem?_cons_zero, List.getElem?_cons_succ] at x0 x1 x2 x3 x4 x5 x6
  go_wp2_with fail
  refine (HSt.out _ HB2.out).mono ?_
  rintro e w3 ⟨⟨x, rfl, hx⟩, hb3⟩
  obtain ⟨xa, xc, rfl⟩ := ops_slice hx
  have HX : Hid (OpsAt w3 (.slice xa SS.length xc) SS) := hx
  have HB3 : Hid (Below w.heap.size w w3) := HB2.out.trans (hb3.mono HB2.out.size)
  have HA3 : Hid (Blk w3 _ _ _) := HA2.out.below hb3
  have HR3 : Hid (Blk w3 _ _ _) := HR2.out.below hb3
  have HN3 : Hid (Blk w3 _ _ _) := HN2.out.below hb3
  clear hx hb3 HB2 HA2 HR2 HN2 HSt k0 k1 k2 k3 k4 k5 k6 x0 x1 x2 x3 x4 x5 x6
  cases SS with
  | cons o s =>
    have HQ : Hid (Q = (Ag.Agent.none, 7)) := HG.out
    clear HG HSd HNr HPL HPM HX HA3
    have k0 := HR3.out.cell 0
    have k1 := HR3.out.cell 1
    have k2 := HR3.out.cell 2
    have k3 := HR3.out.cell 3
    have k4 := HR3.out.cell 4
    have k5 := HR3.out.cell 5
    have k6 := HR3.out.cell 6
    simp only [List.getElem?_toArray, List.getElem?_cons_zero, List.getElem?_cons_succ] at k0 k1 k2 k3 k4 k5 k6
    simp only [List.length_cons]
    generalize hln : s.length + 1 = ln at ⊢
    have hlz : ((ln : Int) == 0) = false := by rw [beq_eq_false_iff_ne]; omega
    clear hln
    go_wp2_with fail
    refine (agbad_any 7 _).mono ?_
    rintro e w9 ⟨rfl, hb9⟩
    have HB9 : Hid (Below w.heap.size w w9) := HB3.out.trans (hb9.mono HB3.out.size)
    have hn9 := HN3.out.below hb9
    clear hb9 HB3 HN3
    have d0 := hn9.cell 0
    have d1 := hn9.cell 1
    have d2 := hn9.cell 2
    have d3 := hn9.cell 3
    have d4 := hn9.cell 4
    have d5 := hn9.cell 5
    have d6 := hn9.cell 6
    simp only [List.getElem?_toArray, List.getElem?_cons_zero, List.getElem?_cons_succ] at d0 d1 d2 d3 d4 d5 d6
    have df0 := hn9.free 0
    have df1 := hn9.free 1
    have df2 := hn9.free 2
    have df3 := hn9.free 3
    have df4 := hn9.free 4
    have df5 := hn9.free 5
    have df6 := hn9.free 6
    clear hn9
    go_wp2
    refine bodyPost_ret (v := .tuple #[.agg #[.slice none 0 0, .int .i64 0, .int .i64 0, .bool false, .int .i64 0, .slice none 0 0, .bool false], .int .i64 7]) (by simp [results, Try.results9, go_sem, d0, d1, d2, d3, d4, d5, d6]) rfl ⟨agX_none HQ.out, ?_⟩
    exact (((((((HB9.out.setCell (Nat.le_add_right _ 2) _).setCell (Nat.le_add_right _ 2) _).setCell (Nat.le_add_right _ 2) _).setCell (Nat.le_add_right _ 2) _).setCell (Nat.le_add_right _ 2) _).setCell (Nat.le_add_right _ 2) _).setCell (Nat.le_add_right _ 2) _)
  | nil =>
    have HQ : Hid (Q = (⟨L, i, t, false, 0, [], r5⟩, 0)) := HG.out
    clear HG HSd HNr HPM HX
    have k0 := HR3.out.cell 0
    have k1 := HR3.out.cell 1
    have k2 := HR3.out.cell 2
    have k3 := HR3.out.cell 3
    have k4 := HR3.out.cell 4
    have k5 := HR3.out.cell 5
    have k6 := HR3.out.cell 6
    simp only [List.getElem?_toArray, List.getElem?_cons_zero, List.getElem?_cons_succ] at k0 k1 k2 k3 k4 k5 k6
    have x0 := HA3.out.cell 0
    have x1 := HA3.out.cell 1
    have x2 := HA3.out.cell 2
    have x3 := HA3.out.cell 3
    have x4 := HA3.out.cell 4
    have x5 := HA3.out.cell 5
    have x6 := HA3.out.cell 6
    simp only [List.getElem?_toArray, List.getElem?_cons_zero, List.getElem?_cons_succ] at x0 x1 x2 x3 x4 x5 x6
    have d0 := HN3.out.cell 0
    have d1 := HN3.out.cell 1
    have d2 := HN3.out.cell 2
    have d3 := HN3.out.cell 3
    have d4 := HN3.out.cell 4
    have d5 := HN3.out.cell 5
    have d6 := HN3.out.cell 6
    simp only [List.getElem?_toArray, List.getElem?_cons_zero, List.getElem?_cons_succ] at d0 d1 d2 d3 d4 d5 d6
    have df0 := HN3.out.free 0
    have df1 := HN3.out.free 1
    have df2 := HN3.out.free 2
    have df3 := HN3.out.free 3
    have df4 := HN3.out.free 4
    have df5 := HN3.out.free 5
    have df6 := HN3.out.free 6
    clear HA3 HR3 HN3
    simp only [List.length_nil]
    go_wp2
    refine bodyPost_ret (v := .tuple #[.agg #[.slice a n c, .int .i64 i, .int .i64 t, .bool false, .int .i64 0, .slice none 0 0, .bool r5], .int .i64 0]) (by simp [results, Try.results9, go_sem, d0, d1, d2, d3, d4, d5, d6]) rfl ⟨?_, ?_⟩
    · rw [HQ.out]
      exact ⟨_, _, rfl, HPL.out _ ((((((((HB3.out.setCell (Nat.le_add_right _ 2) _).setCell (Nat.le_add_right _ 2) _).setCell (Nat.le_add_right _ 2) _).setCell (Nat.le_add_right _ 2) _).setCell (Nat.le_add_right _ 2) _).setCell (Nat.le_add_right _ 2) _).setCell (Nat.le_add_right _ 2) _)), pins_none _, fun g _ h1 _ _ => ⟨h1.below ((((((((HB3.out.setCell (Nat.le_add_right _ 2) _).setCell (Nat.le_add_right _ 2) _).setCell (Nat.le_add_right _ 2) _).setCell (Nat.le_add_right _ 2) _).setCell (Nat.le_add_right _ 2) _).setCell (Nat.le_add_right _ 2) _).setCell (Nat.le_add_right _ 2) _)), pinsOff_none _ _⟩⟩
    · exact (((((((HB3.out.setCell (Nat.le_add_right _ 2) _).setCell (Nat.le_add_right _ 2) _).setCell (Nat.le_add_right _ 2) _).setCell (Nat.le_add_right _ 2) _).setCell (Nat.le_add_right _ 2) _).setCell (Nat.le_add_right _ 2) _).setCell (Nat.le_add_right _ 2) _)
theorem agNextR_any (L M r7 : List (Int × Int)) (p t i r1 r2 r3 r4 r6 : Int) (g d r5 : Bool) (v u z : Value) (w : World) (hP : PinsAt w v L) (hQ : PinsAt w u M) (hR : PinsAt w z r7)
    (hC : ∀ w', Below w.heap.size w w' → Calls Try.prog 32 #[recV ⟨r1, r2, r3, r4, r5, r6, r7⟩ z] w' fun e w'' => e = .returned (.int .i64 (Lk.chkNote ⟨r1, r2, r3, r4, r5, r6, r7⟩)) ∧ Below w'.heap.size w' w'') :
    Calls Try.prog 9 #[agV ⟨L, p, t, g, i, M, d⟩ v u, recV ⟨r1, r2, r3, r4, r5, r6, r7⟩ z] w fun e w' => agX w w' v u z L M r7 (Ag.nextA ⟨L, p, t, g, i, M, d⟩ ⟨r1, r2, r3, r4, r5, r6, r7⟩) e ∧ Below w.heap.size w w' := by
  by_cases h : Ag.chkAgent ⟨L, p, t, g, i, M, d⟩ = 0 ∧ Lk.chkNote ⟨r1, r2, r3, r4, r5, r6, r7⟩ = 0 ∧ ¬ r1 = 1 ∧ r1 ≤ 3 ∧ g = true ∧ t = r3
  · obtain ⟨h1, h2, h3, h4, rfl, rfl⟩ := h
    have hk := note_kind h2
    simp only at hk
    have : r1 = 2 ∨ r1 = 3 := by omega
    rcases this with rfl | rfl
    · exact agNextR_goes2 L M r7 p t i r2 r4 r6 d r5 v u z w hP hQ hR hC h1 h2
    · exact agNextR_goes3 L M r7 p t i r2 r4 r6 d r5 v u z w hP hQ hR hC h1 h2
  · exact agNextR_early L M r7 p t i r1 r2 r3 r4 r6 g d r5 v u z w hP hQ hR hC (fun h1 h2 h3 h4 h5 => h ⟨h1, h2, h3, h4, h5.1, h5.2⟩)
end Go.Proofs.Ytbnaaookeagjgaa
