/- The walk of AgentComes: who goes comes there. -/
import Derived.Test.YtbnaaookeagjgaaAGo
import Derived.Test.YtbnaaookeagjgaaAt
namespace Go.Proofs.Ytbnaaookeagjgaa
open Go.RowKit
theorem set7_far (x : World) (b : Nat) (v0 v1 v2 v3 v4 v5 v6 : Value) (g o : Nat) (h : g ≠ b) : (((((((x.setCell ⟨b, 0, none⟩ v0).setCell ⟨b, 1, none⟩ v1).setCell ⟨b, 2, none⟩ v2).setCell ⟨b, 3, none⟩ v3).setCell ⟨b, 4, none⟩ v4).setCell ⟨b, 5, none⟩ v5).setCell ⟨b, 6, none⟩ v6).cell? ⟨g, o, none⟩ = x.cell? ⟨g, o, none⟩ := by
  have hn : ∀ j, (⟨b, j, none⟩ : Addr) ≠ ⟨g, o, none⟩ := fun j e => h (by injection e with e1; exact e1.symm)
  rw [World.cell?_setCell_other _ _ _ _ (hn _), World.cell?_setCell_other _ _ _ _ (hn _), World.cell?_setCell_other _ _ _ _ (hn _), World.cell?_setCell_other _ _ _ _ (hn _), World.cell?_setCell_other _ _ _ _ (hn _), World.cell?_setCell_other _ _ _ _ (hn _), World.cell?_setCell_other _ _ _ _ (hn _)]
theorem steps_le (A B : List Int) : (Dk.steps A B).length ≤ 42 := by
  rw [Dk.steps, List.length_append]
  have h1 := Dk.fm_len (Dk.dropAt A B) 21
  have h2 := Dk.fm_len (Dk.restAt A B) 21
  unfold Dk.drops Dk.rests
  omega
set_option maxHeartbeats 32000000 in
set_option maxRecDepth 100000 in
theorem agComes_any (L M rl ol : List (Int × Int)) (p t i ri oi tr0 : Int) (g d : Bool) (v u z o : Value) (w : World) (hP : PinsAt w v L) (hQ : PinsAt w u M) (hR : PinsAt w z rl) (hO : PinsAt w o ol) :
    Calls Try.prog 5 #[agV ⟨L, p, t, g, i, M, d⟩ v u, relV ri z, relV oi o, .int .i64 tr0] w fun e w' => e = .returned (.bool true) ∧ Below w.heap.size w w' := by
  obtain ⟨a, c, rfl⟩ := pins_slice hP
  obtain ⟨a', c', rfl⟩ := pins_slice hQ
  obtain ⟨ra, rc, rfl⟩ := pins_slice hR
  obtain ⟨oa, oc, rfl⟩ := pins_slice hO
  unfold agV agC relV
  simp only
  have HCk : Hid (∀ w', Below w.heap.size w w' → Calls Try.prog 14 #[.agg #[.slice a L.length c, .int .i64 p, .int .i64 t, .bool g, .int .i64 i, .slice a' M.length c', .bool d]] w' fun e w'' => e = .returned (.int .i64 (Ag.chkAgent ⟨L, p, t, g, i, M, d⟩)) ∧ Below w'.heap.size w' w'') := fun w' hb => agCheck_any L M p t i g d _ _ w' (hP.below hb) (hQ.below hb)
  have HRl : Hid (∀ w', Below w.heap.size w w' → Calls Try.prog 20 #[.agg #[.int .i64 ri, .slice ra rl.length rc]] w' fun e w'' => e = .returned (.int .i64 (Lk.chkRel ri rl)) ∧ Below w'.heap.size w' w'') := fun w' hb => release_any ri _ rl w' (hR.below hb)
  have HPs : Hid (∀ w', Below w.heap.size w w' → PinsAt w' (.slice a L.length c) L ∧ PinsAt w' (.slice a' M.length c') M ∧ PinsAt w' (.slice ra rl.length rc) rl ∧ PinsAt w' (.slice oa ol.length oc) ol) := fun w' hb => ⟨hP.below hb, hQ.below hb, hR.below hb, hO.below hb⟩
  clear hP hQ hR hO
  generalize hnn : L.length = n at HCk HPs ⊢
  generalize M.length = m at HCk HPs ⊢
  generalize hrn : rl.length = rn at HRl HPs ⊢
  generalize ol.length = on at HPs ⊢
  have HB0 : Hid (Below w.heap.size w (((w.alloc (.cells #[.slice a n c, .int .i64 p, .int .i64 t, .bool g, .int .i64 i, .slice a' m c', .bool d] 26)).alloc (.cells #[.int .i64 ri, .slice ra rn rc] 24)).alloc (.cells #[.int .i64 oi, .slice oa on oc] 24))) := (((Below.refl _ w).alloc (Nat.le_refl _) _).alloc (by simp) _).alloc (by simp; omega) _
  have HA : Hid (Blk (((w.alloc (.cells #[.slice a n c, .int .i64 p, .int .i64 t, .bool g, .int .i64 i, .slice a' m c', .bool d] 26)).alloc (.cells #[.int .i64 ri, .slice ra rn rc] 24)).alloc (.cells #[.int .i64 oi, .slice oa on oc] 24)) w.heap.size #[.slice a n c, .int .i64 p, .int .i64 t, .bool g, .int .i64 i, .slice a' m c', .bool d] 26) := ((blk_alloc w _ _).below ((Below.refl _ _).alloc (Nat.le_refl _) _)).below ((Below.refl _ _).alloc (Nat.le_refl _) _)
  have HR : Hid (Blk (((w.alloc (.cells #[.slice a n c, .int .i64 p, .int .i64 t, .bool g, .int .i64 i, .slice a' m c', .bool d] 26)).alloc (.cells #[.int .i64 ri, .slice ra rn rc] 24)).alloc (.cells #[.int .i64 oi, .slice oa on oc] 24)) (w.heap.size + 1) #[.int .i64 ri, .slice ra rn rc] 24) := by
    have := (blk_alloc (w.alloc (.cells #[.slice a n c, .int .i64 p, .int .i64 t, .bool g, .int .i64 i, .slice a' m c', .bool d] 26)) #[.int .i64 ri, .slice ra rn rc] 24).below ((Below.refl _ _).alloc (Nat.le_refl _) (.cells #[.int .i64 oi, .slice oa on oc] 24))
    rwa [World.size_alloc] at this
  have HO : Hid (Blk (((w.alloc (.cells #[.slice a n c, .int .i64 p, .int .i64 t, .bool g, .int .i64 i, .slice a' m c', .bool d] 26)).alloc (.cells #[.int .i64 ri, .slice ra rn rc] 24)).alloc (.cells #[.int .i64 oi, .slice oa on oc] 24)) (w.heap.size + 1 + 1) #[.int .i64 oi, .slice oa on oc] 24) := by
    have := blk_alloc ((w.alloc (.cells #[.slice a n c, .int .i64 p, .int .i64 t, .bool g, .int .i64 i, .slice a' m c', .bool d] 26)).alloc (.cells #[.int .i64 ri, .slice ra rn rc] 24)) #[.int .i64 oi, .slice oa on oc] 24
    rwa [World.size_alloc, World.size_alloc] at this
  have HRn : Hid (rl.length = rn) := hrn
  clear hnn hrn
  go_enter Try.func5, Try.ntmps5
  go_upto_region 1 with fail
  generalize (((w.alloc (.cells #[.slice a n c, .int .i64 p, .int .i64 t, .bool g, .int .i64 i, .slice a' m c', .bool d] 26)).alloc (.cells #[.int .i64 ri, .slice ra rn rc] 24)).alloc (.cells #[.int .i64 oi, .slice oa on oc] 24)) = w0 at HB0 HA HR HO ⊢
  go_wp2_with fail
  refine (gone_any _).mono ?_
  rintro e w1 ⟨rfl, hb1⟩
  have HB1 : Hid (Below w.heap.size w w1) := HB0.out.trans (hb1.mono HB0.out.size)
  replace HA : Hid (Blk w1 _ _ _) := HA.out.below hb1
  replace HR : Hid (Blk w1 _ _ _) := HR.out.below hb1
  replace HO : Hid (Blk w1 _ _ _) := HO.out.below hb1
  clear hb1 HB0
  have k0 := HA.out.cell 0
  have k1 := HA.out.cell 1
  have k2 := HA.out.cell 2
  have k3 := HA.out.cell 3
  have k4 := HA.out.cell 4
  have k5 := HA.out.cell 5
  have k6 := HA.out.cell 6
  simp only [List.getElem?_toArray, List.getElem?_cons_zero, List.getElem?_cons_succ] at k0 k1 k2 k3 k4 k5 k6
  go_wp2_with fail
  refine (HCk.out _ HB1.out).mono ?_
  rintro e w2 ⟨rfl, hb2⟩
  have HB2 : Hid (Below w.heap.size w w2) := HB1.out.trans (hb2.mono HB1.out.size)
  replace HA : Hid (Blk w2 _ _ _) := HA.out.below hb2
  replace HR : Hid (Blk w2 _ _ _) := HR.out.below hb2
  replace HO : Hid (Blk w2 _ _ _) := HO.out.below hb2
  clear hb2 HB1 k0 k1 k2 k3 k4 k5 k6
  generalize hca : Ag.chkAgent ⟨L, p, t, g, i, M, d⟩ = CA
  by_cases h1 : CA = 0
  rotate_left
  · have h1b : (CA != 0) = true := by rw [bne_iff_ne]; exact h1
    clear h1 hca HCk HRl HPs HA HR HO
    go_wp2_with fail
    refine (gone_any _).mono ?_
    rintro e w9 ⟨rfl, hb9⟩
    have HB9 : Hid (Below w.heap.size w w9) := HB2.out.trans (hb9.mono HB2.out.size)
    clear hb9 HB2
    go_wp2
    go_ret
    exact ⟨rfl, HB9.out⟩
  subst h1
  have HCA : Hid (Ag.chkAgent ⟨L, p, t, g, i, M, d⟩ = 0) := hca
  clear hca
  by_cases h2 : t = 200
  · subst h2
    have k2 := HA.out.cell 2
    simp only [List.getElem?_toArray, List.getElem?_cons_zero, List.getElem?_cons_succ] at k2
    clear HCk HRl HPs HA HR HO HCA
    go_wp2_with fail
    refine (gone_any _).mono ?_
    rintro e w9 ⟨rfl, hb9⟩
    have HB9 : Hid (Below w.heap.size w w9) := HB2.out.trans (hb9.mono HB2.out.size)
    clear hb9 HB2
    go_wp2
    go_ret
    exact ⟨rfl, HB9.out⟩
  have h2b : (t == 200) = false := by simpa using h2
  have k2 := HA.out.cell 2
  simp only [List.getElem?_toArray, List.getElem?_cons_zero, List.getElem?_cons_succ] at k2
  have x0 := HR.out.cell 0
  have x1 := HR.out.cell 1
  simp only [List.getElem?_toArray, List.getElem?_cons_zero, List.getElem?_cons_succ] at x0 x1
  go_wp2_with fail
  refine (HRl.out _ HB2.out).mono ?_
  rintro e w3 ⟨rfl, hb3⟩
  have HB3 : Hid (Below w.heap.size w w3) := HB2.out.trans (hb3.mono HB2.out.size)
  replace HA : Hid (Blk w3 _ _ _) := HA.out.below hb3
  replace HR : Hid (Blk w3 _ _ _) := HR.out.below hb3
  replace HO : Hid (Blk w3 _ _ _) := HO.out.below hb3
  clear hb3 HB2 k2 x0 x1 HRl
  generalize hcr : Lk.chkRel ri rl = CR
  by_cases h3 : CR = 0
  rotate_left
  · have h3b : (CR != 0) = true := by rw [bne_iff_ne]; exact h3
    clear h3 hcr HCk HPs HA HR HO HCA
    go_wp2_with fail
    refine (gone_any _).mono ?_
    rintro e w9 ⟨rfl, hb9⟩
    have HB9 : Hid (Below w.heap.size w w9) := HB3.out.trans (hb9.mono HB3.out.size)
    clear hb9 HB3
    go_wp2
    go_ret
    exact ⟨rfl, HB9.out⟩
  subst h3
  have HCR : Hid (Lk.chkRel ri rl = 0) := hcr
  clear hcr HCk
  obtain ⟨-, -, ⟨t1, t2⟩, -, -⟩ := Ag.chk_parts HCA.out
  simp only at t1 t2
  obtain ⟨tt, rfl⟩ : ∃ tt : Nat, t = tt := ⟨t.toNat, by omega⟩
  have htt : tt < 200 := by omega
  have hsub : (200 : Int) - (tt : Int) = ((200 - tt : Nat) : Int) := by omega
  have HAt : Hid (∀ w', Calls Try.prog 21 #[.int .i64 tr0, .int .i64 (IntKind.i64.wrap ((200 : Int) - (tt : Int)))] w' fun e w'' => (∃ j : Nat, e = .returned (.int .i64 j) ∧ j < 200 - tt) ∧ w'' = w') := fun w' => by
    rw [show IntKind.i64.wrap ((200 : Int) - (tt : Int)) = ((200 - tt : Nat) : Int) from by rw [IntKind.wrap_i64]; omega]
    exact at_any tr0 (200 - tt) (by omega) (by omega) w'
  clear h2 hsub
  go_upto_region 3 with fail
  go_cut [3] from 38 to 46 (fun s3 wx => ∃ j : Nat, s3 = .int .i64 ((tt + 1 + j : Nat) : Int) ∧ j < 200 - tt ∧ Hid (Below w3.heap.size w3 wx))
  case first =>
    have hA3 : Blk w3.drew w.heap.size #[.slice a n c, .int .i64 p, .int .i64 (tt : Int), .bool g, .int .i64 i, .slice a' m c', .bool d] 26 := HA.out
    have k2 := hA3.cell 2
    simp only [List.getElem?_toArray, List.getElem?_cons_zero, List.getElem?_cons_succ] at k2
    have k2' := HA.out.cell 2
    simp only [List.getElem?_toArray, List.getElem?_cons_zero, List.getElem?_cons_succ] at k2'
    clear hA3
    go_region_with (go_at_call 21; refine (HAt.out _).mono ?_; rintro e w4 ⟨⟨j, rfl, hj⟩, hw4⟩; subst hw4)
    all_goals
      go_wp2_with fail
      go_meet
      exact ⟨j, congrArg _ (by simp only [IntKind.wrap_i64]; omega), hj, (Below.refl _ _).drew⟩
  case rest =>
    obtain ⟨j, rfl, hj, HBc⟩ := hcut
    generalize hTT : ((tt + 1 + j : Nat) : Int) = TT
    have HTT : Hid ((tt : Int) < TT ∧ TT ≤ 200 ∧ 1 ≤ TT) := ⟨by omega, by omega, by omega⟩
    have HTn : Hid (TT = ((tt + 1 + j : Nat) : Int)) := hTT.symm
    have hTr : TT ≤ 200 := by omega
    have hTr1 : 1 ≤ TT := by omega
    clear HAt
    have HB4 : Hid (Below w.heap.size w wc) := HB3.out.trans (HBc.out.mono HB3.out.size)
    replace HA : Hid (Blk wc _ _ _) := HA.out.below HBc.out
    replace HR : Hid (Blk wc _ _ _) := HR.out.below HBc.out
    replace HO : Hid (Blk wc _ _ _) := HO.out.below HBc.out
    have HOlt : Hid (w.heap.size + 1 + 1 < wc.heap.size) := HO.out.lt
    clear HBc HB3 hTT
    have hX1 := Ag.next_begin (a := ⟨L, p, tt, g, i, M, d⟩) (t := TT) (id := ri) (l := rl) HCA.out ⟨HTT.out.2.2, HTT.out.2.1⟩ HCR.out HTT.out.1
    have HN1 : Hid (Calls Try.prog 7 #[.agg #[.slice a n c, .int .i64 p, .int .i64 (tt : Int), .bool g, .int .i64 i, .slice a' m c', .bool d], .agg #[.int .i64 1, .int .i64 0, .int .i64 TT, .int .i64 0, .bool false, .int .i64 ri, .slice ra rn rc]] wc fun e w'' => agN w'' wc.heap.size (⟨L, p, TT, true, ri, rl, false⟩, 0) e ∧ Below wc.heap.size wc w'') := by
      have := agNext_any L M rl p tt i 1 0 TT 0 ri g d false _ _ _ wc (HPs.out _ HB4.out).1 (HPs.out _ HB4.out).2.1 (HPs.out _ HB4.out).2.2.1
      rw [show (⟨1, 0, TT, 0, false, ri, rl⟩ : Lk.Note) = Ag.beginR TT ri rl from rfl, hX1] at this
      exact this
    have HCb := (Ag.next_chk (a := ⟨L, p, tt, g, i, M, d⟩) (r := Ag.beginR TT ri rl) (by rw [hX1])).2.2
    rw [hX1] at HCb
    have HC0 : Hid (Ag.chkAgent ⟨L, p, TT, true, ri, rl, false⟩ = 0) := HCb
    clear hX1 HCb
    have k0 := HA.out.cell 0
    have k1 := HA.out.cell 1
    have k2 := HA.out.cell 2
    have k3 := HA.out.cell 3
    have k4 := HA.out.cell 4
    have k5 := HA.out.cell 5
    have k6 := HA.out.cell 6
    simp only [List.getElem?_toArray, List.getElem?_cons_zero, List.getElem?_cons_succ] at k0 k1 k2 k3 k4 k5 k6
    have x0 := HR.out.cell 0
    have x1 := HR.out.cell 1
    simp only [List.getElem?_toArray, List.getElem?_cons_zero, List.getElem?_cons_succ] at x0 x1
    go_wp2_with fail
    refine HN1.out.mono ?_
    rintro e w5 ⟨⟨z1, z2, rfl, hz1, hz2⟩, hb5⟩
    simp only at hz1 hz2
    obtain ⟨sa, sc, rfl⟩ := pins_slice hz1.pins
    obtain ⟨ta, tc, rfl⟩ := pins_slice hz2.pins
    simp only [agV, agC]
    generalize L.length = sn at hz1 ⊢
    generalize rl.length = tn at hz2 ⊢
    clear k0 k1 k2 k3 k4 k5 k6 x0 x1 HN1
    have hbA : Below w5.heap.size w5 (w5.alloc (.cells #[.slice sa sn sc, .int .i64 p, .int .i64 TT, .bool true, .int .i64 ri, .slice ta tn tc, .bool false] 26)) := (Below.refl _ _).alloc (Nat.le_refl _) _
    have hbX : Below wc.heap.size wc (w5.alloc (.cells #[.slice sa sn sc, .int .i64 p, .int .i64 TT, .bool true, .int .i64 ri, .slice ta tn tc, .bool false] 26)) := hb5.trans (hbA.mono hb5.size)
    have HB5 : Hid (Below w.heap.size w (w5.alloc (.cells #[.slice sa sn sc, .int .i64 p, .int .i64 TT, .bool true, .int .i64 ri, .slice ta tn tc, .bool false] 26))) := HB4.out.trans (hbX.mono HB4.out.size)
    replace HA : Hid (Blk (w5.alloc (.cells #[.slice sa sn sc, .int .i64 p, .int .i64 TT, .bool true, .int .i64 ri, .slice ta tn tc, .bool false] 26)) _ _ _) := HA.out.below hbX
    replace HR : Hid (Blk (w5.alloc (.cells #[.slice sa sn sc, .int .i64 p, .int .i64 TT, .bool true, .int .i64 ri, .slice ta tn tc, .bool false] 26)) _ _ _) := HR.out.below hbX
    replace HO : Hid (Blk (w5.alloc (.cells #[.slice sa sn sc, .int .i64 p, .int .i64 TT, .bool true, .int .i64 ri, .slice ta tn tc, .bool false] 26)) _ _ _) := HO.out.below hbX
    have HK : Hid (Blk (w5.alloc (.cells #[.slice sa sn sc, .int .i64 p, .int .i64 TT, .bool true, .int .i64 ri, .slice ta tn tc, .bool false] 26)) w5.heap.size #[.slice sa sn sc, .int .i64 p, .int .i64 TT, .bool true, .int .i64 ri, .slice ta tn tc, .bool false] 26) := blk_alloc w5 _ _
    have P1 : Hid (PinsAt (w5.alloc (.cells #[.slice sa sn sc, .int .i64 p, .int .i64 TT, .bool true, .int .i64 ri, .slice ta tn tc, .bool false] 26)) (.slice sa sn sc) L) := hz1.pins.below hbA
    have P2 : Hid (PinsAt (w5.alloc (.cells #[.slice sa sn sc, .int .i64 p, .int .i64 TT, .bool true, .int .i64 ri, .slice ta tn tc, .bool false] 26)) (.slice ta tn tc) rl) := hz2.pins.below hbA
    have HG9 : Hid (w.heap.size + 1 + 1 < w5.heap.size) := Nat.lt_of_lt_of_le HOlt.out hb5.size
    clear hbA hbX hb5 hz1 hz2 HB4
    go_upto_region 7 with fail
    generalize (w5.alloc (.cells #[.slice sa sn sc, .int .i64 p, .int .i64 TT, .bool true, .int .i64 ri, .slice ta tn tc, .bool false] 26)) = W5 at HB5 HA HR HO HK P1 P2 ⊢
    generalize w5.heap.size = g9 at HK HG9 ⊢
    have k0 := HK.out.cell 0
    have k1 := HK.out.cell 1
    have k2 := HK.out.cell 2
    have k3 := HK.out.cell 3
    have k4 := HK.out.cell 4
    have k5 := HK.out.cell 5
    have k6 := HK.out.cell 6
    simp only [List.getElem?_toArray, List.getElem?_cons_zero, List.getElem?_cons_succ] at k0 k1 k2 k3 k4 k5 k6
    have HL1 : Hid (Calls Try.prog 8 #[.agg #[.slice sa sn sc, .int .i64 p, .int .i64 TT, .bool true, .int .i64 ri, .slice ta tn tc, .bool false]] W5 fun e w'' => (∃ x, e = .returned (.tuple #[x, .int .i64 0]) ∧ OpsAt w'' x (Ag.stepsA ⟨L, p, TT, true, ri, rl, false⟩)) ∧ Below W5.heap.size W5 w'') := by
      have := agLeft_any L rl p TT ri true false _ _ W5 P1.out P2.out
      rw [left_err, HC0.out, left_good HC0.out, if_pos rfl] at this
      exact this
    go_wp2_with fail
    refine HL1.out.mono ?_
    rintro e w6 ⟨⟨x, rfl, hx⟩, hb6⟩
    obtain ⟨la, lc, rfl⟩ := ops_slice hx
    clear k0 k1 k2 k3 k4 k5 k6 HL1 hx
    have HB6 : Hid (Below w.heap.size w w6) := HB5.out.trans (hb6.mono HB5.out.size)
    replace HA : Hid (Blk w6 _ _ _) := HA.out.below hb6
    replace HR : Hid (Blk w6 _ _ _) := HR.out.below hb6
    replace HO : Hid (Blk w6 _ _ _) := HO.out.below hb6
    replace HK : Hid (Blk w6 _ _ _) := HK.out.below hb6
    replace P1 : Hid (PinsAt w6 (.slice sa sn sc) L) := P1.out.below hb6
    replace P2 : Hid (PinsAt w6 (.slice ta tn tc) rl) := P2.out.below hb6
    clear hb6 HB5
    generalize hSS : Ag.stepsA ⟨L, p, TT, true, ri, rl, false⟩ = SS
    have HS0 : Hid (Ag.stepsA ⟨L, p, TT, true, ri, rl, false⟩ = SS.drop 0) := hSS
    generalize hln : SS.length = ln
    have HLn : Hid (SS.length = ln) := hln
    have HLs : Hid (ln ≤ 42) := by
      show ln ≤ 42
      rw [← hln, ← hSS]
      exact steps_le _ _
    clear hSS hln
    have hln42 : (ln : Int) ≤ 42 := by have := HLs.out; omega
    go_wp2
    go_loopg [66] ln (fun gh s66 wr => ∃ (k : Nat) (bl : List (Int × Int)) (sa : Option Addr) (sn sc : Nat) (ta : Option Addr) (tn tc : Nat), k ≤ ln ∧ ln - k ≤ gh ∧ s66 = .int .i64 k ∧ Hid (Ag.stepsA ⟨bl, p, TT, true, ri, rl, false⟩ = SS.drop k ∧ Ag.chkAgent ⟨bl, p, TT, true, ri, rl, false⟩ = 0 ∧ Blk wr g9 #[.slice sa sn sc, .int .i64 p, .int .i64 TT, .bool true, .int .i64 ri, .slice ta tn tc, .bool false] 26 ∧ PinsAt wr (.slice sa sn sc) bl ∧ PinsAt wr (.slice ta tn tc) rl ∧ Blk wr w.heap.size #[.slice a n c, .int .i64 p, .int .i64 (tt : Int), .bool g, .int .i64 i, .slice a' m c', .bool d] 26 ∧ Blk wr (w.heap.size + 1) #[.int .i64 ri, .slice ra rn rc] 24 ∧ Blk wr (w.heap.size + 1 + 1) #[.int .i64 oi, .slice oa on oc] 24 ∧ Below w.heap.size w wr))
    case atStart => exact ⟨0, L, sa, sn, sc, ta, tn, tc, Nat.zero_le _, by omega, rfl, ⟨HS0.out, HC0.out, HK.out, P1.out, P2.out, HA.out, HR.out, HO.out, HB6.out⟩⟩
    case round =>
      clear HK P1 P2 HA HR HO HB6 HS0 HC0
      obtain ⟨k, bl, sa, sn, sc, ta, tn, tc, hk, hg, rfl, HI⟩ := hrel
      have HI8 : Hid (Below w.heap.size w wr) := HI.out.2.2.2.2.2.2.2.2
      by_cases hlt : k < ln
      · have hlt1 : (k : Int) < (ln : Int) := by omega
        have hlt2 : decide ((k : Int) < (ln : Int)) = true := decide_eq_true hlt1
        obtain ⟨o, s, hos⟩ : ∃ o s, SS.drop k = o :: s := by
          cases h : SS.drop k with
          | nil =>
            have := congrArg List.length h
            rw [List.length_drop, HLn.out] at this
            simp at this
            omega
          | cons o s => exact ⟨o, s, rfl⟩
        have hst := HI.out.1.trans hos
        have hs' : s = SS.drop (k + 1) := by
          have := congrArg List.tail hos
          simpa [List.tail_drop] using this.symm
        have hnd := Ag.next_done_no (g := false) HI.out.2.1 rfl rfl hst
        have hns := Ag.next_step HI.out.2.1 rfl rfl hst
        have hnr := Ag.step_nearer HI.out.2.1 rfl hst
        simp only at hnd hns hnr
        have HN1 : Hid (Calls Try.prog 7 #[.agg #[.slice sa sn sc, .int .i64 p, .int .i64 TT, .bool true, .int .i64 ri, .slice ta tn tc, .bool false], .agg #[.int .i64 3, .int .i64 0, .int .i64 TT, .int .i64 0, .bool false, .int .i64 0, .slice none 0 0]] wr fun e w'' => agN w'' wr.heap.size (Ag.Agent.none, 7) e ∧ Below wr.heap.size wr w'') := by
          have := agNext_any bl rl [] p TT ri 3 0 TT 0 0 true false false _ _ _ wr HI.out.2.2.2.1 HI.out.2.2.2.2.1 (pins_none _)
          rw [show (⟨3, 0, TT, 0, false, 0, []⟩ : Lk.Note) = Ag.doneR TT false from rfl, hnd] at this
          exact this
        have HNO : Hid (∀ (y : Int) w', Below wr.heap.size wr w' → Calls Try.prog 7 #[.agg #[.slice sa sn sc, .int .i64 p, .int .i64 TT, .bool true, .int .i64 ri, .slice ta tn tc, .bool false], .agg #[.int .i64 1, .int .i64 0, .int .i64 y, .int .i64 0, .bool false, .int .i64 oi, .slice oa on oc]] w' fun e w'' => agN w'' w'.heap.size (Ag.nextA ⟨bl, p, TT, true, ri, rl, false⟩ (Ag.beginR y oi ol)) e ∧ Below w'.heap.size w' w'') := fun y w' hb => agNext_any bl rl ol p TT ri 1 0 y 0 oi true false false _ _ _ w' (HI.out.2.2.2.1.below hb) (HI.out.2.2.2.2.1.below hb) (HPs.out _ (HI8.out.trans (hb.mono HI8.out.size))).2.2.2
        have HEl : Hid (∀ y : Int, y ≤ TT → ¬ (Ag.nextA ⟨bl, p, TT, true, ri, rl, false⟩ (Ag.beginR y oi ol)).2 = 0) := fun y hy => Ag.next_elder HI.out.2.1 hy
        have HNS : Hid (∀ w', Below wr.heap.size wr w' → Calls Try.prog 7 #[.agg #[.slice sa sn sc, .int .i64 p, .int .i64 TT, .bool true, .int .i64 ri, .slice ta tn tc, .bool false], .agg #[.int .i64 2, .int .i64 0, .int .i64 TT, .int .i64 0, .bool false, .int .i64 0, .slice none 0 0]] w' fun e w'' => agN w'' w'.heap.size (⟨Dk.applied bl o, p, TT, true, ri, rl, false⟩, 0) e ∧ Below w'.heap.size w' w'') := fun w' hb => by
          have := agNext_any bl rl [] p TT ri 2 0 TT 0 0 true false false _ _ _ w' (HI.out.2.2.2.1.below hb) (HI.out.2.2.2.2.1.below hb) (pins_none _)
          rw [show (⟨2, 0, TT, 0, false, 0, []⟩ : Lk.Note) = Ag.stepR TT from rfl, hns] at this
          exact this
        have HNr : Hid (Ag.chkAgent ⟨Dk.applied bl o, p, TT, true, ri, rl, false⟩ = 0 ∧ Ag.stepsA ⟨Dk.applied bl o, p, TT, true, ri, rl, false⟩ = SS.drop (k + 1)) := ⟨hnr.1, hnr.2.1.trans hs'⟩
        clear hnd hns hnr hst hos hs'
        generalize Dk.applied bl o = al at HNS HNr
        have hK := HI.out.2.2.1
        have k0 := hK.cell 0
        have k1 := hK.cell 1
        have k2 := hK.cell 2
        have k3 := hK.cell 3
        have k4 := hK.cell 4
        have k5 := hK.cell 5
        have k6 := hK.cell 6
        simp only [List.getElem?_toArray, List.getElem?_cons_zero, List.getElem?_cons_succ] at k0 k1 k2 k3 k4 k5 k6
        clear hK
        go_wp2_with fail
        refine HN1.out.mono ?_
        rintro e w7 ⟨⟨z1, z2, rfl, hz1, hz2⟩, hb7⟩
        obtain ⟨za, zc, rfl⟩ := pins_slice hz1.pins
        obtain ⟨za', zc', rfl⟩ := pins_slice hz2.pins
        simp only [agV, agC, Ag.Agent.none, List.length_nil]
        clear hz1 hz2 HN1 k0 k1 k2 k3 k4 k5 k6
        have hbY : Below wr.heap.size wr (w7.alloc (.cells #[.slice za 0 zc, .int .i64 0, .int .i64 0, .bool false, .int .i64 0, .slice za' 0 zc', .bool false] 26)) := hb7.trans (((Below.refl _ w7).alloc (Nat.le_refl _) _).mono hb7.size)
        have HBY : Hid (Below wr.heap.size wr (w7.alloc (.cells #[.slice za 0 zc, .int .i64 0, .int .i64 0, .bool false, .int .i64 0, .slice za' 0 zc', .bool false] 26))) := hbY
        clear hbY hb7
        go_upto_region 16 with fail
        generalize (w7.alloc (.cells #[.slice za 0 zc, .int .i64 0, .int .i64 0, .bool false, .int .i64 0, .slice za' 0 zc', .bool false] 26)) = W7 at HBY ⊢
        obtain ⟨TN, hTN⟩ : ∃ TN : Nat, TT = TN := ⟨TT.toNat, by have := HTT.out; omega⟩
        have HAt : Hid (∀ w', Calls Try.prog 21 #[.int .i64 (k : Int), .int .i64 TT] w' fun e w'' => (∃ j : Nat, e = .returned (.int .i64 j) ∧ j < TN) ∧ w'' = w') := fun w' => by
          rw [hTN]
          exact at_any k TN (by have := HTT.out; omega) (by have := HTT.out; omega) w'
        have HTN : Hid (TT = (TN : Int)) := hTN
        have hTN2 : TN ≤ 200 := by have := HTT.out; omega
        clear hTN
        go_cut [15, 16] from 78 to 88 (fun s15 s16 wx => ∃ NE : Int, s16 = .int .i64 NE ∧ ¬ NE = 0 ∧ Hid (Below wr.heap.size wr wx))
        case first =>
          have hKd := HI.out.2.2.1.below HBY.out
          have hOd := HI.out.2.2.2.2.2.2.2.1.below HBY.out
          have S0 : Hid (W7.drew.cell? ⟨g9, 0, none⟩ = some (.slice sa sn sc) ∧ W7.drew.cell? ⟨g9, 1, none⟩ = some (.int .i64 p) ∧ W7.drew.cell? ⟨g9, 2, none⟩ = some (.int .i64 TT) ∧ W7.drew.cell? ⟨g9, 3, none⟩ = some (.bool true) ∧ W7.drew.cell? ⟨g9, 4, none⟩ = some (.int .i64 ri) ∧ W7.drew.cell? ⟨g9, 5, none⟩ = some (.slice ta tn tc) ∧ W7.drew.cell? ⟨g9, 6, none⟩ = some (.bool false) ∧ W7.drew.cell? ⟨w.heap.size + 1 + 1, 0, none⟩ = some (.int .i64 oi) ∧ W7.drew.cell? ⟨w.heap.size + 1 + 1, 1, none⟩ = some (.slice oa on oc) ∧ Hid (Below wr.heap.size wr W7.drew)) := ⟨hKd.cell 0, hKd.cell 1, hKd.cell 2, hKd.cell 3, hKd.cell 4, hKd.cell 5, hKd.cell 6, hOd.cell 0, hOd.cell 1, HBY.out.drew⟩
          have KP : Hid (∀ x y : World, Below x.heap.size x y → (x.cell? ⟨g9, 0, none⟩ = some (.slice sa sn sc) ∧ x.cell? ⟨g9, 1, none⟩ = some (.int .i64 p) ∧ x.cell? ⟨g9, 2, none⟩ = some (.int .i64 TT) ∧ x.cell? ⟨g9, 3, none⟩ = some (.bool true) ∧ x.cell? ⟨g9, 4, none⟩ = some (.int .i64 ri) ∧ x.cell? ⟨g9, 5, none⟩ = some (.slice ta tn tc) ∧ x.cell? ⟨g9, 6, none⟩ = some (.bool false) ∧ x.cell? ⟨w.heap.size + 1 + 1, 0, none⟩ = some (.int .i64 oi) ∧ x.cell? ⟨w.heap.size + 1 + 1, 1, none⟩ = some (.slice oa on oc) ∧ Hid (Below wr.heap.size wr x)) → (y.cell? ⟨g9, 0, none⟩ = some (.slice sa sn sc) ∧ y.cell? ⟨g9, 1, none⟩ = some (.int .i64 p) ∧ y.cell? ⟨g9, 2, none⟩ = some (.int .i64 TT) ∧ y.cell? ⟨g9, 3, none⟩ = some (.bool true) ∧ y.cell? ⟨g9, 4, none⟩ = some (.int .i64 ri) ∧ y.cell? ⟨g9, 5, none⟩ = some (.slice ta tn tc) ∧ y.cell? ⟨g9, 6, none⟩ = some (.bool false) ∧ y.cell? ⟨w.heap.size + 1 + 1, 0, none⟩ = some (.int .i64 oi) ∧ y.cell? ⟨w.heap.size + 1 + 1, 1, none⟩ = some (.slice oa on oc) ∧ Hid (Below wr.heap.size wr y))) := fun x y hb h => by
            obtain ⟨h0, h1, h2, h3, h4, h5, h6, h7, h8, hB⟩ := h
            have e : ∀ b o v, x.cell? ⟨b, o, none⟩ = some v → y.cell? ⟨b, o, none⟩ = some v := fun b o v hc => (hb.cell (p := ⟨b, o, none⟩) (World.block_lt_of_cell? x _ hc)).trans hc
            exact ⟨e _ _ _ h0, e _ _ _ h1, e _ _ _ h2, e _ _ _ h3, e _ _ _ h4, e _ _ _ h5, e _ _ _ h6, e _ _ _ h7, e _ _ _ h8, hB.out.trans (hb.mono hB.out.size)⟩
          have KA : Hid (∀ (x : World) O, Below x.heap.size x (x.alloc O)) := fun x O => (Below.refl _ x).alloc (Nat.le_refl _) O
          have S7 : Hid (W7.cell? ⟨g9, 0, none⟩ = some (.slice sa sn sc) ∧ W7.cell? ⟨g9, 1, none⟩ = some (.int .i64 p) ∧ W7.cell? ⟨g9, 2, none⟩ = some (.int .i64 TT) ∧ W7.cell? ⟨g9, 3, none⟩ = some (.bool true) ∧ W7.cell? ⟨g9, 4, none⟩ = some (.int .i64 ri) ∧ W7.cell? ⟨g9, 5, none⟩ = some (.slice ta tn tc) ∧ W7.cell? ⟨g9, 6, none⟩ = some (.bool false) ∧ W7.cell? ⟨w.heap.size + 1 + 1, 0, none⟩ = some (.int .i64 oi) ∧ W7.cell? ⟨w.heap.size + 1 + 1, 1, none⟩ = some (.slice oa on oc) ∧ Hid (Below wr.heap.size wr W7)) := ⟨hKd.cell 0, hKd.cell 1, hKd.cell 2, hKd.cell 3, hKd.cell 4, hKd.cell 5, hKd.cell 6, hOd.cell 0, hOd.cell 1, HBY.out⟩
          have KD : Hid (∀ O, Below W7.heap.size W7 (W7.alloc O).drew) := fun O => ((Below.refl _ W7).alloc (Nat.le_refl _) O).drew
          have KB : Hid (∀ (x : World) O v0 v1 v2 v3 v4 v5 v6, Below x.heap.size x ((((((((x.alloc O).setCell ⟨x.heap.size, 0, none⟩ v0).setCell ⟨x.heap.size, 1, none⟩ v1).setCell ⟨x.heap.size, 2, none⟩ v2).setCell ⟨x.heap.size, 3, none⟩ v3).setCell ⟨x.heap.size, 4, none⟩ v4).setCell ⟨x.heap.size, 5, none⟩ v5).setCell ⟨x.heap.size, 6, none⟩ v6)) := fun x O v0 v1 v2 v3 v4 v5 v6 => ((((((((Below.refl _ x).alloc (Nat.le_refl _) O).setCell (Nat.le_refl _) _).setCell (Nat.le_refl _) _).setCell (Nat.le_refl _) _).setCell (Nat.le_refl _) _).setCell (Nat.le_refl _) _).setCell (Nat.le_refl _) _).setCell (Nat.le_refl _) _
          have KT : Hid (∀ (x : World) b v0 v1 v2 v3 v4 v5 v6, (x.cell? ⟨g9, 0, none⟩ = some (.slice sa sn sc) ∧ x.cell? ⟨g9, 1, none⟩ = some (.int .i64 p) ∧ x.cell? ⟨g9, 2, none⟩ = some (.int .i64 TT) ∧ x.cell? ⟨g9, 3, none⟩ = some (.bool true) ∧ x.cell? ⟨g9, 4, none⟩ = some (.int .i64 ri) ∧ x.cell? ⟨g9, 5, none⟩ = some (.slice ta tn tc) ∧ x.cell? ⟨g9, 6, none⟩ = some (.bool false) ∧ x.cell? ⟨w.heap.size + 1 + 1, 0, none⟩ = some (.int .i64 oi) ∧ x.cell? ⟨w.heap.size + 1 + 1, 1, none⟩ = some (.slice oa on oc) ∧ Hid (Below wr.heap.size wr x)) → g9 ≠ b → w.heap.size + 1 + 1 ≠ b → wr.heap.size ≤ b → ((((((((x.setCell ⟨b, 0, none⟩ v0).setCell ⟨b, 1, none⟩ v1).setCell ⟨b, 2, none⟩ v2).setCell ⟨b, 3, none⟩ v3).setCell ⟨b, 4, none⟩ v4).setCell ⟨b, 5, none⟩ v5).setCell ⟨b, 6, none⟩ v6).cell? ⟨g9, 0, none⟩ = some (.slice sa sn sc) ∧ (((((((x.setCell ⟨b, 0, none⟩ v0).setCell ⟨b, 1, none⟩ v1).setCell ⟨b, 2, none⟩ v2).setCell ⟨b, 3, none⟩ v3).setCell ⟨b, 4, none⟩ v4).setCell ⟨b, 5, none⟩ v5).setCell ⟨b, 6, none⟩ v6).cell? ⟨g9, 1, none⟩ = some (.int .i64 p) ∧ (((((((x.setCell ⟨b, 0, none⟩ v0).setCell ⟨b, 1, none⟩ v1).setCell ⟨b, 2, none⟩ v2).setCell ⟨b, 3, none⟩ v3).setCell ⟨b, 4, none⟩ v4).setCell ⟨b, 5, none⟩ v5).setCell ⟨b, 6, none⟩ v6).cell? ⟨g9, 2, none⟩ = some (.int .i64 TT) ∧ (((((((x.setCell ⟨b, 0, none⟩ v0).setCell ⟨b, 1, none⟩ v1).setCell ⟨b, 2, none⟩ v2).setCell ⟨b, 3, none⟩ v3).setCell ⟨b, 4, none⟩ v4).setCell ⟨b, 5, none⟩ v5).setCell ⟨b, 6, none⟩ v6).cell? ⟨g9, 3, none⟩ = some (.bool true) ∧ (((((((x.setCell ⟨b, 0, none⟩ v0).setCell ⟨b, 1, none⟩ v1).setCell ⟨b, 2, none⟩ v2).setCell ⟨b, 3, none⟩ v3).setCell ⟨b, 4, none⟩ v4).setCell ⟨b, 5, none⟩ v5).setCell ⟨b, 6, none⟩ v6).cell? ⟨g9, 4, none⟩ = some (.int .i64 ri) ∧ (((((((x.setCell ⟨b, 0, none⟩ v0).setCell ⟨b, 1, none⟩ v1).setCell ⟨b, 2, none⟩ v2).setCell ⟨b, 3, none⟩ v3).setCell ⟨b, 4, none⟩ v4).setCell ⟨b, 5, none⟩ v5).setCell ⟨b, 6, none⟩ v6).cell? ⟨g9, 5, none⟩ = some (.slice ta tn tc) ∧ (((((((x.setCell ⟨b, 0, none⟩ v0).setCell ⟨b, 1, none⟩ v1).setCell ⟨b, 2, none⟩ v2).setCell ⟨b, 3, none⟩ v3).setCell ⟨b, 4, none⟩ v4).setCell ⟨b, 5, none⟩ v5).setCell ⟨b, 6, none⟩ v6).cell? ⟨g9, 6, none⟩ = some (.bool false) ∧ (((((((x.setCell ⟨b, 0, none⟩ v0).setCell ⟨b, 1, none⟩ v1).setCell ⟨b, 2, none⟩ v2).setCell ⟨b, 3, none⟩ v3).setCell ⟨b, 4, none⟩ v4).setCell ⟨b, 5, none⟩ v5).setCell ⟨b, 6, none⟩ v6).cell? ⟨w.heap.size + 1 + 1, 0, none⟩ = some (.int .i64 oi) ∧ (((((((x.setCell ⟨b, 0, none⟩ v0).setCell ⟨b, 1, none⟩ v1).setCell ⟨b, 2, none⟩ v2).setCell ⟨b, 3, none⟩ v3).setCell ⟨b, 4, none⟩ v4).setCell ⟨b, 5, none⟩ v5).setCell ⟨b, 6, none⟩ v6).cell? ⟨w.heap.size + 1 + 1, 1, none⟩ = some (.slice oa on oc) ∧ Hid (Below wr.heap.size wr (((((((x.setCell ⟨b, 0, none⟩ v0).setCell ⟨b, 1, none⟩ v1).setCell ⟨b, 2, none⟩ v2).setCell ⟨b, 3, none⟩ v3).setCell ⟨b, 4, none⟩ v4).setCell ⟨b, 5, none⟩ v5).setCell ⟨b, 6, none⟩ v6)))) := fun x b v0 v1 v2 v3 v4 v5 v6 h hg ho hl => by
            obtain ⟨h0, h1, h2, h3, h4, h5, h6, h7, h8, hB⟩ := h
            exact ⟨(set7_far x b _ _ _ _ _ _ _ _ _ hg).trans h0, (set7_far x b _ _ _ _ _ _ _ _ _ hg).trans h1, (set7_far x b _ _ _ _ _ _ _ _ _ hg).trans h2, (set7_far x b _ _ _ _ _ _ _ _ _ hg).trans h3, (set7_far x b _ _ _ _ _ _ _ _ _ hg).trans h4, (set7_far x b _ _ _ _ _ _ _ _ _ hg).trans h5, (set7_far x b _ _ _ _ _ _ _ _ _ hg).trans h6, (set7_far x b _ _ _ _ _ _ _ _ _ ho).trans h7, (set7_far x b _ _ _ _ _ _ _ _ _ ho).trans h8, ((((((hB.out.setCell hl _).setCell hl _).setCell hl _).setCell hl _).setCell hl _).setCell hl _).setCell hl _⟩
          have SQ : Hid (∀ x : World, (x.cell? ⟨g9, 0, none⟩ = some (.slice sa sn sc) ∧ x.cell? ⟨g9, 1, none⟩ = some (.int .i64 p) ∧ x.cell? ⟨g9, 2, none⟩ = some (.int .i64 TT) ∧ x.cell? ⟨g9, 3, none⟩ = some (.bool true) ∧ x.cell? ⟨g9, 4, none⟩ = some (.int .i64 ri) ∧ x.cell? ⟨g9, 5, none⟩ = some (.slice ta tn tc) ∧ x.cell? ⟨g9, 6, none⟩ = some (.bool false) ∧ x.cell? ⟨w.heap.size + 1 + 1, 0, none⟩ = some (.int .i64 oi) ∧ x.cell? ⟨w.heap.size + 1 + 1, 1, none⟩ = some (.slice oa on oc) ∧ Hid (Below wr.heap.size wr x)) → Below wr.heap.size wr x) := fun x h => h.2.2.2.2.2.2.2.2.2.out
          have hl1 : w.heap.size + 1 + 1 < W7.heap.size := hOd.lt
          have hl2 : g9 < W7.heap.size := hKd.lt
          have hl3 : ¬ w.heap.size + 1 + 1 = W7.heap.size := by omega
          have hl4 : ¬ g9 = W7.heap.size := by omega
          have hl5 : wr.heap.size ≤ W7.heap.size := HBY.out.size
          have HZA : Hid (Blk (W7.alloc (.cells #[.slice none 0 0, .int .i64 0, .int .i64 0, .bool false, .int .i64 0, .slice none 0 0, .bool false] 26)).drew W7.heap.size #[.slice none 0 0, .int .i64 0, .int .i64 0, .bool false, .int .i64 0, .slice none 0 0, .bool false] 26) := blk_alloc W7 _ _
          clear hKd hOd
          go_wp2_with fail
          go_region_held3 (fun w' => w'.cell? ⟨g9, 0, none⟩ = some (.slice sa sn sc) ∧ w'.cell? ⟨g9, 1, none⟩ = some (.int .i64 p) ∧ w'.cell? ⟨g9, 2, none⟩ = some (.int .i64 TT) ∧ w'.cell? ⟨g9, 3, none⟩ = some (.bool true) ∧ w'.cell? ⟨g9, 4, none⟩ = some (.int .i64 ri) ∧ w'.cell? ⟨g9, 5, none⟩ = some (.slice ta tn tc) ∧ w'.cell? ⟨g9, 6, none⟩ = some (.bool false) ∧ w'.cell? ⟨w.heap.size + 1 + 1, 0, none⟩ = some (.int .i64 oi) ∧ w'.cell? ⟨w.heap.size + 1 + 1, 1, none⟩ = some (.slice oa on oc) ∧ Hid (Below wr.heap.size wr w')) (first | with_reducible exact KT.out _ _ _ _ _ _ _ _ _ HSy.out hl4 hl3 hl5 | with_reducible exact KP.out _ _ (by assumption) (by assumption) | with_reducible exact S0.out | with_reducible exact KP.out _ _ (KA.out _ _) (by assumption) | with_reducible exact KP.out _ _ (KD.out _) S7.out | with_reducible exact KP.out _ _ (KA.out _ _) HSy.out)
            (first
              | (go_at_call 21; refine (HAt.out _).mono ?_; rintro e y ⟨⟨j2, rfl, hj2⟩, hw8⟩; subst hw8; have hjr : (j2 : Int) < 200 := by omega)
              | (go_at_call 7; refine (HNO.out _ _ (SQ.out _ (by assumption))).mono ?_; rintro e y ⟨⟨z1, z2, rfl, hz1, hz2⟩, hby⟩; obtain ⟨ya, yc, rfl⟩ := pins_slice hz1.pins; obtain ⟨ya', yc', rfl⟩ := pins_slice hz2.pins; simp only [agV, agC]; have HSy : Hid (y.cell? ⟨g9, 0, none⟩ = some (.slice sa sn sc) ∧ y.cell? ⟨g9, 1, none⟩ = some (.int .i64 p) ∧ y.cell? ⟨g9, 2, none⟩ = some (.int .i64 TT) ∧ y.cell? ⟨g9, 3, none⟩ = some (.bool true) ∧ y.cell? ⟨g9, 4, none⟩ = some (.int .i64 ri) ∧ y.cell? ⟨g9, 5, none⟩ = some (.slice ta tn tc) ∧ y.cell? ⟨g9, 6, none⟩ = some (.bool false) ∧ y.cell? ⟨w.heap.size + 1 + 1, 0, none⟩ = some (.int .i64 oi) ∧ y.cell? ⟨w.heap.size + 1 + 1, 1, none⟩ = some (.slice oa on oc) ∧ Hid (Below wr.heap.size wr y)) := KP.out _ _ hby (by assumption); try (have hz8 : Blk y W7.heap.size #[.slice none 0 0, .int .i64 0, .int .i64 0, .bool false, .int .i64 0, .slice none 0 0, .bool false] 26 := (by with_reducible exact Blk.below HZA.out hby); have HZ8 : Hid True := trivial; have d0 := hz8.cell 0; have df0 := hz8.free 0; have d1 := hz8.cell 1; have df1 := hz8.free 1; have d2 := hz8.cell 2; have df2 := hz8.free 2; have d3 := hz8.cell 3; have df3 := hz8.free 3; have d4 := hz8.cell 4; have df4 := hz8.free 4; have d5 := hz8.cell 5; have df5 := hz8.free 5; have d6 := hz8.cell 6; have df6 := hz8.free 6; simp only [List.getElem?_toArray, List.getElem?_cons_zero, List.getElem?_cons_succ] at d0 d1 d2 d3 d4 d5 d6; clear hz8); clear hz1 hz2))
          all_goals
            have HBx : Hid (Below wr.heap.size wr y) := HSy.out.2.2.2.2.2.2.2.2.2
            go_wp2_with fail
            go_meet
            refine ⟨_, rfl, HEl.out _ (by have := HTN.out; simp only [IntKind.wrap_i64]; omega), ?_⟩
            first
              | (have hZ := HZ8; clear hZ; exact ((((((HBx.out.setCell hl5 _).setCell hl5 _).setCell hl5 _).setCell hl5 _).setCell hl5 _).setCell hl5 _).setCell hl5 _)
              | exact HBx.out.alloc HBx.out.size _
        case rest =>
          obtain ⟨NE, rfl, hNE, HBx⟩ := hcut
          have hNEb : (NE == 0) = false := by simpa using hNE
          clear hNE HNO HEl HAt HTN hTN2 HBY
          have hK := HI.out.2.2.1.below HBx.out
          have k0 := hK.cell 0
          have k1 := hK.cell 1
          have k2 := hK.cell 2
          have k3 := hK.cell 3
          have k4 := hK.cell 4
          have k5 := hK.cell 5
          have k6 := hK.cell 6
          simp only [List.getElem?_toArray, List.getElem?_cons_zero, List.getElem?_cons_succ] at k0 k1 k2 k3 k4 k5 k6
          clear hK
          go_wp2_with fail
          refine (HNS.out _ HBx.out).mono ?_
          rintro e w8 ⟨⟨z1, z2, rfl, hz1, hz2⟩, hb8⟩
          simp only at hz1 hz2
          obtain ⟨ua, uc, rfl⟩ := pins_slice hz1.pins
          obtain ⟨va, vc, rfl⟩ := pins_slice hz2.pins
          simp only [agV, agC]
          generalize al.length = un at hz1 ⊢
          generalize rl.length = vn at hz2 ⊢
          have hb9 : Below wr.heap.size wr w8 := HBx.out.trans (hb8.mono HBx.out.size)
          have hk8 := HI.out.2.2.1.below hb9
          have HK8 : Hid (Blk w8 g9 #[.slice sa sn sc, .int .i64 p, .int .i64 TT, .bool true, .int .i64 ri, .slice ta tn tc, .bool false] 26) := hk8
          have HA8 : Hid (Blk w8 w.heap.size #[.slice a n c, .int .i64 p, .int .i64 (tt : Int), .bool g, .int .i64 i, .slice a' m c', .bool d] 26) := HI.out.2.2.2.2.2.1.below hb9
          have HR8 : Hid (Blk w8 (w.heap.size + 1) #[.int .i64 ri, .slice ra rn rc] 24) := HI.out.2.2.2.2.2.2.1.below hb9
          have HO8 : Hid (Blk w8 (w.heap.size + 1 + 1) #[.int .i64 oi, .slice oa on oc] 24) := HI.out.2.2.2.2.2.2.2.1.below hb9
          have HB8 : Hid (Below w.heap.size w w8) := HI8.out.trans (hb9.mono HI8.out.size)
          have HL3 : Hid (g9 < wc.heap.size) := (HI.out.2.2.1.below HBx.out).lt
          have HY1 : Hid (PinsNew w8 wc.heap.size (.slice ua un uc) al) := hz1
          have HY2 : Hid (PinsNew w8 wc.heap.size (.slice va vn vc) rl) := hz2
          clear hz1 hz2 hb8 hb9 HBx HNS k0 k1 k2 k3 k4 k5 k6 HI HI8
          have k0 := hk8.cell 0
          have k1 := hk8.cell 1
          have k2 := hk8.cell 2
          have k3 := hk8.cell 3
          have k4 := hk8.cell 4
          have k5 := hk8.cell 5
          have k6 := hk8.cell 6
          simp only [List.getElem?_toArray, List.getElem?_cons_zero, List.getElem?_cons_succ] at k0 k1 k2 k3 k4 k5 k6
          have kf0 := hk8.free 0
          have kf1 := hk8.free 1
          have kf2 := hk8.free 2
          have kf3 := hk8.free 3
          have kf4 := hk8.free 4
          have kf5 := hk8.free 5
          have kf6 := hk8.free 6
          clear hk8
          have hz0 : g9 ≠ w.heap.size := by have := HG9.out; omega
          have hz1 : g9 ≠ w.heap.size + 1 := by have := HG9.out; omega
          have hz2 : g9 ≠ w.heap.size + 1 + 1 := by have := HG9.out; omega
          have hw9 : w.heap.size ≤ g9 := by have := HG9.out; omega
          have HX : Hid (Blk (((((((w8.setCell ⟨g9, 0, none⟩ (.slice ua un uc)).setCell ⟨g9, 1, none⟩ (.int .i64 p)).setCell ⟨g9, 2, none⟩ (.int .i64 TT)).setCell ⟨g9, 3, none⟩ (.bool true)).setCell ⟨g9, 4, none⟩ (.int .i64 ri)).setCell ⟨g9, 5, none⟩ (.slice va vn vc)).setCell ⟨g9, 6, none⟩ (.bool false)) g9 #[.slice ua un uc, .int .i64 p, .int .i64 TT, .bool true, .int .i64 ri, .slice va vn vc, .bool false] 26 ∧ PinsAt (((((((w8.setCell ⟨g9, 0, none⟩ (.slice ua un uc)).setCell ⟨g9, 1, none⟩ (.int .i64 p)).setCell ⟨g9, 2, none⟩ (.int .i64 TT)).setCell ⟨g9, 3, none⟩ (.bool true)).setCell ⟨g9, 4, none⟩ (.int .i64 ri)).setCell ⟨g9, 5, none⟩ (.slice va vn vc)).setCell ⟨g9, 6, none⟩ (.bool false)) (.slice ua un uc) al ∧ PinsAt (((((((w8.setCell ⟨g9, 0, none⟩ (.slice ua un uc)).setCell ⟨g9, 1, none⟩ (.int .i64 p)).setCell ⟨g9, 2, none⟩ (.int .i64 TT)).setCell ⟨g9, 3, none⟩ (.bool true)).setCell ⟨g9, 4, none⟩ (.int .i64 ri)).setCell ⟨g9, 5, none⟩ (.slice va vn vc)).setCell ⟨g9, 6, none⟩ (.bool false)) (.slice va vn vc) rl ∧ Blk (((((((w8.setCell ⟨g9, 0, none⟩ (.slice ua un uc)).setCell ⟨g9, 1, none⟩ (.int .i64 p)).setCell ⟨g9, 2, none⟩ (.int .i64 TT)).setCell ⟨g9, 3, none⟩ (.bool true)).setCell ⟨g9, 4, none⟩ (.int .i64 ri)).setCell ⟨g9, 5, none⟩ (.slice va vn vc)).setCell ⟨g9, 6, none⟩ (.bool false)) w.heap.size #[.slice a n c, .int .i64 p, .int .i64 (tt : Int), .bool g, .int .i64 i, .slice a' m c', .bool d] 26 ∧ Blk (((((((w8.setCell ⟨g9, 0, none⟩ (.slice ua un uc)).setCell ⟨g9, 1, none⟩ (.int .i64 p)).setCell ⟨g9, 2, none⟩ (.int .i64 TT)).setCell ⟨g9, 3, none⟩ (.bool true)).setCell ⟨g9, 4, none⟩ (.int .i64 ri)).setCell ⟨g9, 5, none⟩ (.slice va vn vc)).setCell ⟨g9, 6, none⟩ (.bool false)) (w.heap.size + 1) #[.int .i64 ri, .slice ra rn rc] 24 ∧ Blk (((((((w8.setCell ⟨g9, 0, none⟩ (.slice ua un uc)).setCell ⟨g9, 1, none⟩ (.int .i64 p)).setCell ⟨g9, 2, none⟩ (.int .i64 TT)).setCell ⟨g9, 3, none⟩ (.bool true)).setCell ⟨g9, 4, none⟩ (.int .i64 ri)).setCell ⟨g9, 5, none⟩ (.slice va vn vc)).setCell ⟨g9, 6, none⟩ (.bool false)) (w.heap.size + 1 + 1) #[.int .i64 oi, .slice oa on oc] 24 ∧ Below w.heap.size w (((((((w8.setCell ⟨g9, 0, none⟩ (.slice ua un uc)).setCell ⟨g9, 1, none⟩ (.int .i64 p)).setCell ⟨g9, 2, none⟩ (.int .i64 TT)).setCell ⟨g9, 3, none⟩ (.bool true)).setCell ⟨g9, 4, none⟩ (.int .i64 ri)).setCell ⟨g9, 5, none⟩ (.slice va vn vc)).setCell ⟨g9, 6, none⟩ (.bool false))) := ⟨((((((HK8.out.put 0 (.slice ua un uc)).put 1 (.int .i64 p)).put 2 (.int .i64 TT)).put 3 (.bool true)).put 4 (.int .i64 ri)).put 5 (.slice va vn vc)).put 6 (.bool false), (((((((HY1.out.set HL3.out).set HL3.out).set HL3.out).set HL3.out).set HL3.out).set HL3.out).set HL3.out).pins, (((((((HY2.out.set HL3.out).set HL3.out).set HL3.out).set HL3.out).set HL3.out).set HL3.out).set HL3.out).pins, ((((((HA8.out.off hz0).off hz0).off hz0).off hz0).off hz0).off hz0).off hz0, ((((((HR8.out.off hz1).off hz1).off hz1).off hz1).off hz1).off hz1).off hz1, ((((((HO8.out.off hz2).off hz2).off hz2).off hz2).off hz2).off hz2).off hz2, ((((((HB8.out.setCell hw9 _).setCell hw9 _).setCell hw9 _).setCell hw9 _).setCell hw9 _).setCell hw9 _).setCell hw9 _⟩
          clear hz0 hz1 hz2 hw9 HK8 HA8 HR8 HO8 HB8 HY1 HY2 HL3
          go_upto_region 20 with fail
          generalize ((((((w8.setCell ⟨g9, 0, none⟩ (.slice ua un uc)).setCell ⟨g9, 1, none⟩ (.int .i64 p)).setCell ⟨g9, 2, none⟩ (.int .i64 TT)).setCell ⟨g9, 3, none⟩ (.bool true)).setCell ⟨g9, 4, none⟩ (.int .i64 ri)).setCell ⟨g9, 5, none⟩ (.slice va vn vc)).setCell ⟨g9, 6, none⟩ (.bool false) = W9 at HX ⊢
          clear k0 k1 k2 k3 k4 k5 k6 kf0 kf1 kf2 kf3 kf4 kf5 kf6
          have HCk : Hid (Calls Try.prog 14 #[.agg #[.slice ua un uc, .int .i64 p, .int .i64 TT, .bool true, .int .i64 ri, .slice va vn vc, .bool false]] W9 fun e w'' => e = .returned (.int .i64 0) ∧ Below W9.heap.size W9 w'') := by
            have := agCheck_any al rl p TT ri true false _ _ W9 HX.out.2.1 HX.out.2.2.1
            rw [HNr.out.1] at this
            exact this
          have hK := HX.out.1
          have k0 := hK.cell 0
          have k1 := hK.cell 1
          have k2 := hK.cell 2
          have k3 := hK.cell 3
          have k4 := hK.cell 4
          have k5 := hK.cell 5
          have k6 := hK.cell 6
          simp only [List.getElem?_toArray, List.getElem?_cons_zero, List.getElem?_cons_succ] at k0 k1 k2 k3 k4 k5 k6
          clear hK
          go_wp2_with fail
          refine HCk.out.mono ?_
          rintro e w10 ⟨rfl, hb10⟩
          have hK := HX.out.1.below hb10
          have hA := HX.out.2.2.2.1.below hb10
          have HX' : Hid (Blk w10 g9 #[.slice ua un uc, .int .i64 p, .int .i64 TT, .bool true, .int .i64 ri, .slice va vn vc, .bool false] 26 ∧ PinsAt w10 (.slice ua un uc) al ∧ PinsAt w10 (.slice va vn vc) rl ∧ Blk w10 w.heap.size #[.slice a n c, .int .i64 p, .int .i64 (tt : Int), .bool g, .int .i64 i, .slice a' m c', .bool d] 26 ∧ Blk w10 (w.heap.size + 1) #[.int .i64 ri, .slice ra rn rc] 24 ∧ Blk w10 (w.heap.size + 1 + 1) #[.int .i64 oi, .slice oa on oc] 24 ∧ Below w.heap.size w w10) := ⟨HX.out.1.below hb10, HX.out.2.1.below hb10, HX.out.2.2.1.below hb10, HX.out.2.2.2.1.below hb10, HX.out.2.2.2.2.1.below hb10, HX.out.2.2.2.2.2.1.below hb10, HX.out.2.2.2.2.2.2.trans (hb10.mono HX.out.2.2.2.2.2.2.size)⟩
          clear k0 k1 k2 k3 k4 k5 k6 hb10 HX HCk
          have k0 := hK.cell 0
          have k1 := hK.cell 1
          have k2 := hK.cell 2
          have k3 := hK.cell 3
          have k4 := hK.cell 4
          have k5 := hK.cell 5
          have k6 := hK.cell 6
          simp only [List.getElem?_toArray, List.getElem?_cons_zero, List.getElem?_cons_succ] at k0 k1 k2 k3 k4 k5 k6
          have x0 := hA.cell 0
          have x1 := hA.cell 1
          have x2 := hA.cell 2
          have x3 := hA.cell 3
          have x4 := hA.cell 4
          have x5 := hA.cell 5
          have x6 := hA.cell 6
          simp only [List.getElem?_toArray, List.getElem?_cons_zero, List.getElem?_cons_succ] at x0 x1 x2 x3 x4 x5 x6
          clear hK hA
          go_wp2
          go_roundg (ln - (k + 1))
          case measure => omega
          case rel => exact ⟨k + 1, al, ua, un, uc, va, vn, vc, by omega, by omega, by go_num, ⟨HNr.out.2, HNr.out.1, HX'.out⟩⟩
      · have hk' : k = ln := by omega
        have hlt1 : ¬ (k : Int) < (ln : Int) := by omega
        have hlt2 : decide ((k : Int) < (ln : Int)) = false := decide_eq_false hlt1
        have hlt3 : (ln : Int) ≤ (k : Int) := by omega
        have hst : Ag.stepsA ⟨bl, p, TT, true, ri, rl, false⟩ = [] := HI.out.1.trans (List.drop_of_length_le (by have := HLn.out; omega))
        have hns := Ag.next_step_no HI.out.2.1 rfl rfl hst
        have hnd := Ag.next_done (g := true) HI.out.2.1 rfl rfl hst
        have hth := Ag.there HI.out.2.1 rfl hst
        simp only at hns hnd hth
        obtain ⟨hth1, hth2⟩ := hth
        subst hth1
        have HN1 : Hid (Calls Try.prog 7 #[.agg #[.slice sa sn sc, .int .i64 p, .int .i64 TT, .bool true, .int .i64 ri, .slice ta tn tc, .bool false], .agg #[.int .i64 2, .int .i64 0, .int .i64 TT, .int .i64 0, .bool false, .int .i64 0, .slice none 0 0]] wr fun e w'' => agN w'' wr.heap.size (Ag.Agent.none, 7) e ∧ Below wr.heap.size wr w'') := by
          have := agNext_any bl bl [] p TT ri 2 0 TT 0 0 true false false _ _ _ wr HI.out.2.2.2.1 HI.out.2.2.2.2.1 (pins_none _)
          rw [show (⟨2, 0, TT, 0, false, 0, []⟩ : Lk.Note) = Ag.stepR TT from rfl, hns] at this
          exact this
        have HN2 : Hid (∀ w', Below wr.heap.size wr w' → Calls Try.prog 7 #[.agg #[.slice sa sn sc, .int .i64 p, .int .i64 TT, .bool true, .int .i64 ri, .slice ta tn tc, .bool false], .agg #[.int .i64 3, .int .i64 0, .int .i64 TT, .int .i64 0, .bool true, .int .i64 0, .slice none 0 0]] w' fun e w'' => agN w'' w'.heap.size (⟨bl, ri, TT, false, 0, [], true⟩, 0) e ∧ Below w'.heap.size w' w'') := fun w' hb => by
          have := agNext_any bl bl [] p TT ri 3 0 TT 0 0 true false true _ _ _ w' (HI.out.2.2.2.1.below hb) (HI.out.2.2.2.2.1.below hb) (pins_none _)
          rw [show (⟨3, 0, TT, 0, true, 0, []⟩ : Lk.Note) = Ag.doneR TT true from rfl, hnd] at this
          exact this
        have HCc : Hid (Ag.chkAgent ⟨bl, ri, TT, false, 0, [], true⟩ = 0) := hth2 true
        clear hns hnd hth2 hst hlt hlt1 hk'
        have hK := HI.out.2.2.1
        have k0 := hK.cell 0
        have k1 := hK.cell 1
        have k2 := hK.cell 2
        have k3 := hK.cell 3
        have k4 := hK.cell 4
        have k5 := hK.cell 5
        have k6 := hK.cell 6
        simp only [List.getElem?_toArray, List.getElem?_cons_zero, List.getElem?_cons_succ] at k0 k1 k2 k3 k4 k5 k6
        clear hK
        go_wp2_with fail
        refine HN1.out.mono ?_
        rintro e w7 ⟨⟨z1, z2, rfl, hz1, hz2⟩, hb7⟩
        obtain ⟨za, zc, rfl⟩ := pins_slice hz1.pins
        obtain ⟨za', zc', rfl⟩ := pins_slice hz2.pins
        simp only [agV, agC, Ag.Agent.none, List.length_nil]
        clear hz1 hz2 HN1 k0 k1 k2 k3 k4 k5 k6
        have hbY : Below wr.heap.size wr (w7.alloc (.cells #[.slice za 0 zc, .int .i64 0, .int .i64 0, .bool false, .int .i64 0, .slice za' 0 zc', .bool false] 26)) := hb7.trans (((Below.refl _ w7).alloc (Nat.le_refl _) _).mono hb7.size)
        have HBY : Hid (Below wr.heap.size wr (w7.alloc (.cells #[.slice za 0 zc, .int .i64 0, .int .i64 0, .bool false, .int .i64 0, .slice za' 0 zc', .bool false] 26))) := hbY
        clear hbY hb7
        go_upto_region 26 with fail
        generalize (w7.alloc (.cells #[.slice za 0 zc, .int .i64 0, .int .i64 0, .bool false, .int .i64 0, .slice za' 0 zc', .bool false] 26)) = W7 at HBY ⊢
        have hK := HI.out.2.2.1.below HBY.out
        have k0 := hK.cell 0
        have k1 := hK.cell 1
        have k2 := hK.cell 2
        have k3 := hK.cell 3
        have k4 := hK.cell 4
        have k5 := hK.cell 5
        have k6 := hK.cell 6
        simp only [List.getElem?_toArray, List.getElem?_cons_zero, List.getElem?_cons_succ] at k0 k1 k2 k3 k4 k5 k6
        clear hK
        go_wp2_with fail
        refine (HN2.out _ HBY.out).mono ?_
        rintro e w8 ⟨⟨z1, z2, rfl, hz1, hz2⟩, hb8⟩
        simp only at hz1 hz2
        obtain ⟨ua, uc, rfl⟩ := pins_slice hz1.pins
        obtain ⟨va, vc, rfl⟩ := pins_slice hz2.pins
        simp only [agV, agC, List.length_nil]
        rw [HRn.out]
        have hy1 : PinsAt w8 (.slice ua bl.length uc) bl := hz1.pins
        rw [HRn.out] at hy1
        have hy2 : PinsAt w8 (.slice va 0 vc) [] := hz2.pins
        clear hz1 hz2 HN2 k0 k1 k2 k3 k4 k5 k6
        have hbA : Below w8.heap.size w8 (w8.alloc (.cells #[.slice ua rn uc, .int .i64 ri, .int .i64 TT, .bool false, .int .i64 0, .slice va 0 vc, .bool true] 26)) := (Below.refl _ _).alloc (Nat.le_refl _) _
        have hbX : Below wr.heap.size wr (w8.alloc (.cells #[.slice ua rn uc, .int .i64 ri, .int .i64 TT, .bool false, .int .i64 0, .slice va 0 vc, .bool true] 26)) := HBY.out.trans ((hb8.trans (hbA.mono hb8.size)).mono HBY.out.size)
        have HC8 : Hid (Blk (w8.alloc (.cells #[.slice ua rn uc, .int .i64 ri, .int .i64 TT, .bool false, .int .i64 0, .slice va 0 vc, .bool true] 26)) w8.heap.size #[.slice ua rn uc, .int .i64 ri, .int .i64 TT, .bool false, .int .i64 0, .slice va 0 vc, .bool true] 26) := blk_alloc w8 _ _
        have HR8 : Hid (Blk (w8.alloc (.cells #[.slice ua rn uc, .int .i64 ri, .int .i64 TT, .bool false, .int .i64 0, .slice va 0 vc, .bool true] 26)) (w.heap.size + 1) #[.int .i64 ri, .slice ra rn rc] 24) := HI.out.2.2.2.2.2.2.1.below hbX
        have HB8 : Hid (Below w.heap.size w (w8.alloc (.cells #[.slice ua rn uc, .int .i64 ri, .int .i64 TT, .bool false, .int .i64 0, .slice va 0 vc, .bool true] 26))) := HI8.out.trans (hbX.mono HI8.out.size)
        have Q1 : Hid (PinsAt (w8.alloc (.cells #[.slice ua rn uc, .int .i64 ri, .int .i64 TT, .bool false, .int .i64 0, .slice va 0 vc, .bool true] 26)) (.slice ua rn uc) bl) := hy1.below hbA
        have Q2 : Hid (PinsAt (w8.alloc (.cells #[.slice ua rn uc, .int .i64 ri, .int .i64 TT, .bool false, .int .i64 0, .slice va 0 vc, .bool true] 26)) (.slice va 0 vc) []) := hy2.below hbA
        clear hbA hbX hb8 hy1 hy2 HBY HI HI8
        go_upto_region 27 with fail
        generalize (w8.alloc (.cells #[.slice ua rn uc, .int .i64 ri, .int .i64 TT, .bool false, .int .i64 0, .slice va 0 vc, .bool true] 26)) = W8 at HC8 HR8 HB8 Q1 Q2 ⊢
        generalize w8.heap.size = g19 at HC8 ⊢
        have HCk : Hid (Calls Try.prog 14 #[.agg #[.slice ua rn uc, .int .i64 ri, .int .i64 TT, .bool false, .int .i64 0, .slice va 0 vc, .bool true]] W8 fun e w'' => e = .returned (.int .i64 0) ∧ Below W8.heap.size W8 w'') := by
          have := agCheck_any bl [] ri TT 0 false true _ _ W8 Q1.out Q2.out
          rw [HCc.out] at this
          exact this
        have k0 := HC8.out.cell 0
        have k1 := HC8.out.cell 1
        have k2 := HC8.out.cell 2
        have k3 := HC8.out.cell 3
        have k4 := HC8.out.cell 4
        have k5 := HC8.out.cell 5
        have k6 := HC8.out.cell 6
        simp only [List.getElem?_toArray, List.getElem?_cons_zero, List.getElem?_cons_succ] at k0 k1 k2 k3 k4 k5 k6
        go_wp2_with fail
        refine HCk.out.mono ?_
        rintro e w9 ⟨rfl, hb9⟩
        have HB9 : Hid (Below w.heap.size w w9) := HB8.out.trans (hb9.mono HB8.out.size)
        have HC9 : Hid (Blk w9 _ _ _) := HC8.out.below hb9
        have HR9 : Hid (Blk w9 _ _ _) := HR8.out.below hb9
        have HEq : Hid (Calls Try.prog 22 #[.slice ua rn uc, .slice ra rn rc] w9 fun e w'' => e = .returned (.bool true) ∧ Below w9.heap.size w9 w'') := by
          have := equal_any _ _ bl bl w9 (Q1.out.below hb9) (HPs.out _ HB9.out).2.2.1
          rw [show Lk.same bl bl = true by simp [Lk.same]] at this
          exact this
        clear k0 k1 k2 k3 k4 k5 k6 hb9 HB8 HC8 HR8 HCk Q1 Q2
        have k0 := HC9.out.cell 0
        have k1 := HC9.out.cell 1
        have k2 := HC9.out.cell 2
        have k3 := HC9.out.cell 3
        have k4 := HC9.out.cell 4
        have k5 := HC9.out.cell 5
        have k6 := HC9.out.cell 6
        simp only [List.getElem?_toArray, List.getElem?_cons_zero, List.getElem?_cons_succ] at k0 k1 k2 k3 k4 k5 k6
        have x0 := HR9.out.cell 0
        have x1 := HR9.out.cell 1
        simp only [List.getElem?_toArray, List.getElem?_cons_zero, List.getElem?_cons_succ] at x0 x1
        go_wp2_with fail
        refine HEq.out.mono ?_
        rintro e w10 ⟨rfl, hb10⟩
        have HB10 : Hid (Below w.heap.size w w10) := HB9.out.trans (hb10.mono HB9.out.size)
        clear k0 k1 k2 k3 k4 k5 k6 x0 x1 hb10 HB9 HC9 HR9 HEq
        go_wp2
        go_ret
        exact ⟨rfl, HB10.out⟩
end Go.Proofs.Ytbnaaookeagjgaa
