/- The contract of diff.Diff. -/
import Derived.Test.YtpenkhehceglfaaGreatDoorMG
import Derived.Test.YtpenkhehceglfaaGreatDoorT4
import Derived.Test.YtpenkhehceglfaaGreatDoorFlatO
import Derived.Test.YtpenkhehceglfaaGreatDoorMH
namespace Go.Proofs.YtpenkhehceglfaaGreatDoor
open Go.RowKit
set_option maxHeartbeats 2000000 in
theorem diff_bad (v u : Value) (a b : List (Int × Int)) (w : World) (hP : PinsAt w v a) (hQ : PinsAt w u b) (he : Dk.diffErr a b ≠ 0) :
    Calls Tryz.prog 45 #[v, u] w fun e w' => e = .returned (.tuple #[.slice none 0 0, .int .i64 (Dk.diffErr a b)]) ∧ Below w.heap.size w w' := by
  have HE : Hid (orr [Lk.chk a, Lk.chk b] = Dk.diffErr a b) := orr2 _ _
  have HQ : Hid (PinsAt w u b) := hQ
  have he' : (Dk.diffErr a b != 0) = true := by simpa using he
  clear he hQ
  go_enter Tryz.func45, Tryz.ntmps45
  go_wp2_with fail
  refine (of_any _ _ _ hP).mono ?_
  rintro e w1 ⟨rfl, hb1⟩
  have HB1 : Hid (Below w.heap.size w (w1.alloc (.cells (tcells (ofTab a)) 110))) := hb1.alloc hb1.size _
  clear hb1
  go_wp2_with (guard_target = wpList _ _ _ (Oper.mk _ (Op.store 110 (.tmp 6) _) _ _ _ _ :: _) _ _; refine stNV rfl (.tmp 6) (.tmp 19) rfl (by rfl) (ofTab a) (by rfl) (ofTab_len a) ?_)
  refine (of_any _ _ _ (HQ.out.below HB1.out)).mono ?_
  rintro e w2 ⟨rfl, hb2⟩
  have HB2 : Hid (Below w.heap.size w w2) := HB1.out.trans (hb2.mono HB1.out.size)
  have HB3 : Hid (Below w.heap.size w (w2.alloc (.cells (tcells (ofTab b)) 110))) := HB2.out.alloc HB2.out.size _
  clear hb2 HB1
  go_wp2_with (guard_target = wpList _ _ _ (Oper.mk _ (Op.store 110 (.tmp 8) _) _ _ _ _ :: _) _ _; refine stNV rfl (.tmp 8) (.tmp 24) rfl (by rfl) (ofTab b) (by rfl) (ofTab_len b) ?_)
  have HSZ : Hid (w2.heap.size + 1 = (w2.alloc (.cells (tcells (ofTab b)) 110)).heap.size) := (World.size_alloc _ _).symm
  generalize w2.alloc (.cells (tcells (ofTab b)) 110) = w3 at HB3 HSZ
  refine (or_any _ _ [Lk.chk a, Lk.chk b] _ (by simp) (cells2_at _ _ _ _ _ HSZ.out)).mono ?_
  rintro e w4 ⟨rfl, hb4⟩
  rw [HE.out]
  have HB4 : Hid (Below w.heap.size w w4) := (HB3.out.alloc HB3.out.size _).trans (hb4.mono (by simp only [World.size_alloc]; have := HB3.out.size; omega))
  clear hb4
  go_wp2
  go_ret2
  exact ⟨rfl, HB4.out⟩
theorem fm_take {β : Type} (f : (Int × Int) → Option β) (l : List (Int × Int)) (k : Nat) (p : Int × Int) (h : l.drop k = p :: l.drop (k + 1)) : (l.take (k + 1)).filterMap f = (l.take k).filterMap f ++ (f p).toList := by
  have e : l[k]? = some p := by
    have : (l.drop k)[0]? = some p := by rw [h]; rfl
    simpa using this
  rw [List.take_add_one, e, List.filterMap_append]
  cases h : f p <;> simp [h]
set_option maxHeartbeats 4000000 in
theorem diff_good (v u : Value) (a b : List (Int × Int)) (w : World) (hP : PinsAt w v a) (hQ : PinsAt w u b) (ha : Lk.chk a = 0) (hb : Lk.chk b = 0) :
    Calls Tryz.prog 45 #[v, u] w fun e w' => (∃ x, e = .returned (.tuple #[x, .int .i64 0]) ∧ OpsAt w' x (Dk.steps (Dk.tb a) (Dk.tb b))) ∧ Below w.heap.size w w' := by
  obtain ⟨i0, hi, hz0, hz1, hz2⟩ := info_parts Tryz.info70
  have HE : Hid (orr [(0 : Int), 0] = 0) := rfl
  obtain ⟨A, ba, oa, ca, rfl, _, hAa, hAc⟩ := hP.open
  obtain ⟨B, bb, ob, cb, rfl, _, hBa, hBc⟩ := hQ.open
  have HP : Hid (PinsAt w (.slice A a.length ca) a) := hP
  have HQ : Hid (PinsAt w (.slice B b.length cb) b) := hQ
  have HAa : Hid (0 < a.length → A = some ⟨ba, oa, none⟩ ∧ ba < w.heap.size) := hAa
  have HBa : Hid (0 < b.length → B = some ⟨bb, ob, none⟩ ∧ bb < w.heap.size) := hBa
  have HAc : Hid (∀ j, j < a.length → w.cell? ⟨ba, oa + j * 2, none⟩ = some (.int .i64 (a.getD j (0, 0)).1) ∧ w.cell? ⟨ba, oa + j * 2 + 1, none⟩ = some (.int .i64 (a.getD j (0, 0)).2)) := hAc
  have HBc : Hid (∀ j, j < b.length → w.cell? ⟨bb, ob + j * 2, none⟩ = some (.int .i64 (b.getD j (0, 0)).1) ∧ w.cell? ⟨bb, ob + j * 2 + 1, none⟩ = some (.int .i64 (b.getD j (0, 0)).2)) := hBc
  clear hAa hBa hAc hBc
  have HA : Hid (Lk.chk a = 0) := ha
  have HB : Hid (Lk.chk b = 0) := hb
  have hla : a.length ≤ 12 := (Dk.chk_srt ha).1
  have hlb : b.length ≤ 12 := (Dk.chk_srt hb).1
  clear ha hb hP hQ
  go_enter Tryz.func45, Tryz.ntmps45
  go_wp2_with fail
  refine (of_good _ _ _ HP.out HA.out).mono ?_
  rintro e w1 ⟨rfl, hb1⟩
  have HB1 : Hid (Below w.heap.size w (w1.alloc (.cells (tcells (Dk.tb a)) 110))) := hb1.alloc hb1.size _
  clear hb1
  go_wp2_with (guard_target = wpList _ _ _ (Oper.mk _ (Op.store 110 (.tmp 6) _) _ _ _ _ :: _) _ _; refine stNV rfl (.tmp 6) (.tmp 19) rfl (by rfl) (Dk.tb a) (by rfl) (Dk.tb_len a) ?_)
  refine (of_good _ _ _ (HQ.out.below HB1.out) HB.out).mono ?_
  rintro e w3 ⟨rfl, hb2⟩
  have H73 : Hid (TabAt w3 w1.heap.size 110 (Dk.tb a)) := TabAt.below (heap_alloc_last w1 _) hb2 (by simp)
  have h13 : w1.heap.size < w3.heap.size := H73.out.lt
  have HB2 : Hid (Below w.heap.size w w3) := HB1.out.trans (hb2.mono HB1.out.size)
  clear hb2 HB1
  go_wp2_with (guard_target = wpList _ _ _ (Oper.mk _ (Op.store 110 (.tmp 8) _) _ _ _ _ :: _) _ _; refine stNV rfl (.tmp 8) (.tmp 24) rfl (by rfl) (Dk.tb b) (by rfl) (Dk.tb_len b) ?_)
  have H84 : Hid (TabAt (w3.alloc (.cells (tcells (Dk.tb b)) 110)) w3.heap.size 110 (Dk.tb b)) := heap_alloc_last w3 _
  have H74 : Hid (TabAt (w3.alloc (.cells (tcells (Dk.tb b)) 110)) w1.heap.size 110 (Dk.tb a)) := H73.out.alloc _
  have HB3 : Hid (Below w.heap.size w (w3.alloc (.cells (tcells (Dk.tb b)) 110))) := HB2.out.alloc HB2.out.size _
  clear H73 HB2
  have HSZ : Hid (w3.heap.size + 1 = (w3.alloc (.cells (tcells (Dk.tb b)) 110)).heap.size) := (World.size_alloc _ _).symm
  generalize w3.alloc (.cells (tcells (Dk.tb b)) 110) = w4 at H84 H74 HB3 HSZ
  refine (or_any _ _ [(0 : Int), 0] _ (by simp) (cells2_at _ _ _ _ _ HSZ.out)).mono ?_
  rintro e w5 ⟨rfl, hb5⟩
  rw [HE.out]
  have hl4 := H84.out.lt
  have H85 : Hid (TabAt w5 w3.heap.size 110 (Dk.tb b)) := (H84.out.alloc _).below hb5 (by simp only [World.size_alloc]; omega)
  have H75 : Hid (TabAt w5 w1.heap.size 110 (Dk.tb a)) := (H74.out.alloc _).below hb5 (by simp only [World.size_alloc]; omega)
  have HB5 : Hid (Below w.heap.size w w5) := (HB3.out.alloc HB3.out.size _).trans (hb5.mono (by simp only [World.size_alloc]; have := HB3.out.size; omega))
  have h35 : w3.heap.size < w5.heap.size := H85.out.lt
  have hs5 := HB5.out.size
  clear hb5 hl4 H84 H74 HB3 HSZ
  generalize w1.heap.size = B7 at H75 h13
  generalize w3.heap.size = B8 at H85 h13 h35
  go_wp2_with fail
  go_loopg [11, 35] a.length (fun g s11 s35 wr => ∃ k : Nat, k ≤ a.length ∧ a.length - k ≤ g ∧ s35 = .int .i64 k ∧ Hid (wr.ownsRow w5.heap.size 70 3 s11 ((a.take k).filterMap (Dk.goes (Dk.tb b))).length (flatO ((a.take k).filterMap (Dk.goes (Dk.tb b))))) ∧ Hid (TabAt wr B7 110 (Dk.tb a)) ∧ Hid (TabAt wr B8 110 (Dk.tb b)) ∧ Hid (Below w.heap.size w wr) ∧ w5.heap.size ≤ wr.heap.size)
  case atStart => exact ⟨0, Nat.zero_le _, by omega, rfl, World.ownsRow_nil _ _ _ _, H75, H85, HB5, Nat.le_refl _⟩
  case round =>
    obtain ⟨k, hk, hg, rfl, HO, H7, H8, HW, hwr⟩ := hrel
    by_cases hlt : k < a.length
    · obtain ⟨rfl, hba⟩ := HAa.out (by omega)
      obtain ⟨g1, g2⟩ := HAc.out k hlt
      rw [← HW.out.cell (p := ⟨ba, _, none⟩) hba] at g1 g2
      clear HAa
      have HD : Hid (a.drop k = a.getD k (0, 0) :: a.drop (k + 1)) := drop_getD a k _ hlt rfl
      have hm := srt_get (Dk.chk_srt HA.out).2 (p := a.getD k (0, 0)) (by rw [List.getD_eq_getElem?_getD, List.getElem?_eq_getElem hlt]; exact List.getElem_mem hlt)
      generalize a.getD k (0,0) = p at g1 g2 HD hm
      obtain ⟨x, y⟩ := p
      simp only at g1 g2 hm
      obtain ⟨h1, h2, h3, h4⟩ := hm
      obtain ⟨n, rfl⟩ : ∃ n : Nat, x = n := ⟨x.toNat, by omega⟩
      have hn : n < 21 := by omega
      have c0 := H8.out.cell n (by rw [Dk.tb_len]; exact hn)
      have hs8 : B8 < wr.heap.size := by omega
      have HF := fm_take (Dk.goes (Dk.tb b)) a k _ HD.out
      have HG : Dk.goes (Dk.tb b) ((n : Int), y) = if (Dk.tb b).getD n 0 = 0 then some (2, (n : Int), 0) else none := by simp [Dk.goes]
      generalize (Dk.tb b).getD n 0 = z at c0 HG
      by_cases hz : z = 0
      · subst hz
        rw [HG, if_pos rfl] at HF
        have HF' : Hid ((a.take (k + 1)).filterMap (Dk.goes (Dk.tb b)) = (a.take k).filterMap (Dk.goes (Dk.tb b)) ++ [(2, (n : Int), 0)]) := HF
        have hll : ((a.take k).filterMap (Dk.goes (Dk.tb b))).length ≤ 12 := Nat.le_trans (List.length_filterMap_le _ _) (by simp; omega)
        clear HF HG HD
        go_wp2_with (at_builtin; refine wpList_append_own _ rfl _ _ 58 rfl w5.heap.size 70 i0 (.agg #[.int .i64 0, .int .i64 0, .int .i64 0]) 3 24 Tryz.underlying58 hi hz0 hz1 hz2 rfl (by decide) _ ((a.take k).filterMap (Dk.goes (Dk.tb b))).length (flatO ((a.take k).filterMap (Dk.goes (Dk.tb b)))) rfl ((HO.out.alloc _).alloc _) ⟨wr.heap.size + 1, 0, none⟩ 1 1 [.int .i64 2, .int .i64 n, .int .i64 0] rfl rfl ?c1 ?c2 ?c3 ?c4 ?c5 ?_)
        case c1 =>
          intro j u hj
          rcases j with _ | _ | _ | j
          · simp at hj; subst hj; simp [go_sem, Addr.add]
          · simp at hj; subst hj; simp [go_sem, Addr.add]
          · simp at hj; subst hj; simp [go_sem, Addr.add]
          · simp at hj
        case c2 =>
          intro u hu
          simp only [List.mem_cons, List.not_mem_nil, or_false] at hu
          rcases hu with rfl | rfl | rfl <;> rfl
        case c3 => unfold maxLen; omega
        case c4 => omega
        case c5 => simp; omega
        intro v' w6 hown hgrow _
        have HO3 : Hid (w6.ownsRow w5.heap.size 70 3 v' ((a.take (k + 1)).filterMap (Dk.goes (Dk.tb b))).length (flatO ((a.take (k + 1)).filterMap (Dk.goes (Dk.tb b))))) := by
          rw [HF'.out, flatO_append, List.length_append]; exact hown
        have hb6 : Below w5.heap.size wr w6 := (((Below.refl _ wr).alloc hwr _).alloc (by simp; omega) _).grown hgrow (by simp; omega) (fun q hq => (HO.out.lt q hq).1)
        clear hown hgrow HO
        go_wp2
        go_roundg (a.length - (k + 1))
        case measure => omega
        case rel => exact ⟨k + 1, by omega, by omega, by go_num, HO3, H7.out.below hb6 (by omega), H8.out.below hb6 (by omega), HW.out.trans (hb6.mono (by omega)), Nat.le_trans hwr hb6.size⟩
      · rw [HG, if_neg hz] at HF
        have HF' : Hid ((a.take (k + 1)).filterMap (Dk.goes (Dk.tb b)) = (a.take k).filterMap (Dk.goes (Dk.tb b))) := HF.trans (List.append_nil _)
        have hz' : (z == 0) = false := by simpa using hz
        have hb6 : Below w5.heap.size wr (wr.alloc (.cells #[.int .i64 n, .int .i64 y] 57)) := (Below.refl _ wr).alloc hwr _
        clear HF HG HD hz
        go_wp2
        go_roundg (a.length - (k + 1))
        case measure => omega
        case rel => exact ⟨k + 1, by omega, by omega, by go_num, by rw [HF'.out]; exact HO.out.alloc _, H7.out.below hb6 (by omega), H8.out.below hb6 (by omega), HW.out.trans (hb6.mono (by omega)), by simp; omega⟩
    · have hk' : k = a.length := by omega
      subst hk'
      rw [List.take_length] at HO
      clear hk hlt
      have HDL : Hid ((a.filterMap (Dk.goes (Dk.tb b))).length ≤ 12) := Nat.le_trans (List.length_filterMap_le _ _) hla
      have HDE : Hid (a.filterMap (Dk.goes (Dk.tb b)) = Dk.drops (Dk.tb a) (Dk.tb b) 21) := Dk.goes_all (Dk.chk_srt HA.out).2 _
      generalize a.filterMap (Dk.goes (Dk.tb b)) = D at HO HDL HDE
      go_wp2_with fail
      go_loopg [11, 53] b.length (fun g s11 s53 wr => ∃ k : Nat, k ≤ b.length ∧ b.length - k ≤ g ∧ s53 = .int .i64 k ∧ Hid (wr.ownsRow w5.heap.size 70 3 s11 (D ++ (b.take k).filterMap (Dk.comes (Dk.tb a))).length (flatO (D ++ (b.take k).filterMap (Dk.comes (Dk.tb a))))) ∧ Hid (TabAt wr B7 110 (Dk.tb a)) ∧ Hid (Below w.heap.size w wr) ∧ w5.heap.size ≤ wr.heap.size)
      case atStart => exact ⟨0, Nat.zero_le _, by omega, rfl, by rw [List.take_zero, List.filterMap_nil, List.append_nil]; exact HO, H7, HW, hwr⟩
      case round =>
        clear hg hwr H7 H8 HW HO
        obtain ⟨k, hk, hg, rfl, HO, H7, HW, hwr⟩ := hrel
        by_cases hlt : k < b.length
        · obtain ⟨rfl, hba⟩ := HBa.out (by omega)
          obtain ⟨g1, g2⟩ := HBc.out k hlt
          rw [← HW.out.cell (p := ⟨bb, _, none⟩) hba] at g1 g2
          clear HBa
          have HD : Hid (b.drop k = b.getD k (0, 0) :: b.drop (k + 1)) := drop_getD b k _ hlt rfl
          have hm := srt_get (Dk.chk_srt HB.out).2 (p := b.getD k (0, 0)) (by rw [List.getD_eq_getElem?_getD, List.getElem?_eq_getElem hlt]; exact List.getElem_mem hlt)
          generalize b.getD k (0,0) = p at g1 g2 HD hm
          obtain ⟨x, y⟩ := p
          simp only at g1 g2 hm
          obtain ⟨h1, h2, h3, h4⟩ := hm
          obtain ⟨n, rfl⟩ : ∃ n : Nat, x = n := ⟨x.toNat, by omega⟩
          have hn : n < 21 := by omega
          have c0 := H7.out.cell n (by rw [Dk.tb_len]; exact hn)
          have HF := fm_take (Dk.comes (Dk.tb a)) b k _ HD.out
          have HG : Dk.comes (Dk.tb a) ((n : Int), y) = if (Dk.tb a).getD n 0 = y then none else if (Dk.tb a).getD n 0 = 0 then some (1, (n : Int), y) else some (3, (n : Int), y) := by simp [Dk.comes]
          generalize (Dk.tb a).getD n 0 = z at c0 HG
          have hs7 : B7 < wr.heap.size := by omega
          by_cases hzy : z = y
          · rw [HG, if_pos hzy] at HF
            have HF' : Hid ((b.take (k + 1)).filterMap (Dk.comes (Dk.tb a)) = (b.take k).filterMap (Dk.comes (Dk.tb a))) := HF.trans (List.append_nil _)
            have hzy' : (z == y) = true := by simpa using hzy
            have hb6 : Below w5.heap.size wr (wr.alloc (.cells #[.int .i64 n, .int .i64 y] 57)) := (Below.refl _ wr).alloc hwr _
            clear HF HG HD hzy
            go_wp2
            go_roundg (b.length - (k + 1))
            case measure => omega
            case rel => exact ⟨k + 1, by omega, by omega, by go_num, by rw [HF'.out]; exact HO.out.alloc _, H7.out.below hb6 (by omega), HW.out.trans (hb6.mono (by omega)), by simp only [World.size_alloc]; omega⟩
          · rw [HG, if_neg hzy] at HF
            have hzy' : (z == y) = false := by simpa using hzy
            clear hzy
            by_cases hz : z = 0
            · rw [if_pos hz] at HF
              have hz' : (z == 0) = true := by simpa using hz
              clear hz
              have HF' : Hid ((b.take (k + 1)).filterMap (Dk.comes (Dk.tb a)) = (b.take k).filterMap (Dk.comes (Dk.tb a)) ++ [(1, (n : Int), y)]) := HF
              have hll : (D ++ (b.take k).filterMap (Dk.comes (Dk.tb a))).length ≤ 24 := by
                rw [List.length_append]
                have h1 := HDL.out
                have h2 : ((b.take k).filterMap (Dk.comes (Dk.tb a))).length ≤ 12 := Nat.le_trans (List.length_filterMap_le _ _) (by simp; omega)
                omega
              clear HF HG HD
              go_wp2_with (at_builtin; refine wpList_append_own _ rfl _ _ 58 rfl w5.heap.size 70 i0 (.agg #[.int .i64 0, .int .i64 0, .int .i64 0]) 3 24 Tryz.underlying58 hi hz0 hz1 hz2 rfl (by decide) _ (D ++ (b.take k).filterMap (Dk.comes (Dk.tb a))).length (flatO (D ++ (b.take k).filterMap (Dk.comes (Dk.tb a)))) rfl ((HO.out.alloc _).alloc _) ⟨wr.heap.size + 1, 0, none⟩ 1 1 [.int .i64 1, .int .i64 n, .int .i64 y] rfl rfl ?c1 ?c2 ?c3 ?c4 ?c5 ?_)
              case c1 =>
                intro j u hj
                rcases j with _ | _ | _ | j
                · simp at hj; subst hj; simp [go_sem, Addr.add]
                · simp at hj; subst hj; simp [go_sem, Addr.add]
                · simp at hj; subst hj; simp [go_sem, Addr.add]
                · simp at hj
              case c2 =>
                intro u hu
                simp only [List.mem_cons, List.not_mem_nil, or_false] at hu
                rcases hu with rfl | rfl | rfl <;> rfl
              case c3 => unfold maxLen; omega
              case c4 => omega
              case c5 => simp only [World.size_alloc]; omega
              intro v' w6 hown hgrow _
              have HO3 : Hid (w6.ownsRow w5.heap.size 70 3 v' (D ++ (b.take (k + 1)).filterMap (Dk.comes (Dk.tb a))).length (flatO (D ++ (b.take (k + 1)).filterMap (Dk.comes (Dk.tb a))))) := by
                rw [HF'.out, ← List.append_assoc, flatO_append, List.length_append, List.length_append]; exact hown
              have hb6 : Below w5.heap.size wr w6 := (((Below.refl _ wr).alloc hwr _).alloc (by simp only [World.size_alloc]; omega) _).grown hgrow (by simp only [World.size_alloc]; omega) (fun q hq => (HO.out.lt q hq).1)
              clear hown hgrow HO
              go_wp2
              go_roundg (b.length - (k + 1))
              case measure => omega
              case rel => exact ⟨k + 1, by omega, by omega, by go_num, HO3, H7.out.below hb6 (by omega), HW.out.trans (hb6.mono (by omega)), Nat.le_trans hwr hb6.size⟩
            · rw [if_neg hz] at HF
              have hz' : (z == 0) = false := by simpa using hz
              clear hz
              have HF' : Hid ((b.take (k + 1)).filterMap (Dk.comes (Dk.tb a)) = (b.take k).filterMap (Dk.comes (Dk.tb a)) ++ [(3, (n : Int), y)]) := HF
              have hll : (D ++ (b.take k).filterMap (Dk.comes (Dk.tb a))).length ≤ 24 := by
                rw [List.length_append]
                have h1 := HDL.out
                have h2 : ((b.take k).filterMap (Dk.comes (Dk.tb a))).length ≤ 12 := Nat.le_trans (List.length_filterMap_le _ _) (by simp; omega)
                omega
              clear HF HG HD
              go_wp2_with (at_builtin; refine wpList_append_own _ rfl _ _ 58 rfl w5.heap.size 70 i0 (.agg #[.int .i64 0, .int .i64 0, .int .i64 0]) 3 24 Tryz.underlying58 hi hz0 hz1 hz2 rfl (by decide) _ (D ++ (b.take k).filterMap (Dk.comes (Dk.tb a))).length (flatO (D ++ (b.take k).filterMap (Dk.comes (Dk.tb a)))) rfl ((HO.out.alloc _).alloc _) ⟨wr.heap.size + 1, 0, none⟩ 1 1 [.int .i64 3, .int .i64 n, .int .i64 y] rfl rfl ?c1 ?c2 ?c3 ?c4 ?c5 ?_)
              case c1 =>
                intro j u hj
                rcases j with _ | _ | _ | j
                · simp at hj; subst hj; simp [go_sem, Addr.add]
                · simp at hj; subst hj; simp [go_sem, Addr.add]
                · simp at hj; subst hj; simp [go_sem, Addr.add]
                · simp at hj
              case c2 =>
                intro u hu
                simp only [List.mem_cons, List.not_mem_nil, or_false] at hu
                rcases hu with rfl | rfl | rfl <;> rfl
              case c3 => unfold maxLen; omega
              case c4 => omega
              case c5 => simp only [World.size_alloc]; omega
              intro v' w6 hown hgrow _
              have HO3 : Hid (w6.ownsRow w5.heap.size 70 3 v' (D ++ (b.take (k + 1)).filterMap (Dk.comes (Dk.tb a))).length (flatO (D ++ (b.take (k + 1)).filterMap (Dk.comes (Dk.tb a))))) := by
                rw [HF'.out, ← List.append_assoc, flatO_append, List.length_append, List.length_append]; exact hown
              have hb6 : Below w5.heap.size wr w6 := (((Below.refl _ wr).alloc hwr _).alloc (by simp only [World.size_alloc]; omega) _).grown hgrow (by simp only [World.size_alloc]; omega) (fun q hq => (HO.out.lt q hq).1)
              clear hown hgrow HO
              go_wp2
              go_roundg (b.length - (k + 1))
              case measure => omega
              case rel => exact ⟨k + 1, by omega, by omega, by go_num, HO3, H7.out.below hb6 (by omega), HW.out.trans (hb6.mono (by omega)), Nat.le_trans hwr hb6.size⟩
        · have hk' : k = b.length := by omega
          subst hk'
          rw [List.take_length, HDE.out, Dk.comes_all (Dk.chk_srt HB.out).2 _] at HO
          have HPA : Hid (OpsAt wr u11 (Dk.steps (Dk.tb a) (Dk.tb b))) := ops_of_owns HO.out (by
            rw [Dk.steps, List.length_append]
            have h1 := Dk.fm_len (Dk.dropAt (Dk.tb a) (Dk.tb b)) 21
            have h2 := Dk.fm_len (Dk.restAt (Dk.tb a) (Dk.tb b)) 21
            unfold Dk.drops Dk.rests
            omega)
          clear hk hlt HO
          go_wp2
          go_ret2
          exact ⟨⟨_, rfl, HPA.out⟩, HW.out⟩
theorem diff_any (v u : Value) (a b : List (Int × Int)) (w : World) (hP : PinsAt w v a) (hQ : PinsAt w u b) :
    Calls Tryz.prog 45 #[v, u] w fun e w' => (∃ x, e = .returned (.tuple #[x, .int .i64 (Dk.diffErr a b)]) ∧ OpsAt w' x (Dk.diffed a b)) ∧ Below w.heap.size w w' := by
  by_cases h : Dk.diffErr a b = 0
  · have ha : Lk.chk a = 0 := by
      unfold Dk.diffErr at h
      by_cases ha : Lk.chk a = 0
      · exact ha
      · rw [if_neg ha] at h; exact h
    have hb : Lk.chk b = 0 := by
      unfold Dk.diffErr at h
      rwa [if_pos ha] at h
    rw [Dk.diffed, if_pos h, h]
    exact diff_good v u a b w hP hQ ha hb
  · refine (diff_bad v u a b w hP hQ h).mono ?_
    rintro e w' ⟨rfl, hb⟩
    exact ⟨⟨_, rfl, by rw [Dk.diffed, if_neg h]; exact ops_none _⟩, hb⟩
end Go.Proofs.YtpenkhehceglfaaGreatDoor
