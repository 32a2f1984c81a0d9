/- The walk of RuleMends, out of the contracts. -/
import Derived.Test.YtjedjanlmjolkabR4
import Derived.Test.YtjedjanlmjolkabRMath2
import Derived.Deep.RegionWith
import Derived.Deep.CutRange
namespace Go.Proofs.Ytjedjanlmjolkab
open Go.RowKit
set_option maxHeartbeats 4000000 in
theorem rmends_bad (C : RuleC) (v u x : Value) (a : List (Int × Int)) (r : List Rk.Rl) (w : World) (hP : PinsAt w v a) (hR : RulesAt w u r) (he : Rk.mendErr a r ≠ 0) :
    Calls Try.prog 4 #[v, u, x] w fun e w' => e = .returned (.bool true) ∧ Below w.heap.size w w' := by
  have HC := C.mend v u a r w hP hR
  have he' : (Rk.mendErr a r != 0) = true := by simpa using he
  clear he hP hR
  go_enter Try.func4, Try.ntmps4
  go_wp2_with fail
  refine HC.mono ?_
  rintro e w1 ⟨⟨y, rfl, _⟩, hb1⟩
  go_wp2_with fail
  refine (ruled_any C _).mono ?_
  rintro e w2 ⟨rfl, hb2⟩
  go_wp2_with fail
  refine (ruled_any C _).mono ?_
  rintro e w3 ⟨rfl, hb3⟩
  go_wp2
  go_ret
  have h2 := hb1.trans (hb2.mono hb1.size)
  exact ⟨rfl, h2.trans (hb3.mono h2.size)⟩
/-- a list of pins, each held against a lock: all that were are no less -/
def allTo (l M : List (Int × Int)) (k : Nat) : Prop := ∀ j, j < k → (l.getD j (0, 0)).2 ≤ Lk.find (l.getD j (0, 0)).1 M
theorem allTo_next {l M : List (Int × Int)} {k : Nat} (h : allTo l M k) (hk : (l.getD k (0, 0)).2 ≤ Lk.find (l.getD k (0, 0)).1 M) : allTo l M (k + 1) := fun j hj => by
  by_cases e : j = k
  · subst e; exact hk
  · exact h j (by omega)
theorem allTo_all {l M : List (Int × Int)} (h : allTo l M l.length) : ∀ p ∈ l, p.2 ≤ Lk.find p.1 M := fun p hp => by
  obtain ⟨j, hj, e⟩ := List.getElem_of_mem hp
  have := h j hj
  rw [List.getD_eq_getElem?_getD, List.getElem?_eq_getElem hj] at this
  simpa [e] using this
theorem mem_getD {l : List (Int × Int)} {k : Nat} (h : k < l.length) : l.getD k (0, 0) ∈ l := by
  rw [List.getD_eq_getElem?_getD, List.getElem?_eq_getElem h]; exact List.getElem_mem h
set_option maxRecDepth 100000 in
set_option maxHeartbeats 16000000 in
theorem rmends_good (C : RuleC) (v u x : Value) (a oth : List (Int × Int)) (r : List Rk.Rl) (w : World) (hP : PinsAt w v a) (hR : RulesAt w u r) (hO : PinsAt w x oth) (he : Rk.mendErr a r = 0) :
    Calls Try.prog 4 #[v, u, x] w fun e w' => e = .returned (.bool true) ∧ Below w.heap.size w w' := by
  have HC : Hid (Calls Try.prog 7 #[v, u] w fun e w' => (∃ y, e = .returned (.tuple #[y, .int .i64 0]) ∧ PinsAt w' y (Rk.mended a r)) ∧ Below w.heap.size w w') := by
    have := C.mend v u a r w hP hR
    rw [he] at this
    exact this
  obtain ⟨-, -, -, m4, m5, m6, m7⟩ := Rk.mended_good he
  have HM4 : Hid (Rk.brokenErr (Rk.mended a r) r = 0) := m4
  have HM5 : Hid (Rk.broken (Rk.mended a r) r = -1) := m5
  have HM6 : Hid (Rk.mendErr (Rk.mended a r) r = 0) := m6
  have HM7 : Hid (Rk.mended (Rk.mended a r) r = Rk.mended a r) := m7
  have HHAS : Hid (∀ p ∈ a, p.2 ≤ Lk.find p.1 (Rk.mended a r)) := fun p hp => Rk.mend_has he hp
  have HLST : Hid (Rk.brokenErr oth r = 0 → Rk.broken oth r = -1 → (∀ p ∈ a, p.2 ≤ Lk.find p.1 oth) → ∀ p ∈ Rk.mended a r, p.2 ≤ Lk.find p.1 oth) := fun h1 h2 h3 p hp => Rk.mend_least he h1 h2 h3 hp
  clear m4 m5 m6 m7 he
  generalize Rk.mended a r = m at HC HM4 HM5 HM6 HM7 HHAS HLST
  obtain ⟨A, ba, oa, ca, rfl, hla, hAa, hAc⟩ := hP.open
  have HAa : Hid (0 < a.length → A = some ⟨ba, oa, none⟩ ∧ ba < w.heap.size) := hAa
  have HAc : Hid (∀ j, j < a.length → w.cell? ⟨ba, oa + j * 2, none⟩ = some (.int .i64 (a.getD j (0, 0)).1) ∧ w.cell? ⟨ba, oa + j * 2 + 1, none⟩ = some (.int .i64 (a.getD j (0, 0)).2)) := hAc
  have HR : Hid (RulesAt w u r) := hR
  have HO : Hid (PinsAt w x oth) := hO
  clear hP hR hO hAa hAc
  go_enter Try.func4, Try.ntmps4
  go_wp2_with fail
  refine HC.out.mono ?_
  rintro e w1 ⟨⟨y1, rfl, hy⟩, hb1⟩
  obtain ⟨B, bm, om, cm, rfl, hlm, hBa, hBc⟩ := hy.open
  have HY1 : Hid (PinsAt w1 (.slice B m.length cm) m) := hy
  have HB1 : Hid (Below w.heap.size w w1) := hb1
  have HBa : Hid (0 < m.length → B = some ⟨bm, om, none⟩ ∧ bm < w1.heap.size) := hBa
  have HBc : Hid (∀ j, j < m.length → w1.cell? ⟨bm, om + j * 2, none⟩ = some (.int .i64 (m.getD j (0, 0)).1) ∧ w1.cell? ⟨bm, om + j * 2 + 1, none⟩ = some (.int .i64 (m.getD j (0, 0)).2)) := hBc
  clear hy hb1 HC hBa hBc
  go_wp2_with fail
  refine (ruled_any C _).mono ?_
  rintro e w2 ⟨rfl, hb2⟩
  have HW2 : Hid (Below w1.heap.size w1 w2) := hb2
  clear hb2
  go_wp2_with fail
  refine (C.broken _ _ _ _ _ (HY1.out.below HW2.out) ((HR.out.below HB1.out).below HW2.out)).mono ?_
  rintro e w3 ⟨rfl, hb3⟩
  rw [HM5.out, HM4.out]
  have HW3 : Hid (Below w1.heap.size w1 w3) := HW2.out.trans (hb3.mono HW2.out.size)
  clear hb3 HW2
  go_wp2_with fail
  refine (C.mend _ _ _ _ _ (HY1.out.below HW3.out) ((HR.out.below HB1.out).below HW3.out)).mono ?_
  rintro e w4 ⟨⟨y2, rfl, hy⟩, hb4⟩
  rw [HM7.out] at hy
  rw [HM6.out]
  have HZ4 : Hid (PinsAt w4 y2 m) := hy
  have HW4 : Hid (Below w1.heap.size w1 w4) := HW3.out.trans (hb4.mono HW3.out.size)
  clear hb4 HW3 hy
  go_wp2_with fail
  refine (equal_any _ _ _ _ _ (HY1.out.below HW4.out) HZ4.out).mono ?_
  rintro e w5 ⟨rfl, hb5⟩
  rw [show Lk.same m m = true from decide_eq_true rfl]
  have HW5 : Hid (Below w1.heap.size w1 w5) := HW4.out.trans (hb5.mono HW4.out.size)
  have HAa1 : Hid (0 < a.length → A = some ⟨ba, oa, none⟩ ∧ ba < w1.heap.size) := fun h => ⟨(HAa.out h).1, Nat.lt_of_lt_of_le (HAa.out h).2 HB1.out.size⟩
  have HAc1 : Hid (∀ j, j < a.length → w1.cell? ⟨ba, oa + j * 2, none⟩ = some (.int .i64 (a.getD j (0, 0)).1) ∧ w1.cell? ⟨ba, oa + j * 2 + 1, none⟩ = some (.int .i64 (a.getD j (0, 0)).2)) := fun j hj => by
    have hlt := (HAa.out (by omega)).2
    exact ⟨(HB1.out.cell (p := ⟨ba, oa + j * 2, none⟩) hlt).trans (HAc.out j hj).1, (HB1.out.cell (p := ⟨ba, oa + j * 2 + 1, none⟩) hlt).trans (HAc.out j hj).2⟩
  have HO1 : Hid (PinsAt w1 x oth) := HO.out.below HB1.out
  have HR1 : Hid (RulesAt w1 u r) := HR.out.below HB1.out
  clear hb5 HW4 HZ4 HM4 HM5 HM6 HM7 HAa HAc HO HR
  go_wp2_with fail
  go_loopg [63] a.length (fun g s63 wr => ∃ k : Nat, k ≤ a.length ∧ a.length - k ≤ g ∧ s63 = .int .i64 k ∧ Hid (Below w1.heap.size w1 wr))
  case atStart => exact ⟨0, Nat.zero_le _, by omega, rfl, HW5⟩
  case round =>
    clear HW5
    obtain ⟨k, hk, hg, rfl, HW⟩ := hrel
    by_cases hlt : k < a.length
    · have HT : Hid ((a.getD k (0, 0)).2 ≤ Lk.find (a.getD k (0, 0)).1 m) := HHAS.out _ (mem_getD hlt)
      obtain ⟨rfl, hbw⟩ := HAa1.out (by omega)
      obtain ⟨g1, g2⟩ := HAc1.out k hlt
      rw [← HW.out.cell (p := ⟨ba, _, none⟩) hbw] at g1 g2
      clear HAa1
      obtain ⟨⟨n, z⟩, hp⟩ : ∃ p, a.getD k (0, 0) = p := ⟨_, rfl⟩
      rw [hp] at g1 g2
      have HP : Hid (a.getD k (0, 0) = (n, z)) := hp
      clear hp
      simp only at g1 g2
      have HWA : Hid (Below w1.heap.size w1 (wr.alloc (.cells #[.int .i64 n, .int .i64 z] 33))) := HW.out.alloc HW.out.size _
      have HPA : Hid ((wr.alloc (.cells #[.int .i64 n, .int .i64 z] 33)).cell? ⟨wr.heap.size, 0, none⟩ = some (.int .i64 n) ∧ (wr.alloc (.cells #[.int .i64 n, .int .i64 z] 33)).cell? ⟨wr.heap.size, 1, none⟩ = some (.int .i64 z)) := ⟨by simp [go_sem], by simp [go_sem]⟩
      have HSA : Hid (wr.heap.size < (wr.alloc (.cells #[.int .i64 n, .int .i64 z] 33)).heap.size) := by rw [World.size_alloc]; exact Nat.lt_succ_self _
      go_upto_region 11 with fail
      generalize hwx : wr.alloc (.cells #[.int .i64 n, .int .i64 z] 33) = wx at HWA HPA HSA
      clear hwx
      go_cut [63, 73] from 63 to 74 (fun s63 sc wy => s63 = .int .i64 k ∧ sc = .bool (decide (Lk.find n m < z)) ∧ Hid (Below w1.heap.size w1 wy))
      case first =>
        have hB : Below wx.heap.size wx wx.drew := (Below.refl _ _).drew
        obtain ⟨c0, c1⟩ := HPA.out
        go_region_with (go_at_call 14; refine (find_any _ m n _ ((HY1.out.below HWA.out).below (by assumption))).mono ?_; rintro e w' ⟨rfl, hb'⟩; have hB' : Below wx.heap.size wx w' := Below.trans (by assumption) (hb'.mono (Below.size (by assumption))); have c0' := (hB'.cell (p := ⟨wr.heap.size, 0, none⟩) HSA.out).trans HPA.out.1; have c1' := (hB'.cell (p := ⟨wr.heap.size, 1, none⟩) HSA.out).trans HPA.out.2)
        all_goals
          go_wp2_with fail
          go_meet
          exact ⟨rfl, rfl, HWA.out.trans (hB'.mono HWA.out.size)⟩
      case rest =>
        obtain ⟨rfl, rfl, HWC⟩ := hcut
        have hdf : decide (Lk.find n m < z) = false := decide_eq_false (by have := HT.out; rw [HP.out] at this; simp only at this; omega)
        rw [hdf]
        clear hdf HT
        go_wp2
        go_roundg (a.length - (k + 1))
        case measure => omega
        case rel => exact ⟨k + 1, by omega, by omega, by go_num, HWC⟩
    · have hk' : k = a.length := by omega
      subst hk'
      clear hlt hk hg HHAS
      go_wp2_with fail
      refine (C.broken _ _ _ _ _ (HO1.out.below HW.out) (HR1.out.below HW.out)).mono ?_
      rintro e w6 ⟨rfl, hb6⟩
      have HW6 : Hid (Below w1.heap.size w1 w6) := HW.out.trans (hb6.mono HW.out.size)
      clear hb6 HW
      by_cases hoe : Rk.brokenErr oth r = 0
      · by_cases hob : Rk.broken oth r = -1
        · have HL2 : Hid ((∀ p ∈ a, p.2 ≤ Lk.find p.1 oth) → ∀ p ∈ m, p.2 ≤ Lk.find p.1 oth) := HLST.out hoe hob
          rw [hoe, hob]
          clear hoe hob HLST
          go_wp2_with fail
          go_loopg [89] a.length (fun g s89 wr => ∃ k : Nat, k ≤ a.length ∧ a.length - k ≤ g ∧ s89 = .int .i64 k ∧ Hid (allTo a oth k) ∧ Hid (Below w1.heap.size w1 wr))
          case atStart => exact ⟨0, Nat.zero_le _, by omega, rfl, (fun j hj => absurd hj (by omega)), HW6⟩
          case round =>
            clear HW6
            obtain ⟨k, hk, hg, rfl, HALL, HW⟩ := hrel
            by_cases hlt : k < a.length
            · obtain ⟨rfl, hbw⟩ := HAa1.out (by omega)
              obtain ⟨g1, g2⟩ := HAc1.out k hlt
              rw [← HW.out.cell (p := ⟨ba, _, none⟩) hbw] at g1 g2
              clear HAa1
              obtain ⟨⟨n, z⟩, hp⟩ : ∃ p, a.getD k (0, 0) = p := ⟨_, rfl⟩
              rw [hp] at g1 g2
              have HP : Hid (a.getD k (0, 0) = (n, z)) := hp
              clear hp
              simp only at g1 g2
              have HWA : Hid (Below w1.heap.size w1 (wr.alloc (.cells #[.int .i64 n, .int .i64 z] 33))) := HW.out.alloc HW.out.size _
              have HPA : Hid ((wr.alloc (.cells #[.int .i64 n, .int .i64 z] 33)).cell? ⟨wr.heap.size, 0, none⟩ = some (.int .i64 n) ∧ (wr.alloc (.cells #[.int .i64 n, .int .i64 z] 33)).cell? ⟨wr.heap.size, 1, none⟩ = some (.int .i64 z)) := ⟨by simp [go_sem], by simp [go_sem]⟩
              have HSA : Hid (wr.heap.size < (wr.alloc (.cells #[.int .i64 n, .int .i64 z] 33)).heap.size) := by rw [World.size_alloc]; exact Nat.lt_succ_self _
              go_upto_region 20 with fail
              generalize hwx : wr.alloc (.cells #[.int .i64 n, .int .i64 z] 33) = wx at HWA HPA HSA
              clear hwx
              go_cut [89, 99] from 89 to 100 (fun sk sc wy => sk = .int .i64 k ∧ sc = .bool (decide (Lk.find n oth < z)) ∧ Hid (Below w1.heap.size w1 wy))
              case first =>
                have hB : Below wx.heap.size wx wx.drew := (Below.refl _ _).drew
                obtain ⟨c0, c1⟩ := HPA.out
                go_region_with (go_at_call 14; refine (find_any _ oth n _ ((HO1.out.below HWA.out).below (by assumption))).mono ?_; rintro e w' ⟨rfl, hb'⟩; have hB' : Below wx.heap.size wx w' := Below.trans (by assumption) (hb'.mono (Below.size (by assumption))); have c0' := (hB'.cell (p := ⟨wr.heap.size, 0, none⟩) HSA.out).trans HPA.out.1; have c1' := (hB'.cell (p := ⟨wr.heap.size, 1, none⟩) HSA.out).trans HPA.out.2)
                all_goals
                  go_wp2_with fail
                  go_meet
                  exact ⟨rfl, rfl, HWA.out.trans (hB'.mono HWA.out.size)⟩
              case rest =>
                obtain ⟨rfl, rfl, HWC⟩ := hcut
                by_cases hfz : Lk.find n oth < z
                · rw [decide_eq_true hfz]
                  clear hfz
                  go_wp2
                  go_ret
                  exact ⟨rfl, HB1.out.trans (HWC.out.mono HB1.out.size)⟩
                · have HN : Hid (allTo a oth (k + 1)) := allTo_next HALL.out (by rw [HP.out]; simp only []; omega)
                  rw [decide_eq_false hfz]
                  clear hfz HALL
                  go_wp2
                  go_roundg (a.length - (k + 1))
                  case measure => omega
                  case rel => exact ⟨k + 1, by omega, by omega, by go_num, HN, HWC⟩
            · have hk' : k = a.length := by omega
              subst hk'
              have HL3 : Hid (∀ p ∈ m, p.2 ≤ Lk.find p.1 oth) := HL2.out (allTo_all HALL.out)
              clear hlt hk hg HALL HL2 HAa1 HAc1
              go_wp2_with fail
              go_loopg [103] m.length (fun g s103 wr => ∃ k : Nat, k ≤ m.length ∧ m.length - k ≤ g ∧ s103 = .int .i64 k ∧ Hid (Below w1.heap.size w1 wr))
              case atStart => exact ⟨0, Nat.zero_le _, by omega, rfl, HW⟩
              case round =>
                clear HW
                obtain ⟨k, hk, hg, rfl, HW⟩ := hrel
                by_cases hlt : k < m.length
                · have HT : Hid ((m.getD k (0, 0)).2 ≤ Lk.find (m.getD k (0, 0)).1 oth) := HL3.out _ (mem_getD hlt)
                  obtain ⟨rfl, hbw⟩ := HBa.out (by omega)
                  obtain ⟨g1, g2⟩ := HBc.out k hlt
                  rw [← HW.out.cell (p := ⟨bm, _, none⟩) hbw] at g1 g2
                  clear HBa
                  obtain ⟨⟨n, z⟩, hp⟩ : ∃ p, m.getD k (0, 0) = p := ⟨_, rfl⟩
                  rw [hp] at g1 g2
                  have HP : Hid (m.getD k (0, 0) = (n, z)) := hp
                  clear hp
                  simp only at g1 g2
                  have HWA : Hid (Below w1.heap.size w1 (wr.alloc (.cells #[.int .i64 n, .int .i64 z] 33))) := HW.out.alloc HW.out.size _
                  have HPA : Hid ((wr.alloc (.cells #[.int .i64 n, .int .i64 z] 33)).cell? ⟨wr.heap.size, 0, none⟩ = some (.int .i64 n) ∧ (wr.alloc (.cells #[.int .i64 n, .int .i64 z] 33)).cell? ⟨wr.heap.size, 1, none⟩ = some (.int .i64 z)) := ⟨by simp [go_sem], by simp [go_sem]⟩
                  have HSA : Hid (wr.heap.size < (wr.alloc (.cells #[.int .i64 n, .int .i64 z] 33)).heap.size) := by rw [World.size_alloc]; exact Nat.lt_succ_self _
                  go_upto_region 26 with fail
                  generalize hwx : wr.alloc (.cells #[.int .i64 n, .int .i64 z] 33) = wx at HWA HPA HSA
                  clear hwx
                  go_cut [103, 113] from 103 to 114 (fun sk sc wy => sk = .int .i64 k ∧ sc = .bool (decide (Lk.find n oth < z)) ∧ Hid (Below w1.heap.size w1 wy))
                  case first =>
                    have hB : Below wx.heap.size wx wx.drew := (Below.refl _ _).drew
                    obtain ⟨c0, c1⟩ := HPA.out
                    go_region_with (go_at_call 14; refine (find_any _ oth n _ ((HO1.out.below HWA.out).below (by assumption))).mono ?_; rintro e w' ⟨rfl, hb'⟩; have hB' : Below wx.heap.size wx w' := Below.trans (by assumption) (hb'.mono (Below.size (by assumption))); have c0' := (hB'.cell (p := ⟨wr.heap.size, 0, none⟩) HSA.out).trans HPA.out.1; have c1' := (hB'.cell (p := ⟨wr.heap.size, 1, none⟩) HSA.out).trans HPA.out.2)
                    all_goals
                      go_wp2_with fail
                      go_meet
                      exact ⟨rfl, rfl, HWA.out.trans (hB'.mono HWA.out.size)⟩
                  case rest =>
                    obtain ⟨rfl, rfl, HWC⟩ := hcut
                    have hdf : decide (Lk.find n oth < z) = false := decide_eq_false (by have := HT.out; rw [HP.out] at this; simp only at this; omega)
                    rw [hdf]
                    clear hdf HT
                    go_wp2
                    go_roundg (m.length - (k + 1))
                    case measure => omega
                    case rel => exact ⟨k + 1, by omega, by omega, by go_num, HWC⟩
                · have hk' : k = m.length := by omega
                  subst hk'
                  clear hlt hk hg
                  go_wp2
                  go_ret
                  exact ⟨rfl, HB1.out.trans (HW.out.mono HB1.out.size)⟩
        · have hge : 0 ≤ Rk.broken oth r := by
            have := hob
            rw [Rk.broken, if_pos hoe] at this ⊢
            obtain ⟨j, _, _, _, e⟩ := Rk.first_some this
            omega
          rw [hoe]
          clear hoe hob HLST
          go_wp2
          go_ret
          exact ⟨rfl, HB1.out.trans (HW6.out.mono HB1.out.size)⟩
      · have hoe' : (Rk.brokenErr oth r != 0) = true := by simpa using hoe
        clear hoe HLST
        go_wp2
        go_ret
        exact ⟨rfl, HB1.out.trans (HW6.out.mono HB1.out.size)⟩
theorem rmends_any (C : RuleC) (v u x : Value) (a oth : List (Int × Int)) (r : List Rk.Rl) (w : World) (hP : PinsAt w v a) (hR : RulesAt w u r) (hO : PinsAt w x oth) :
    Calls Try.prog 4 #[v, u, x] w fun e w' => e = .returned (.bool true) ∧ Below w.heap.size w w' := by
  by_cases he : Rk.mendErr a r = 0
  · exact rmends_good C v u x a oth r w hP hR hO he
  · exact rmends_bad C v u x a r w hP hR he
end Go.Proofs.Ytjedjanlmjolkab
