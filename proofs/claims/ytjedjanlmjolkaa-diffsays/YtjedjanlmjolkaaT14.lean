/- The contract of the closed fact 'parted'. -/
import Derived.Test.YtjedjanlmjolkaaT12
import Derived.Test.YtjedjanlmjolkaaT13
namespace Go.Proofs.Ytjedjanlmjolkaa
open Go.RowKit
theorem opsNew (w : World) (l : List (Int × Int × Int)) (t : TypeId) (hl : l.length ≤ 1000) : OpsAt (w.alloc (.cells (flatO l).toArray t)) (.slice (some ⟨w.heap.size, 0, none⟩) l.length l.length) l := by
  refine ⟨by omega, l.length, .inr ⟨w.heap.size, 0, rfl, Nat.le_refl _, by simp, fun j hj => ?_⟩⟩
  obtain ⟨e1, e2, e3⟩ := flatO_get l j hj
  rw [World.cell?_alloc_new, World.cell?_alloc_new, World.cell?_alloc_new]
  simp only [Nat.zero_add, List.getElem?_toArray]
  exact ⟨e1, e2, e3⟩
theorem pt_err : Dk.diffErr [(1, 1), (2, 1)] [(2, 3), (4, 1)] = 0 := by decide +kernel
theorem pt_diff : Dk.diffed [(1, 1), (2, 1)] [(2, 3), (4, 1)] = [(2, 1, 0), (3, 2, 3), (1, 4, 1)] := by decide +kernel
theorem pt_aerr : Dk.applyErr [(1, 1), (2, 1)] (2, 1, 0) = 0 := by decide +kernel
theorem pt_apply : Dk.applied [(1, 1), (2, 1)] (2, 1, 0) = [(2, 1)] := by decide +kernel
theorem pt_berr : Dk.betweenErr [(1, 1), (2, 1)] [(2, 3), (4, 1)] [(2, 3)] = 0 := by decide +kernel
theorem pt_between : Dk.between [(1, 1), (2, 1)] [(2, 3), (4, 1)] [(2, 3)] = 2 := by decide +kernel
set_option maxHeartbeats 4000000 in
theorem parted_any (w : World) : Calls Try.prog 14 #[] w fun e w' => e = .returned (.bool true) ∧ Below w.heap.size w w' := by
  obtain ⟨W, hW⟩ : ∃ W, W = (w.alloc (.cells #[.int .i64 1, .int .i64 1, .int .i64 2, .int .i64 1] 40)).alloc (.cells #[.int .i64 2, .int .i64 3, .int .i64 4, .int .i64 1] 40) := ⟨_, rfl⟩
  have HW : Hid (W = (w.alloc (.cells #[.int .i64 1, .int .i64 1, .int .i64 2, .int .i64 1] 40)).alloc (.cells #[.int .i64 2, .int .i64 3, .int .i64 4, .int .i64 1] 40)) := hW
  have HB : Hid (Below w.heap.size w W) := by rw [hW]; exact ((Below.refl _ w).alloc (Nat.le_refl _) _).alloc (by simp) _
  have HA : Hid (PinsAt W (.slice (some ⟨w.heap.size, 0, none⟩) 2 2) [(1, 1), (2, 1)]) := by
    rw [hW]; exact (pinsNew w [(1, 1), (2, 1)] 40 (by decide)).below ((Below.refl _ _).alloc (Nat.le_refl _) _)
  have HQ : Hid (PinsAt W (.slice (some ⟨w.heap.size + 1, 0, none⟩) 2 2) [(2, 3), (4, 1)]) := by
    have := pinsNew (w.alloc (.cells #[.int .i64 1, .int .i64 1, .int .i64 2, .int .i64 1] 40)) [(2, 3), (4, 1)] 40 (by decide)
    rw [World.size_alloc] at this
    rw [hW]; exact this
  clear hW
  go_enter Try.func14, Try.ntmps14
  go_wp2_with fail
  rw [← HW.out]
  refine (diff_any _ _ _ _ _ HA.out HQ.out).mono ?_
  rintro e w1 ⟨⟨x, rfl, hx⟩, hb1⟩
  rw [pt_diff] at hx
  rw [pt_err]
  have HX : Hid (OpsAt w1 x [(2, 1, 0), (3, 2, 3), (1, 4, 1)]) := hx
  clear hx
  go_wp2_with fail
  refine (apply_any _ _ 2 1 0 _ (HA.out.below hb1)).mono ?_
  rintro e w2 ⟨⟨y, rfl, hy⟩, hb2⟩
  rw [pt_apply] at hy
  rw [pt_aerr]
  obtain ⟨A2, b2, o2, c2, rfl, -, -, -⟩ := hy.open
  have hb02 := hb1.trans (hb2.mono hb1.size)
  have HX2 : Hid (OpsAt w2 x [(2, 1, 0), (3, 2, 3), (1, 4, 1)]) := HX.out.below hb2
  clear hb1 hb2 hy HX
  have HN : Hid (PinsAt (w2.alloc (.cells #[.int .i64 2, .int .i64 3] 40)) (.slice (some ⟨w2.heap.size, 0, none⟩) 1 1) [(2, 3)]) := pinsNew w2 [(2, 3)] 40 (by decide)
  have HBN : Hid (Below W.heap.size W (w2.alloc (.cells #[.int .i64 2, .int .i64 3] 40))) := hb02.alloc hb02.size _
  have HX3 : Hid (OpsAt (w2.alloc (.cells #[.int .i64 2, .int .i64 3] 40)) x [(2, 1, 0), (3, 2, 3), (1, 4, 1)]) := HX2.out.below ((Below.refl _ _).alloc (Nat.le_refl _) _)
  clear hb02 HX2
  go_wp2_with fail
  refine (between_any _ _ _ _ _ _ _ (HA.out.below HBN.out) (HQ.out.below HBN.out) HN.out).mono ?_
  rintro e w3 ⟨rfl, hb3⟩
  rw [pt_between, pt_berr]
  have HX4 : Hid (OpsAt (w3.alloc (.cells #[.int .i64 2, .int .i64 1, .int .i64 0, .int .i64 3, .int .i64 2, .int .i64 3, .int .i64 1, .int .i64 4, .int .i64 1] 29)) x [(2, 1, 0), (3, 2, 3), (1, 4, 1)]) := (HX3.out.below hb3).below ((Below.refl _ _).alloc (Nat.le_refl _) _)
  have HB3 : Hid (Below W.heap.size W w3) := HBN.out.trans (hb3.mono HBN.out.size)
  clear hb3 HX3 HN
  go_wp2_with fail
  refine (equalO_any _ _ _ _ _ HX4.out (opsNew w3 [(2, 1, 0), (3, 2, 3), (1, 4, 1)] 29 (by decide))).mono ?_
  rintro e w4 ⟨rfl, hb4⟩
  rw [show sameO [(2, 1, 0), (3, 2, 3), (1, 4, 1)] [(2, 1, 0), (3, 2, 3), (1, 4, 1)] = true from by decide]
  go_wp2
  go_ret
  refine ⟨rfl, HB.out.trans (Below.mono ?_ HB.out.size)⟩
  exact (HB3.out.alloc HB3.out.size _).trans (hb4.mono (by simp only [World.size_alloc]; have := HB3.out.size; omega))
end Go.Proofs.Ytjedjanlmjolkaa
