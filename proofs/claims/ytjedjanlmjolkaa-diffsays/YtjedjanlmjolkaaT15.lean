/- The walk of DiffSays, out of the contracts: it returns true, and nothing old has turned. -/
import Derived.Test.YtjedjanlmjolkaaT14
import Derived.Test.YtjedjanlmjolkaaW3
namespace Go.Proofs.Ytjedjanlmjolkaa
open Go.RowKit
set_option maxHeartbeats 8000000 in
theorem says_any (v u y : Value) (a b l : List (Int × Int)) (k n x : Int) (w : World) (hP : PinsAt w v a) (hQ : PinsAt w u b) (hR : PinsAt w y l) :
    Calls Try.prog 4 #[v, u, .agg #[.int .i64 k, .int .i64 n, .int .i64 x], y] w fun e w' => e = .returned (.bool true) ∧ Below w.heap.size w w' := by
  obtain ⟨W, hW⟩ : ∃ W, W = w.alloc (.cells #[.int .i64 k, .int .i64 n, .int .i64 x] 29) := ⟨_, rfl⟩
  have HW : Hid (W = w.alloc (.cells #[.int .i64 k, .int .i64 n, .int .i64 x] 29)) := hW
  have HB : Hid (Below w.heap.size w W) := by rw [hW]; exact (Below.refl _ w).alloc (Nat.le_refl _) _
  have HP : Hid (PinsAt W v a) := hP.below HB.out
  have HQ : Hid (PinsAt W u b) := hQ.below HB.out
  have HR : Hid (PinsAt W y l) := hR.below HB.out
  have HS : Hid (w.heap.size < W.heap.size) := by rw [hW, World.size_alloc]; exact Nat.lt_succ_self _
  have HO : Hid (OpAt W w.heap.size k n x) := by rw [hW]; exact ⟨by simp [go_sem], by simp [go_sem], by simp [go_sem]⟩
  clear hW hP hQ hR
  go_enter Try.func4, Try.ntmps4
  go_wp2_with fail
  rw [← HW.out]
  refine (diff_any _ _ _ _ _ HP.out HQ.out).mono ?_
  rintro e w1 ⟨⟨x1, rfl, hx1⟩, hb1⟩
  have HX1 : Hid (OpsAt w1 x1 (Dk.diffed a b)) := hx1
  have HB1 : Hid (Below W.heap.size W w1) := hb1
  obtain ⟨c0, c1, c2⟩ := HO.out.below hb1 HS.out
  clear hx1 hb1
  go_wp2_with fail
  refine (apply_any _ _ k n x _ (HP.out.below HB1.out)).mono ?_
  rintro e w2 ⟨⟨y1, rfl, hy1⟩, hb2⟩
  have HY1 : Hid (PinsAt w2 y1 (Dk.applied a (k, n, x))) := hy1
  have HX2 : Hid (OpsAt w2 x1 (Dk.diffed a b)) := HX1.out.below hb2
  have HB2 : Hid (Below W.heap.size W w2) := HB1.out.trans (hb2.mono HB1.out.size)
  clear hy1 hb2 HX1 HB1 c0 c1 c2
  go_wp2_with fail
  refine (between_any _ _ _ _ _ _ _ (HP.out.below HB2.out) (HQ.out.below HB2.out) (HR.out.below HB2.out)).mono ?_
  rintro e w3 ⟨rfl, hb3⟩
  have HY3 : Hid (PinsAt w3 y1 (Dk.applied a (k, n, x))) := HY1.out.below hb3
  have HX3 : Hid (OpsAt w3 x1 (Dk.diffed a b)) := HX2.out.below hb3
  have HB3 : Hid (Below W.heap.size W w3) := HB2.out.trans (hb3.mono HB2.out.size)
  clear hb3 HX2 HY1 HB2
  go_wp2_with fail
  refine (stepsR_any _ _ _ _ _ (HP.out.below HB3.out) (HQ.out.below HB3.out)).mono ?_
  rintro e w4 ⟨⟨x2, rfl, hx2⟩, hb4⟩
  have HZ4 : Hid (OpsAt w4 x2 (Dk.diffed a b)) := hx2
  have HY4 : Hid (PinsAt w4 y1 (Dk.applied a (k, n, x))) := HY3.out.below hb4
  have HX4 : Hid (OpsAt w4 x1 (Dk.diffed a b)) := HX3.out.below hb4
  have HB4 : Hid (Below W.heap.size W w4) := HB3.out.trans (hb4.mono HB3.out.size)
  obtain ⟨c0, c1, c2⟩ := HO.out.below HB4.out HS.out
  clear hx2 hb4 HX3 HY3 HB3
  go_wp2_with fail
  refine (stepped_any _ _ k n x _ (HP.out.below HB4.out)).mono ?_
  rintro e w5 ⟨⟨y2, rfl, hy2⟩, hb5⟩
  have HV5 : Hid (PinsAt w5 y2 (Dk.applied a (k, n, x))) := hy2
  have HZ5 : Hid (OpsAt w5 x2 (Dk.diffed a b)) := HZ4.out.below hb5
  have HY5 : Hid (PinsAt w5 y1 (Dk.applied a (k, n, x))) := HY4.out.below hb5
  have HX5 : Hid (OpsAt w5 x1 (Dk.diffed a b)) := HX4.out.below hb5
  have HB5 : Hid (Below W.heap.size W w5) := HB4.out.trans (hb5.mono HB4.out.size)
  clear hy2 hb5 HX4 HY4 HB4 HZ4 c0 c1 c2
  go_wp2_with fail
  refine (way_any _ _ _ _ _ _ _ (HP.out.below HB5.out) (HQ.out.below HB5.out) (HR.out.below HB5.out)).mono ?_
  rintro e w6 ⟨rfl, hb6⟩
  have HV6 : Hid (PinsAt w6 y2 (Dk.applied a (k, n, x))) := HV5.out.below hb6
  have HZ6 : Hid (OpsAt w6 x2 (Dk.diffed a b)) := HZ5.out.below hb6
  have HY6 : Hid (PinsAt w6 y1 (Dk.applied a (k, n, x))) := HY5.out.below hb6
  have HX6 : Hid (OpsAt w6 x1 (Dk.diffed a b)) := HX5.out.below hb6
  have HB6 : Hid (Below W.heap.size W w6) := HB5.out.trans (hb6.mono HB5.out.size)
  clear hb6 HX5 HY5 HB5 HZ5 HV5
  go_wp2_with fail
  refine (parted_any _).mono ?_
  rintro e w7 ⟨rfl, hb7⟩
  have HV7 : Hid (PinsAt w7 y2 (Dk.applied a (k, n, x))) := HV6.out.below hb7
  have HZ7 : Hid (OpsAt w7 x2 (Dk.diffed a b)) := HZ6.out.below hb7
  have HY7 : Hid (PinsAt w7 y1 (Dk.applied a (k, n, x))) := HY6.out.below hb7
  have HX7 : Hid (OpsAt w7 x1 (Dk.diffed a b)) := HX6.out.below hb7
  have HB7 : Hid (Below W.heap.size W w7) := HB6.out.trans (hb7.mono HB6.out.size)
  clear hb7 HX6 HY6 HB6 HZ6 HV6
  go_wp2_with fail
  refine (equalO_any _ _ _ _ _ HX7.out HZ7.out).mono ?_
  rintro e w8 ⟨rfl, hb8⟩
  rw [show sameO (Dk.diffed a b) (Dk.diffed a b) = true from decide_eq_true rfl]
  have HV8 : Hid (PinsAt w8 y2 (Dk.applied a (k, n, x))) := HV7.out.below hb8
  have HY8 : Hid (PinsAt w8 y1 (Dk.applied a (k, n, x))) := HY7.out.below hb8
  have HB8 : Hid (Below W.heap.size W w8) := HB7.out.trans (hb8.mono HB7.out.size)
  clear hb8 HX7 HZ7 HY7 HV7 HB7
  go_wp2_with fail
  refine (equal_any _ _ _ _ _ HY8.out HV8.out).mono ?_
  rintro e w9 ⟨rfl, hb9⟩
  rw [show Lk.same (Dk.applied a (k, n, x)) (Dk.applied a (k, n, x)) = true from decide_eq_true rfl]
  have HB9 : Hid (Below W.heap.size W w9) := HB8.out.trans (hb9.mono HB8.out.size)
  clear hb9 HB8 HY8 HV8
  go_wp2
  go_ret
  exact ⟨rfl, HB.out.trans (HB9.out.mono HB.out.size)⟩
end Go.Proofs.Ytjedjanlmjolkaa
