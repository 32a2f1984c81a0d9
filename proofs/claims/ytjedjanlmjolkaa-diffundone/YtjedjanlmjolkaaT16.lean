/- The walk of DiffUndone, out of the contracts: it returns true, and nothing old has turned. -/
import Derived.Test.YtjedjanlmjolkaaT14
import Derived.Test.YtjedjanlmjolkaaW3
import Derived.Test.YtjedjanlmjolkaaDMath2
namespace Go.Proofs.Ytjedjanlmjolkaa
open Go.RowKit
set_option maxHeartbeats 4000000 in
theorem undone_bad (v u : Value) (a : List (Int × Int)) (k n x : Int) (w : World) (hP : PinsAt w v a) (he : Dk.applyErr a (k, n, x) ≠ 0) :
    Calls Try.prog 6 #[v, .agg #[.int .i64 k, .int .i64 n, .int .i64 x], u] w fun e w' => e = .returned (.bool true) ∧ Below w.heap.size w w' := by
  have hb0 : Below w.heap.size w (w.alloc (.cells #[.int .i64 k, .int .i64 n, .int .i64 x] 29)) := (Below.refl _ w).alloc (Nat.le_refl _) _
  have HC := apply_any _ _ k n x _ (hP.below hb0)
  have he' : (Dk.applyErr a (k, n, x) != 0) = true := by simpa using he
  clear he hP
  go_enter Try.func6, Try.ntmps6
  go_wp2_with fail
  refine HC.mono ?_
  rintro e w1 ⟨⟨y, rfl, _⟩, hb1⟩
  go_wp2_with fail
  refine (parted_any _).mono ?_
  rintro e w2 ⟨rfl, hb2⟩
  go_wp2_with fail
  refine (parted_any _).mono ?_
  rintro e w3 ⟨rfl, hb3⟩
  go_wp2
  go_ret
  have h1 := hb0.trans (hb1.mono hb0.size)
  have h2 := h1.trans (hb2.mono h1.size)
  exact ⟨rfl, h2.trans (hb3.mono h2.size)⟩
set_option maxHeartbeats 8000000 in
theorem undone_nil_err (v u : Value) (a b : List (Int × Int)) (k n x : Int) (w : World) (hP : PinsAt w v a) (hQ : PinsAt w u b) (he : Dk.applyErr a (k, n, x) = 0) (hde : Dk.diffErr (Dk.applied a (k, n, x)) a = 0) (hd : Dk.diffed (Dk.applied a (k, n, x)) a = []) (hm : Dk.applied a (k, n, x) = a) (hz : Dk.betweenErr a b (Dk.applied a (k, n, x)) ≠ 0) :
    Calls Try.prog 6 #[v, .agg #[.int .i64 k, .int .i64 n, .int .i64 x], u] w fun e w' => e = .returned (.bool true) ∧ Below w.heap.size w w' := by
  obtain ⟨W, hW⟩ : ∃ W, W = w.alloc (.cells #[.int .i64 k, .int .i64 n, .int .i64 x] 29) := ⟨_, rfl⟩
  have HW : Hid (W = w.alloc (.cells #[.int .i64 k, .int .i64 n, .int .i64 x] 29)) := hW
  have HB : Hid (Below w.heap.size w W) := by rw [hW]; exact (Below.refl _ w).alloc (Nat.le_refl _) _
  have HP : Hid (PinsAt W v a) := hP.below HB.out
  have HQ : Hid (PinsAt W u b) := hQ.below HB.out
  have HE : Hid (Dk.applyErr a (k, n, x) = 0) := he
  have HDE : Hid (Dk.diffErr (Dk.applied a (k, n, x)) a = 0) := hde
  have HD : Hid (Dk.diffed (Dk.applied a (k, n, x)) a = []) := hd
  have HM : Hid (Dk.applied a (k, n, x) = a) := hm
  have hz' : (Dk.betweenErr a b (Dk.applied a (k, n, x)) != 0) = true := by simpa using hz
  clear hW hP hQ he hde hd hm hz
  have HC00 : ∀ W : World, PinsAt W v a → Calls Try.prog 9 #[v, .agg #[.int .i64 k, .int .i64 n, .int .i64 x]] W fun e w' => (∃ y, e = .returned (.tuple #[y, .int .i64 0]) ∧ PinsAt w' y (Dk.applied a (k, n, x))) ∧ Below W.heap.size W w' := fun W h => by
    have := apply_any v a k n x W h
    rwa [HE.out] at this
  clear HE
  generalize Dk.applied a (k, n, x) = m at *
  have HC0 : Hid (Calls Try.prog 9 #[v, .agg #[.int .i64 k, .int .i64 n, .int .i64 x]] W fun e w' => (∃ y, e = .returned (.tuple #[y, .int .i64 0]) ∧ PinsAt w' y m) ∧ Below W.heap.size W w') := HC00 W HP.out
  clear HC00
  go_enter Try.func6, Try.ntmps6
  go_wp2_with fail
  rw [← HW.out]
  refine HC0.out.mono ?_
  rintro e w1 ⟨⟨y1, rfl, hy1⟩, hb1⟩
  have HY1 : Hid (PinsAt w1 y1 m) := hy1
  have HB1 : Hid (Below W.heap.size W w1) := hb1
  clear hy1 hb1
  go_wp2_with fail
  refine (parted_any _).mono ?_
  rintro e w2 ⟨rfl, hb2⟩
  have HY2 : Hid (PinsAt w2 y1 m) := HY1.out.below hb2
  have HB2 : Hid (Below W.heap.size W w2) := HB1.out.trans (hb2.mono HB1.out.size)
  clear hb2 HY1 HB1
  go_wp2_with fail
  refine (diff_any _ _ _ _ _ HY2.out (HP.out.below HB2.out)).mono ?_
  rintro e w3 ⟨⟨x1, rfl, hx1⟩, hb3⟩
  rw [HD.out] at hx1
  rw [HDE.out]
  have HY3 : Hid (PinsAt w3 y1 m) := HY2.out.below hb3
  have HB3 : Hid (Below W.heap.size W w3) := HB2.out.trans (hb3.mono HB2.out.size)
  obtain ⟨A, bs, os, cs, rfl, hS1, hS2⟩ := hx1.open
  clear hb3 HY2 HB2 hx1
  clear hS1 hS2
  go_wp2_with fail
  refine (equal_any _ _ _ _ _ (HP.out.below HB3.out) HY3.out).mono ?_
  rintro e w4 ⟨rfl, hb4⟩
  rw [show Lk.same a m = true from decide_eq_true HM.out.symm]
  have HY4 : Hid (PinsAt w4 y1 m) := HY3.out.below hb4
  have HB4 : Hid (Below W.heap.size W w4) := HB3.out.trans (hb4.mono HB3.out.size)
  clear hb4 HY3 HB3
  go_wp2_with fail
  refine (between_any _ _ _ _ _ _ _ (HP.out.below HB4.out) (HQ.out.below HB4.out) HY4.out).mono ?_
  rintro e w6 ⟨rfl, hb6⟩
  have HY6 : Hid (PinsAt w6 y1 m) := HY4.out.below hb6
  have HB6 : Hid (Below W.heap.size W w6) := HB4.out.trans (hb6.mono HB4.out.size)
  clear hb6 HY4 HB4
  go_wp2
  go_ret
  exact ⟨rfl, HB.out.trans (HB6.out.mono HB.out.size)⟩
set_option maxHeartbeats 8000000 in
theorem undone_nil_way (v u : Value) (a b : List (Int × Int)) (k n x : Int) (w : World) (hP : PinsAt w v a) (hQ : PinsAt w u b) (he : Dk.applyErr a (k, n, x) = 0) (hde : Dk.diffErr (Dk.applied a (k, n, x)) a = 0) (hd : Dk.diffed (Dk.applied a (k, n, x)) a = []) (hm : Dk.applied a (k, n, x) = a) (hz : Dk.betweenErr a b (Dk.applied a (k, n, x)) = 0) (hy : Dk.between a b (Dk.applied a (k, n, x)) ≠ -1) :
    Calls Try.prog 6 #[v, .agg #[.int .i64 k, .int .i64 n, .int .i64 x], u] w fun e w' => e = .returned (.bool true) ∧ Below w.heap.size w w' := by
  obtain ⟨W, hW⟩ : ∃ W, W = w.alloc (.cells #[.int .i64 k, .int .i64 n, .int .i64 x] 29) := ⟨_, rfl⟩
  have HW : Hid (W = w.alloc (.cells #[.int .i64 k, .int .i64 n, .int .i64 x] 29)) := hW
  have HB : Hid (Below w.heap.size w W) := by rw [hW]; exact (Below.refl _ w).alloc (Nat.le_refl _) _
  have HP : Hid (PinsAt W v a) := hP.below HB.out
  have HQ : Hid (PinsAt W u b) := hQ.below HB.out
  have HE : Hid (Dk.applyErr a (k, n, x) = 0) := he
  have HDE : Hid (Dk.diffErr (Dk.applied a (k, n, x)) a = 0) := hde
  have HD : Hid (Dk.diffed (Dk.applied a (k, n, x)) a = []) := hd
  have HM : Hid (Dk.applied a (k, n, x) = a) := hm
  have HZ : Hid (Dk.betweenErr a b (Dk.applied a (k, n, x)) = 0) := hz
  have hy' : (Dk.between a b (Dk.applied a (k, n, x)) != -1) = true := by simpa using hy
  clear hW hP hQ he hde hd hm hz hy
  have HC00 : ∀ W : World, PinsAt W v a → Calls Try.prog 9 #[v, .agg #[.int .i64 k, .int .i64 n, .int .i64 x]] W fun e w' => (∃ y, e = .returned (.tuple #[y, .int .i64 0]) ∧ PinsAt w' y (Dk.applied a (k, n, x))) ∧ Below W.heap.size W w' := fun W h => by
    have := apply_any v a k n x W h
    rwa [HE.out] at this
  clear HE
  generalize Dk.applied a (k, n, x) = m at *
  have HC0 : Hid (Calls Try.prog 9 #[v, .agg #[.int .i64 k, .int .i64 n, .int .i64 x]] W fun e w' => (∃ y, e = .returned (.tuple #[y, .int .i64 0]) ∧ PinsAt w' y m) ∧ Below W.heap.size W w') := HC00 W HP.out
  clear HC00
  go_enter Try.func6, Try.ntmps6
  go_wp2_with fail
  rw [← HW.out]
  refine HC0.out.mono ?_
  rintro e w1 ⟨⟨y1, rfl, hy1⟩, hb1⟩
  have HY1 : Hid (PinsAt w1 y1 m) := hy1
  have HB1 : Hid (Below W.heap.size W w1) := hb1
  clear hy1 hb1
  go_wp2_with fail
  refine (parted_any _).mono ?_
  rintro e w2 ⟨rfl, hb2⟩
  have HY2 : Hid (PinsAt w2 y1 m) := HY1.out.below hb2
  have HB2 : Hid (Below W.heap.size W w2) := HB1.out.trans (hb2.mono HB1.out.size)
  clear hb2 HY1 HB1
  go_wp2_with fail
  refine (diff_any _ _ _ _ _ HY2.out (HP.out.below HB2.out)).mono ?_
  rintro e w3 ⟨⟨x1, rfl, hx1⟩, hb3⟩
  rw [HD.out] at hx1
  rw [HDE.out]
  have HY3 : Hid (PinsAt w3 y1 m) := HY2.out.below hb3
  have HB3 : Hid (Below W.heap.size W w3) := HB2.out.trans (hb3.mono HB2.out.size)
  obtain ⟨A, bs, os, cs, rfl, hS1, hS2⟩ := hx1.open
  clear hb3 HY2 HB2 hx1
  clear hS1 hS2
  go_wp2_with fail
  refine (equal_any _ _ _ _ _ (HP.out.below HB3.out) HY3.out).mono ?_
  rintro e w4 ⟨rfl, hb4⟩
  rw [show Lk.same a m = true from decide_eq_true HM.out.symm]
  have HY4 : Hid (PinsAt w4 y1 m) := HY3.out.below hb4
  have HB4 : Hid (Below W.heap.size W w4) := HB3.out.trans (hb4.mono HB3.out.size)
  clear hb4 HY3 HB3
  go_wp2_with fail
  refine (between_any _ _ _ _ _ _ _ (HP.out.below HB4.out) (HQ.out.below HB4.out) HY4.out).mono ?_
  rintro e w6 ⟨rfl, hb6⟩
  have HY6 : Hid (PinsAt w6 y1 m) := HY4.out.below hb6
  have HB6 : Hid (Below W.heap.size W w6) := HB4.out.trans (hb6.mono HB4.out.size)
  clear hb6 HY4 HB4
  rw [HZ.out]
  go_wp2
  go_ret
  exact ⟨rfl, HB.out.trans (HB6.out.mono HB.out.size)⟩
set_option maxHeartbeats 8000000 in
theorem undone_one_err (v u : Value) (a b : List (Int × Int)) (k n x : Int) (w : World) (hP : PinsAt w v a) (hQ : PinsAt w u b) (he : Dk.applyErr a (k, n, x) = 0) (hde : Dk.diffErr (Dk.applied a (k, n, x)) a = 0) (q : Int × Int × Int) (hd : Dk.diffed (Dk.applied a (k, n, x)) a = [q]) (hq1 : Dk.applyErr (Dk.applied a (k, n, x)) q = 0) (hq2 : Dk.applied (Dk.applied a (k, n, x)) q = a) (hz : Dk.betweenErr a b (Dk.applied a (k, n, x)) ≠ 0) :
    Calls Try.prog 6 #[v, .agg #[.int .i64 k, .int .i64 n, .int .i64 x], u] w fun e w' => e = .returned (.bool true) ∧ Below w.heap.size w w' := by
  obtain ⟨W, hW⟩ : ∃ W, W = w.alloc (.cells #[.int .i64 k, .int .i64 n, .int .i64 x] 29) := ⟨_, rfl⟩
  have HW : Hid (W = w.alloc (.cells #[.int .i64 k, .int .i64 n, .int .i64 x] 29)) := hW
  have HB : Hid (Below w.heap.size w W) := by rw [hW]; exact (Below.refl _ w).alloc (Nat.le_refl _) _
  have HP : Hid (PinsAt W v a) := hP.below HB.out
  have HQ : Hid (PinsAt W u b) := hQ.below HB.out
  have HE : Hid (Dk.applyErr a (k, n, x) = 0) := he
  have HDE : Hid (Dk.diffErr (Dk.applied a (k, n, x)) a = 0) := hde
  have HD : Hid (Dk.diffed (Dk.applied a (k, n, x)) a = [q]) := hd
  have HQ1 : Hid (Dk.applyErr (Dk.applied a (k, n, x)) q = 0) := hq1
  have HQ2 : Hid (Dk.applied (Dk.applied a (k, n, x)) q = a) := hq2
  have hz' : (Dk.betweenErr a b (Dk.applied a (k, n, x)) != 0) = true := by simpa using hz
  clear hW hP hQ he hde hd hq1 hq2 hz
  have HC00 : ∀ W : World, PinsAt W v a → Calls Try.prog 9 #[v, .agg #[.int .i64 k, .int .i64 n, .int .i64 x]] W fun e w' => (∃ y, e = .returned (.tuple #[y, .int .i64 0]) ∧ PinsAt w' y (Dk.applied a (k, n, x))) ∧ Below W.heap.size W w' := fun W h => by
    have := apply_any v a k n x W h
    rwa [HE.out] at this
  clear HE
  generalize Dk.applied a (k, n, x) = m at *
  have HC0 : Hid (Calls Try.prog 9 #[v, .agg #[.int .i64 k, .int .i64 n, .int .i64 x]] W fun e w' => (∃ y, e = .returned (.tuple #[y, .int .i64 0]) ∧ PinsAt w' y m) ∧ Below W.heap.size W w') := HC00 W HP.out
  clear HC00
  go_enter Try.func6, Try.ntmps6
  go_wp2_with fail
  rw [← HW.out]
  refine HC0.out.mono ?_
  rintro e w1 ⟨⟨y1, rfl, hy1⟩, hb1⟩
  have HY1 : Hid (PinsAt w1 y1 m) := hy1
  have HB1 : Hid (Below W.heap.size W w1) := hb1
  clear hy1 hb1
  go_wp2_with fail
  refine (parted_any _).mono ?_
  rintro e w2 ⟨rfl, hb2⟩
  have HY2 : Hid (PinsAt w2 y1 m) := HY1.out.below hb2
  have HB2 : Hid (Below W.heap.size W w2) := HB1.out.trans (hb2.mono HB1.out.size)
  clear hb2 HY1 HB1
  go_wp2_with fail
  refine (diff_any _ _ _ _ _ HY2.out (HP.out.below HB2.out)).mono ?_
  rintro e w3 ⟨⟨x1, rfl, hx1⟩, hb3⟩
  rw [HD.out] at hx1
  rw [HDE.out]
  have HY3 : Hid (PinsAt w3 y1 m) := HY2.out.below hb3
  have HB3 : Hid (Below W.heap.size W w3) := HB2.out.trans (hb3.mono HB2.out.size)
  obtain ⟨A, bs, os, cs, rfl, hS1, hS2⟩ := hx1.open
  clear hb3 HY2 HB2 hx1
  obtain ⟨rfl, _, _⟩ := hS1 (by simp)
  obtain ⟨c0, c1, c2⟩ := hS2 0 (by simp)
  obtain ⟨q1, q2, q3⟩ := q
  simp only [List.getD_cons_zero, Nat.zero_mul, Nat.add_zero, List.length_cons, List.length_nil, Nat.zero_add] at c0 c1 c2 ⊢
  clear hS1 hS2
  go_wp2_with fail
  refine (apply_any _ _ q1 q2 q3 _ HY3.out).mono ?_
  rintro e w4 ⟨⟨y2, rfl, hy2⟩, hb4⟩
  rw [HQ2.out] at hy2
  rw [HQ1.out]
  have HV4 : Hid (PinsAt w4 y2 a) := hy2
  have HY4 : Hid (PinsAt w4 y1 m) := HY3.out.below hb4
  have HB4 : Hid (Below W.heap.size W w4) := HB3.out.trans (hb4.mono HB3.out.size)
  clear hb4 HY3 HB3 hy2 c0 c1 c2
  go_wp2_with fail
  refine (equal_any _ _ _ _ _ HV4.out (HP.out.below HB4.out)).mono ?_
  rintro e w5 ⟨rfl, hb5⟩
  rw [show Lk.same a a = true from decide_eq_true rfl]
  have HY5 : Hid (PinsAt w5 y1 m) := HY4.out.below hb5
  have HB5 : Hid (Below W.heap.size W w5) := HB4.out.trans (hb5.mono HB4.out.size)
  clear hb5 HY4 HB4 HV4
  go_wp2_with fail
  refine (between_any _ _ _ _ _ _ _ (HP.out.below HB5.out) (HQ.out.below HB5.out) HY5.out).mono ?_
  rintro e w6 ⟨rfl, hb6⟩
  have HY6 : Hid (PinsAt w6 y1 m) := HY5.out.below hb6
  have HB6 : Hid (Below W.heap.size W w6) := HB5.out.trans (hb6.mono HB5.out.size)
  clear hb6 HY5 HB5
  go_wp2
  go_ret
  exact ⟨rfl, HB.out.trans (HB6.out.mono HB.out.size)⟩
set_option maxHeartbeats 8000000 in
theorem undone_one_way (v u : Value) (a b : List (Int × Int)) (k n x : Int) (w : World) (hP : PinsAt w v a) (hQ : PinsAt w u b) (he : Dk.applyErr a (k, n, x) = 0) (hde : Dk.diffErr (Dk.applied a (k, n, x)) a = 0) (q : Int × Int × Int) (hd : Dk.diffed (Dk.applied a (k, n, x)) a = [q]) (hq1 : Dk.applyErr (Dk.applied a (k, n, x)) q = 0) (hq2 : Dk.applied (Dk.applied a (k, n, x)) q = a) (hz : Dk.betweenErr a b (Dk.applied a (k, n, x)) = 0) (hy : Dk.between a b (Dk.applied a (k, n, x)) ≠ -1) :
    Calls Try.prog 6 #[v, .agg #[.int .i64 k, .int .i64 n, .int .i64 x], u] w fun e w' => e = .returned (.bool true) ∧ Below w.heap.size w w' := by
  obtain ⟨W, hW⟩ : ∃ W, W = w.alloc (.cells #[.int .i64 k, .int .i64 n, .int .i64 x] 29) := ⟨_, rfl⟩
  have HW : Hid (W = w.alloc (.cells #[.int .i64 k, .int .i64 n, .int .i64 x] 29)) := hW
  have HB : Hid (Below w.heap.size w W) := by rw [hW]; exact (Below.refl _ w).alloc (Nat.le_refl _) _
  have HP : Hid (PinsAt W v a) := hP.below HB.out
  have HQ : Hid (PinsAt W u b) := hQ.below HB.out
  have HE : Hid (Dk.applyErr a (k, n, x) = 0) := he
  have HDE : Hid (Dk.diffErr (Dk.applied a (k, n, x)) a = 0) := hde
  have HD : Hid (Dk.diffed (Dk.applied a (k, n, x)) a = [q]) := hd
  have HQ1 : Hid (Dk.applyErr (Dk.applied a (k, n, x)) q = 0) := hq1
  have HQ2 : Hid (Dk.applied (Dk.applied a (k, n, x)) q = a) := hq2
  have HZ : Hid (Dk.betweenErr a b (Dk.applied a (k, n, x)) = 0) := hz
  have hy' : (Dk.between a b (Dk.applied a (k, n, x)) != -1) = true := by simpa using hy
  clear hW hP hQ he hde hd hq1 hq2 hz hy
  have HC00 : ∀ W : World, PinsAt W v a → Calls Try.prog 9 #[v, .agg #[.int .i64 k, .int .i64 n, .int .i64 x]] W fun e w' => (∃ y, e = .returned (.tuple #[y, .int .i64 0]) ∧ PinsAt w' y (Dk.applied a (k, n, x))) ∧ Below W.heap.size W w' := fun W h => by
    have := apply_any v a k n x W h
    rwa [HE.out] at this
  clear HE
  generalize Dk.applied a (k, n, x) = m at *
  have HC0 : Hid (Calls Try.prog 9 #[v, .agg #[.int .i64 k, .int .i64 n, .int .i64 x]] W fun e w' => (∃ y, e = .returned (.tuple #[y, .int .i64 0]) ∧ PinsAt w' y m) ∧ Below W.heap.size W w') := HC00 W HP.out
  clear HC00
  go_enter Try.func6, Try.ntmps6
  go_wp2_with fail
  rw [← HW.out]
  refine HC0.out.mono ?_
  rintro e w1 ⟨⟨y1, rfl, hy1⟩, hb1⟩
  have HY1 : Hid (PinsAt w1 y1 m) := hy1
  have HB1 : Hid (Below W.heap.size W w1) := hb1
  clear hy1 hb1
  go_wp2_with fail
  refine (parted_any _).mono ?_
  rintro e w2 ⟨rfl, hb2⟩
  have HY2 : Hid (PinsAt w2 y1 m) := HY1.out.below hb2
  have HB2 : Hid (Below W.heap.size W w2) := HB1.out.trans (hb2.mono HB1.out.size)
  clear hb2 HY1 HB1
  go_wp2_with fail
  refine (diff_any _ _ _ _ _ HY2.out (HP.out.below HB2.out)).mono ?_
  rintro e w3 ⟨⟨x1, rfl, hx1⟩, hb3⟩
  rw [HD.out] at hx1
  rw [HDE.out]
  have HY3 : Hid (PinsAt w3 y1 m) := HY2.out.below hb3
  have HB3 : Hid (Below W.heap.size W w3) := HB2.out.trans (hb3.mono HB2.out.size)
  obtain ⟨A, bs, os, cs, rfl, hS1, hS2⟩ := hx1.open
  clear hb3 HY2 HB2 hx1
  obtain ⟨rfl, _, _⟩ := hS1 (by simp)
  obtain ⟨c0, c1, c2⟩ := hS2 0 (by simp)
  obtain ⟨q1, q2, q3⟩ := q
  simp only [List.getD_cons_zero, Nat.zero_mul, Nat.add_zero, List.length_cons, List.length_nil, Nat.zero_add] at c0 c1 c2 ⊢
  clear hS1 hS2
  go_wp2_with fail
  refine (apply_any _ _ q1 q2 q3 _ HY3.out).mono ?_
  rintro e w4 ⟨⟨y2, rfl, hy2⟩, hb4⟩
  rw [HQ2.out] at hy2
  rw [HQ1.out]
  have HV4 : Hid (PinsAt w4 y2 a) := hy2
  have HY4 : Hid (PinsAt w4 y1 m) := HY3.out.below hb4
  have HB4 : Hid (Below W.heap.size W w4) := HB3.out.trans (hb4.mono HB3.out.size)
  clear hb4 HY3 HB3 hy2 c0 c1 c2
  go_wp2_with fail
  refine (equal_any _ _ _ _ _ HV4.out (HP.out.below HB4.out)).mono ?_
  rintro e w5 ⟨rfl, hb5⟩
  rw [show Lk.same a a = true from decide_eq_true rfl]
  have HY5 : Hid (PinsAt w5 y1 m) := HY4.out.below hb5
  have HB5 : Hid (Below W.heap.size W w5) := HB4.out.trans (hb5.mono HB4.out.size)
  clear hb5 HY4 HB4 HV4
  go_wp2_with fail
  refine (between_any _ _ _ _ _ _ _ (HP.out.below HB5.out) (HQ.out.below HB5.out) HY5.out).mono ?_
  rintro e w6 ⟨rfl, hb6⟩
  have HY6 : Hid (PinsAt w6 y1 m) := HY5.out.below hb6
  have HB6 : Hid (Below W.heap.size W w6) := HB5.out.trans (hb6.mono HB5.out.size)
  clear hb6 HY5 HB5
  rw [HZ.out]
  go_wp2
  go_ret
  exact ⟨rfl, HB.out.trans (HB6.out.mono HB.out.size)⟩
set_option maxHeartbeats 8000000 in
theorem undone_one_not (v u : Value) (a b : List (Int × Int)) (k n x : Int) (w : World) (hP : PinsAt w v a) (hQ : PinsAt w u b) (he : Dk.applyErr a (k, n, x) = 0) (hde : Dk.diffErr (Dk.applied a (k, n, x)) a = 0) (q : Int × Int × Int) (hd : Dk.diffed (Dk.applied a (k, n, x)) a = [q]) (hq1 : Dk.applyErr (Dk.applied a (k, n, x)) q = 0) (hq2 : Dk.applied (Dk.applied a (k, n, x)) q = a) (hz : Dk.betweenErr a b (Dk.applied a (k, n, x)) = 0) (hy : Dk.between a b (Dk.applied a (k, n, x)) = -1) (hn1 : Dk.applied a (k, n, x) ≠ a) (hn2 : Dk.applied a (k, n, x) ≠ b) :
    Calls Try.prog 6 #[v, .agg #[.int .i64 k, .int .i64 n, .int .i64 x], u] w fun e w' => e = .returned (.bool true) ∧ Below w.heap.size w w' := by
  obtain ⟨W, hW⟩ : ∃ W, W = w.alloc (.cells #[.int .i64 k, .int .i64 n, .int .i64 x] 29) := ⟨_, rfl⟩
  have HW : Hid (W = w.alloc (.cells #[.int .i64 k, .int .i64 n, .int .i64 x] 29)) := hW
  have HB : Hid (Below w.heap.size w W) := by rw [hW]; exact (Below.refl _ w).alloc (Nat.le_refl _) _
  have HP : Hid (PinsAt W v a) := hP.below HB.out
  have HQ : Hid (PinsAt W u b) := hQ.below HB.out
  have HE : Hid (Dk.applyErr a (k, n, x) = 0) := he
  have HDE : Hid (Dk.diffErr (Dk.applied a (k, n, x)) a = 0) := hde
  have HD : Hid (Dk.diffed (Dk.applied a (k, n, x)) a = [q]) := hd
  have HQ1 : Hid (Dk.applyErr (Dk.applied a (k, n, x)) q = 0) := hq1
  have HQ2 : Hid (Dk.applied (Dk.applied a (k, n, x)) q = a) := hq2
  have HZ : Hid (Dk.betweenErr a b (Dk.applied a (k, n, x)) = 0) := hz
  have HY : Hid (Dk.between a b (Dk.applied a (k, n, x)) = -1) := hy
  have HN1 : Hid (Lk.same (Dk.applied a (k, n, x)) a = false) := decide_eq_false hn1
  have HN2 : Hid (Lk.same (Dk.applied a (k, n, x)) b = false) := decide_eq_false hn2
  clear hW hP hQ he hde hd hq1 hq2 hz hy hn1 hn2
  have HC00 : ∀ W : World, PinsAt W v a → Calls Try.prog 9 #[v, .agg #[.int .i64 k, .int .i64 n, .int .i64 x]] W fun e w' => (∃ y, e = .returned (.tuple #[y, .int .i64 0]) ∧ PinsAt w' y (Dk.applied a (k, n, x))) ∧ Below W.heap.size W w' := fun W h => by
    have := apply_any v a k n x W h
    rwa [HE.out] at this
  clear HE
  generalize Dk.applied a (k, n, x) = m at *
  have HC0 : Hid (Calls Try.prog 9 #[v, .agg #[.int .i64 k, .int .i64 n, .int .i64 x]] W fun e w' => (∃ y, e = .returned (.tuple #[y, .int .i64 0]) ∧ PinsAt w' y m) ∧ Below W.heap.size W w') := HC00 W HP.out
  clear HC00
  go_enter Try.func6, Try.ntmps6
  go_wp2_with fail
  rw [← HW.out]
  refine HC0.out.mono ?_
  rintro e w1 ⟨⟨y1, rfl, hy1⟩, hb1⟩
  have HY1 : Hid (PinsAt w1 y1 m) := hy1
  have HB1 : Hid (Below W.heap.size W w1) := hb1
  clear hy1 hb1
  go_wp2_with fail
  refine (parted_any _).mono ?_
  rintro e w2 ⟨rfl, hb2⟩
  have HY2 : Hid (PinsAt w2 y1 m) := HY1.out.below hb2
  have HB2 : Hid (Below W.heap.size W w2) := HB1.out.trans (hb2.mono HB1.out.size)
  clear hb2 HY1 HB1
  go_wp2_with fail
  refine (diff_any _ _ _ _ _ HY2.out (HP.out.below HB2.out)).mono ?_
  rintro e w3 ⟨⟨x1, rfl, hx1⟩, hb3⟩
  rw [HD.out] at hx1
  rw [HDE.out]
  have HY3 : Hid (PinsAt w3 y1 m) := HY2.out.below hb3
  have HB3 : Hid (Below W.heap.size W w3) := HB2.out.trans (hb3.mono HB2.out.size)
  obtain ⟨A, bs, os, cs, rfl, hS1, hS2⟩ := hx1.open
  clear hb3 HY2 HB2 hx1
  obtain ⟨rfl, _, _⟩ := hS1 (by simp)
  obtain ⟨c0, c1, c2⟩ := hS2 0 (by simp)
  obtain ⟨q1, q2, q3⟩ := q
  simp only [List.getD_cons_zero, Nat.zero_mul, Nat.add_zero, List.length_cons, List.length_nil, Nat.zero_add] at c0 c1 c2 ⊢
  clear hS1 hS2
  go_wp2_with fail
  refine (apply_any _ _ q1 q2 q3 _ HY3.out).mono ?_
  rintro e w4 ⟨⟨y2, rfl, hy2⟩, hb4⟩
  rw [HQ2.out] at hy2
  rw [HQ1.out]
  have HV4 : Hid (PinsAt w4 y2 a) := hy2
  have HY4 : Hid (PinsAt w4 y1 m) := HY3.out.below hb4
  have HB4 : Hid (Below W.heap.size W w4) := HB3.out.trans (hb4.mono HB3.out.size)
  clear hb4 HY3 HB3 hy2 c0 c1 c2
  go_wp2_with fail
  refine (equal_any _ _ _ _ _ HV4.out (HP.out.below HB4.out)).mono ?_
  rintro e w5 ⟨rfl, hb5⟩
  rw [show Lk.same a a = true from decide_eq_true rfl]
  have HY5 : Hid (PinsAt w5 y1 m) := HY4.out.below hb5
  have HB5 : Hid (Below W.heap.size W w5) := HB4.out.trans (hb5.mono HB4.out.size)
  clear hb5 HY4 HB4 HV4
  go_wp2_with fail
  refine (between_any _ _ _ _ _ _ _ (HP.out.below HB5.out) (HQ.out.below HB5.out) HY5.out).mono ?_
  rintro e w6 ⟨rfl, hb6⟩
  have HY6 : Hid (PinsAt w6 y1 m) := HY5.out.below hb6
  have HB6 : Hid (Below W.heap.size W w6) := HB5.out.trans (hb6.mono HB5.out.size)
  clear hb6 HY5 HB5
  rw [HZ.out, HY.out]
  go_wp2_with fail
  refine (equal_any _ _ _ _ _ HY6.out (HP.out.below HB6.out)).mono ?_
  rintro e w7 ⟨rfl, hb7⟩
  rw [HN1.out]
  have HY7 : Hid (PinsAt w7 y1 m) := HY6.out.below hb7
  have HB7 : Hid (Below W.heap.size W w7) := HB6.out.trans (hb7.mono HB6.out.size)
  clear hb7 HY6 HB6
  go_wp2_with fail
  refine (equal_any _ _ _ _ _ HY7.out (HQ.out.below HB7.out)).mono ?_
  rintro e w8 ⟨rfl, hb8⟩
  rw [HN2.out]
  have HB8 : Hid (Below W.heap.size W w8) := HB7.out.trans (hb8.mono HB7.out.size)
  clear hb8 HY7 HB7
  go_wp2
  go_ret
  exact ⟨rfl, HB.out.trans (HB8.out.mono HB.out.size)⟩
theorem undone_any (v u : Value) (a b : List (Int × Int)) (k n x : Int) (w : World) (hP : PinsAt w v a) (hQ : PinsAt w u b) :
    Calls Try.prog 6 #[v, .agg #[.int .i64 k, .int .i64 n, .int .i64 x], u] w fun e w' => e = .returned (.bool true) ∧ Below w.heap.size w w' := by
  by_cases he : Dk.applyErr a (k, n, x) = 0
  · obtain ⟨_, hde, h | ⟨q, hd, hq1, hq2⟩⟩ := Dk.undo_lock he
    · obtain ⟨hd, hm⟩ := h
      by_cases hz : Dk.betweenErr a b (Dk.applied a (k, n, x)) = 0
      · by_cases hy : Dk.between a b (Dk.applied a (k, n, x)) = -1
        · exact absurd hm (Dk.between_not hz hy).1
        · exact undone_nil_way v u a b k n x w hP hQ he hde hd hm hz hy
      · exact undone_nil_err v u a b k n x w hP hQ he hde hd hm hz
    · by_cases hz : Dk.betweenErr a b (Dk.applied a (k, n, x)) = 0
      · by_cases hy : Dk.between a b (Dk.applied a (k, n, x)) = -1
        · obtain ⟨h1, h2⟩ := Dk.between_not hz hy
          exact undone_one_not v u a b k n x w hP hQ he hde q hd hq1 hq2 hz hy h1 h2
        · exact undone_one_way v u a b k n x w hP hQ he hde q hd hq1 hq2 hz hy
      · exact undone_one_err v u a b k n x w hP hQ he hde q hd hq1 hq2 hz
  · exact undone_bad v u a k n x w hP he
end Go.Proofs.Ytjedjanlmjolkaa
