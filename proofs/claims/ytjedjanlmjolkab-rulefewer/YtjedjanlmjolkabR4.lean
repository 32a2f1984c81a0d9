/- What package rule's functions are asked for, in one word; the closed fact 'ruled' and the walk of RuleSays out of it. -/
import Derived.Test.YtjedjanlmjolkabR3
import Derived.Test.YtjedjanlmjolkabPins
import Derived.Test.YtjedjanlmjolkabW2
import Derived.Test.YtjedjanlmjolkabW3
namespace Go.Proofs.Ytjedjanlmjolkab
open Go.RowKit
/-- the contracts of package rule -/
structure RuleC : Prop where
  check : ∀ (v : Value) (l : List Rk.Rl) (w : World), RulesAt w v l → Calls Try.prog 11 #[v] w fun e w' => e = .returned (.int .i64 (Rk.rchk l)) ∧ Below w.heap.size w w'
  broken : ∀ (v u : Value) (a : List (Int × Int)) (r : List Rk.Rl) (w : World), PinsAt w v a → RulesAt w u r → Calls Try.prog 6 #[v, u] w fun e w' => e = .returned (.tuple #[.int .i64 (Rk.broken a r), .int .i64 (Rk.brokenErr a r)]) ∧ Below w.heap.size w w'
  mend : ∀ (v u : Value) (a : List (Int × Int)) (r : List Rk.Rl) (w : World), PinsAt w v a → RulesAt w u r → Calls Try.prog 7 #[v, u] w fun e w' => (∃ y, e = .returned (.tuple #[y, .int .i64 (Rk.mendErr a r)]) ∧ PinsAt w' y (Rk.mended a r)) ∧ Below w.heap.size w w'
/-- two rules, as 'ruled' lays them -/
def twoR : List Rk.Rl := [(1, 2, 3, 5), (3, 4, 6, 1)]
theorem rl_new (w : World) (t : TypeId) : RulesAt (w.alloc (.cells #[.int .i64 1, .int .i64 2, .int .i64 3, .int .i64 5, .int .i64 3, .int .i64 4, .int .i64 6, .int .i64 1] t)) (.slice (some ⟨w.heap.size, 0, none⟩) 2 2) twoR := by
  refine ⟨by decide, some ⟨w.heap.size, 0, none⟩, w.heap.size, 0, 2, rfl, by decide, fun _ => ⟨rfl, by simp⟩, fun j hj => ?_⟩
  rcases j with _ | _ | j
  · simp [go_sem, twoR]
  · simp [go_sem, twoR]
  · simp [twoR] at hj; omega
theorem rl_b : Rk.broken [(1, 2), (3, 1)] twoR = 0 := by decide +kernel
theorem rl_be : Rk.brokenErr [(1, 2), (3, 1)] twoR = 0 := by decide +kernel
theorem rl_m : Rk.mended [(1, 2), (3, 1)] twoR = [(1, 2), (3, 5), (6, 1)] := by decide +kernel
theorem rl_me : Rk.mendErr [(1, 2), (3, 1)] twoR = 0 := by decide +kernel
theorem rl_b2 : Rk.broken [(1, 2), (3, 5), (6, 1)] twoR = -1 := by decide +kernel
theorem rl_be2 : Rk.brokenErr [(1, 2), (3, 5), (6, 1)] twoR = 0 := by decide +kernel
set_option maxHeartbeats 4000000 in
theorem ruled_any (C : RuleC) (w : World) : Calls Try.prog 10 #[] w fun e w' => e = .returned (.bool true) ∧ Below w.heap.size w w' := by
  obtain ⟨W, hW⟩ : ∃ W, W = (w.alloc (.cells #[.int .i64 1, .int .i64 2, .int .i64 3, .int .i64 5, .int .i64 3, .int .i64 4, .int .i64 6, .int .i64 1] 39)).alloc (.cells #[.int .i64 1, .int .i64 2, .int .i64 3, .int .i64 1] 33) := ⟨_, rfl⟩
  have HW : Hid (W = (w.alloc (.cells #[.int .i64 1, .int .i64 2, .int .i64 3, .int .i64 5, .int .i64 3, .int .i64 4, .int .i64 6, .int .i64 1] 39)).alloc (.cells #[.int .i64 1, .int .i64 2, .int .i64 3, .int .i64 1] 33)) := hW
  have HB : Hid (Below w.heap.size w W) := by rw [hW]; exact ((Below.refl _ w).alloc (Nat.le_refl _) _).alloc (by simp) _
  have HR : Hid (RulesAt W (.slice (some ⟨w.heap.size, 0, none⟩) 2 2) twoR) := by
    rw [hW]; exact (rl_new w 39).below ((Below.refl _ _).alloc (Nat.le_refl _) _)
  have HL : Hid (PinsAt W (.slice (some ⟨w.heap.size + 1, 0, none⟩) 2 2) [(1, 2), (3, 1)]) := by
    have := pinsNew (w.alloc (.cells #[.int .i64 1, .int .i64 2, .int .i64 3, .int .i64 5, .int .i64 3, .int .i64 4, .int .i64 6, .int .i64 1] 39)) [(1, 2), (3, 1)] 33 (by decide)
    rw [World.size_alloc] at this
    rw [hW]; exact this
  clear hW
  go_enter Try.func10, Try.ntmps10
  go_wp2_with fail
  rw [← HW.out]
  refine (C.broken _ _ _ _ _ HL.out HR.out).mono ?_
  rintro e w1 ⟨rfl, hb1⟩
  rw [rl_b, rl_be]
  have HB1 : Hid (Below W.heap.size W w1) := hb1
  clear hb1
  go_wp2_with fail
  refine (C.mend _ _ _ _ _ (HL.out.below HB1.out) (HR.out.below HB1.out)).mono ?_
  rintro e w2 ⟨⟨y, rfl, hy⟩, hb2⟩
  rw [rl_m] at hy
  rw [rl_me]
  have HY2 : Hid (PinsAt w2 y [(1, 2), (3, 5), (6, 1)]) := hy
  have HB2 : Hid (Below W.heap.size W w2) := HB1.out.trans (hb2.mono HB1.out.size)
  clear hb2 hy HB1
  go_wp2_with fail
  refine (C.broken _ _ _ _ _ HY2.out (HR.out.below HB2.out)).mono ?_
  rintro e w3 ⟨rfl, hb3⟩
  rw [rl_b2, rl_be2]
  have HY3 : Hid (PinsAt (w3.alloc (.cells #[.int .i64 1, .int .i64 2, .int .i64 3, .int .i64 5, .int .i64 6, .int .i64 1] 33)) y [(1, 2), (3, 5), (6, 1)]) := (HY2.out.below hb3).below ((Below.refl _ _).alloc (Nat.le_refl _) _)
  have HB3 : Hid (Below W.heap.size W w3) := HB2.out.trans (hb3.mono HB2.out.size)
  clear hb3 HY2 HB2
  go_wp2_with fail
  refine (equal_any _ _ _ _ _ HY3.out (pinsNew w3 [(1, 2), (3, 5), (6, 1)] 33 (by decide))).mono ?_
  rintro e w4 ⟨rfl, hb4⟩
  rw [show Lk.same [(1, 2), (3, 5), (6, 1)] [(1, 2), (3, 5), (6, 1)] = true from by decide]
  have HB4 : Hid (Below W.heap.size W w4) := (HB3.out.alloc HB3.out.size _).trans (hb4.mono (by simp only [World.size_alloc]; have := HB3.out.size; omega))
  clear hb4
  go_wp2
  go_ret
  exact ⟨rfl, HB.out.trans (HB4.out.mono HB.out.size)⟩
set_option maxHeartbeats 8000000 in
theorem rsays_any (C : RuleC) (v u : Value) (a : List (Int × Int)) (r : List Rk.Rl) (w : World) (hP : PinsAt w v a) (hR : RulesAt w u r) :
    Calls Try.prog 3 #[v, u] w fun e w' => e = .returned (.bool true) ∧ Below w.heap.size w w' := by
  have HP : Hid (PinsAt w v a) := hP
  have HR : Hid (RulesAt w u r) := hR
  clear hP hR
  go_enter Try.func3, Try.ntmps3
  go_wp2_with fail
  refine (C.broken _ _ _ _ _ HP.out HR.out).mono ?_
  rintro e w1 ⟨rfl, hb1⟩
  have HB1 : Hid (Below w.heap.size w w1) := hb1
  clear hb1
  go_wp2_with fail
  refine (C.mend _ _ _ _ _ (HP.out.below HB1.out) (HR.out.below HB1.out)).mono ?_
  rintro e w2 ⟨⟨y1, rfl, hy⟩, hb2⟩
  have HY2 : Hid (PinsAt w2 y1 (Rk.mended a r)) := hy
  have HB2 : Hid (Below w.heap.size w w2) := HB1.out.trans (hb2.mono HB1.out.size)
  clear hb2 hy HB1
  go_wp2_with fail
  refine (fbroken_any _ _ _ _ _ (HP.out.below HB2.out) (HR.out.below HB2.out)).mono ?_
  rintro e w3 ⟨rfl, hb3⟩
  have HY3 : Hid (PinsAt w3 y1 (Rk.mended a r)) := HY2.out.below hb3
  have HB3 : Hid (Below w.heap.size w w3) := HB2.out.trans (hb3.mono HB2.out.size)
  clear hb3 HY2 HB2
  go_wp2_with fail
  refine (mendedR_any _ _ _ _ _ (HP.out.below HB3.out) (HR.out.below HB3.out)).mono ?_
  rintro e w4 ⟨⟨y2, rfl, hy⟩, hb4⟩
  have HZ4 : Hid (PinsAt w4 y2 (Rk.mended a r)) := hy
  have HY4 : Hid (PinsAt w4 y1 (Rk.mended a r)) := HY3.out.below hb4
  have HB4 : Hid (Below w.heap.size w w4) := HB3.out.trans (hb4.mono HB3.out.size)
  clear hb4 hy HY3 HB3
  go_wp2_with fail
  refine (ruled_any C _).mono ?_
  rintro e w5 ⟨rfl, hb5⟩
  have HZ5 : Hid (PinsAt w5 y2 (Rk.mended a r)) := HZ4.out.below hb5
  have HY5 : Hid (PinsAt w5 y1 (Rk.mended a r)) := HY4.out.below hb5
  have HB5 : Hid (Below w.heap.size w w5) := HB4.out.trans (hb5.mono HB4.out.size)
  clear hb5 HY4 HZ4 HB4
  go_wp2_with fail
  refine (C.check _ _ _ (HR.out.below HB5.out)).mono ?_
  rintro e w6 ⟨rfl, hb6⟩
  have HZ6 : Hid (PinsAt w6 y2 (Rk.mended a r)) := HZ5.out.below hb6
  have HY6 : Hid (PinsAt w6 y1 (Rk.mended a r)) := HY5.out.below hb6
  have HB6 : Hid (Below w.heap.size w w6) := HB5.out.trans (hb6.mono HB5.out.size)
  clear hb6 HY5 HZ5 HB5
  go_wp2_with fail
  refine (rcheckR_any _ _ _ (HR.out.below HB6.out)).mono ?_
  rintro e w7 ⟨rfl, hb7⟩
  have HZ7 : Hid (PinsAt w7 y2 (Rk.mended a r)) := HZ6.out.below hb7
  have HY7 : Hid (PinsAt w7 y1 (Rk.mended a r)) := HY6.out.below hb7
  have HB7 : Hid (Below w.heap.size w w7) := HB6.out.trans (hb7.mono HB6.out.size)
  clear hb7 HY6 HZ6 HB6
  go_wp2_with fail
  refine (equal_any _ _ _ _ _ HY7.out HZ7.out).mono ?_
  rintro e w8 ⟨rfl, hb8⟩
  rw [show Lk.same (Rk.mended a r) (Rk.mended a r) = true from decide_eq_true rfl]
  have HB8 : Hid (Below w.heap.size w w8) := HB7.out.trans (hb8.mono HB7.out.size)
  clear hb8
  go_wp2
  go_ret
  exact ⟨rfl, HB8.out⟩
end Go.Proofs.Ytjedjanlmjolkab
