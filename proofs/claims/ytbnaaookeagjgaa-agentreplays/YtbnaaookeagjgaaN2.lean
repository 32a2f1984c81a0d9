/- Contracts of note.useOf, the closure of note.Check, note.hasUnused, note.Check. -/
import Derived.Test.YtbnaaookeagjgaaN1
namespace Go.Proofs.Ytbnaaookeagjgaa
open Go.RowKit
/-- what a kind has a use for, by place -/
def useL (k : Int) : List Bool := [true, Lk.uA k, Lk.uT k, Lk.uN k, Lk.uG k, Lk.uR k]
def useV (k : Int) : Value := .agg ((useL k).map Value.bool).toArray
theorem kind_cases (k : Int) : k = 1 ∨ k = 2 ∨ k = 3 ∨ k = 4 ∨ k = 5 ∨ k = 6 ∨ k = 7 ∨ ((k == 1) = false ∧ (k == 2) = false ∧ (k == 3) = false ∧ (k == 4) = false ∧ (k == 5) = false ∧ (k == 6) = false ∧ (k == 7) = false) := by
  simp only [beq_eq_false_iff_ne]; omega
theorem use_none {k : Int} (h1 : (k == 1) = false) (h2 : (k == 2) = false) (h3 : (k == 3) = false) (h4 : (k == 4) = false) (h5 : (k == 5) = false) (h6 : (k == 6) = false) (h7 : (k == 7) = false) : useL k = [true, false, false, false, false, false] := by
  simp [useL, Lk.uA, Lk.uT, Lk.uN, Lk.uG, Lk.uR, h1, h2, h3, h4, h5, h6, h7]
set_option maxHeartbeats 2000000 in
theorem useOf_any (k : Int) (w : World) :
    Calls Try.prog 43 #[.int .i64 k] w fun e w' => e = .returned (useV k) ∧ Below w.heap.size w w' := by
  have HB : Hid (∀ o, Below w.heap.size w (w.alloc o)) := fun o => ((Below.refl _ w).alloc (Nat.le_refl _) o)
  unfold useV
  rcases kind_cases k with rfl | rfl | rfl | rfl | rfl | rfl | rfl | ⟨h1, h2, h3, h4, h5, h6, h7⟩
  iterate 7
    · go_enter Try.func43, Try.ntmps43
      go_wp2
      refine bodyPost_ret (v := .agg ((useL _).map Value.bool).toArray) (by simp [results, Try.results43, go_sem]; rfl) rfl ⟨rfl, HB.out _⟩
  · rw [use_none h1 h2 h3 h4 h5 h6 h7]
    go_enter Try.func43, Try.ntmps43
    go_wp2
    refine bodyPost_ret (v := .agg ([true, false, false, false, false, false].map Value.bool).toArray) (by simp [results, Try.results43, go_sem]) rfl ⟨rfl, HB.out _⟩
theorem within_yes {n a b : Int} (h1 : a ≤ n) (h2 : n ≤ b) : Lk.within n a b = true := by simp [Lk.within, h1, h2]
theorem within_hi {n a b : Int} (h2 : ¬ n ≤ b) : Lk.within n a b = false := by simp [Lk.within, h2]
theorem within_lo {n a b : Int} (h1 : ¬ a ≤ n) : Lk.within n a b = false := by simp [Lk.within, h1]
/-- the closure: a number is used, and isn't from 1 to the most -/
theorem bad_any (p : Nat) (hp : p < 6) (n most : Int) (u : Bool) (g : Nat) (w : World) (hg : w.cell? ⟨g, p, none⟩ = some (.bool u)) :
    Calls Try.prog 44 #[.int .i64 p, .int .i64 n, .int .i64 most, .pointer (some ⟨g, 0, none⟩)] w fun e w' => e = .returned (.bool (u && !Lk.within n 1 most)) ∧ Below w.heap.size w w' := by
  have hp' : (p : Int) < 6 := by omega
  have HB : Hid (Below w.heap.size w w) := Below.refl _ w
  cases u
  · go_enter Try.func44, Try.ntmps44
    go_wp2
    go_ret
    exact ⟨rfl, HB.out⟩
  · by_cases h1 : 1 ≤ n
    · by_cases h2 : n ≤ most
      · have HW : Hid (Lk.within n 1 most = true) := within_yes h1 h2
        go_enter Try.func44, Try.ntmps44
        go_wp2
        go_ret
        exact ⟨by rw [HW.out]; rfl, HB.out⟩
      · have HW : Hid (Lk.within n 1 most = false) := within_hi h2
        have h2' : decide (n ≤ most) = false := decide_eq_false h2
        clear h2
        go_enter Try.func44, Try.ntmps44
        go_wp2
        go_ret
        exact ⟨by rw [HW.out]; rfl, HB.out⟩
    · have HW : Hid (Lk.within n 1 most = false) := within_lo h1
      have h1' : n < 1 := by omega
      clear h1
      go_enter Try.func44, Try.ntmps44
      go_wp2
      go_ret
      exact ⟨by rw [HW.out]; rfl, HB.out⟩
end Go.Proofs.Ytbnaaookeagjgaa
