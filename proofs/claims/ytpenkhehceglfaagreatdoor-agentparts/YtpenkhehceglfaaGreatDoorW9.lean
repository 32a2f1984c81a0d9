/- The contract of the document's LockText. -/
import Derived.Test.YtpenkhehceglfaaGreatDoorMC
import Derived.BigQuiet
import Derived.Deep.QuietTactic
namespace Go.Proofs.YtpenkhehceglfaaGreatDoor
open Go.RowKit
theorem chkFrom_ok (l : List (Int × Int)) (last : Int) (h : Lk.chkFrom last l = 0) : ∀ p ∈ l, (1 ≤ p.1 ∧ p.1 ≤ 20) ∧ (1 ≤ p.2 ∧ p.2 ≤ 99) := by
  induction l generalizing last with
  | nil => intro p hp; cases hp
  | cons q r ih =>
    rw [Lk.chkFrom] at h
    by_cases hq : Lk.okPin q = true
    · rw [if_pos hq] at h
      by_cases h6 : q.1 ≤ last
      · rw [if_pos h6] at h; cases h
      · rw [if_neg h6] at h
        intro p hp
        rcases List.mem_cons.1 hp with rfl | hp
        · simpa [Lk.okPin, and_assoc] using hq
        · exact ih _ h p hp
    · rw [if_neg hq] at h; cases h
theorem chk_ok {l : List (Int × Int)} (h : Lk.chk l = 0) : l.length ≤ 12 ∧ ∀ p ∈ l, (1 ≤ p.1 ∧ p.1 ≤ 20) ∧ (1 ≤ p.2 ∧ p.2 ≤ 99) := by
  unfold Lk.chk at h
  by_cases hl : 12 < l.length
  · rw [if_pos hl] at h; cases h
  · rw [if_neg hl] at h
    exact ⟨by omega, chkFrom_ok l 0 h⟩
theorem dec_len (n : Nat) (h : n < 100) : (Lib.decDigits n).length ≤ 2 := by
  by_cases h1 : n < 10
  · rw [Lib.decDigits_one h1]; simp
  · rw [Lib.decDigits_two h1 h]; simp
/-- the text of the first k pins -/
def textTo (l : List (Int × Int)) (k : Nat) : List UInt8 := Lib.join ((l.take k).map Lk.pinText) [44]
theorem textTo_zero (l : List (Int × Int)) : textTo l 0 = [] := by simp [textTo, Lib.join]
theorem inter_snoc (sep : List UInt8) (a : List (List UInt8)) (x : List UInt8) (h : a ≠ []) : sep.intercalate (a ++ [x]) = sep.intercalate a ++ sep ++ x := by
  induction a with
  | nil => exact absurd rfl h
  | cons y r ih =>
    cases r with
    | nil => simp [List.intercalate, List.intersperse]
    | cons z r =>
      have := ih (by simp)
      simp only [List.cons_append, List.intercalate, List.intersperse, List.flatten_cons] at this ⊢
      rw [this]
      simp
theorem textTo_first (l : List (Int × Int)) (p : Int × Int) (h : l[0]? = some p) : textTo l 1 = Lk.pinText p := by
  unfold textTo
  rw [List.take_add_one, h]
  simp [Lib.join, List.intercalate]
theorem textTo_next (l : List (Int × Int)) (k : Nat) (hk : 0 < k) (p : Int × Int) (h : l[k]? = some p) : textTo l (k + 1) = textTo l k ++ [44] ++ Lk.pinText p := by
  unfold textTo
  rw [List.take_add_one, h]
  simp only [Option.toList, List.map_append, List.map_cons, List.map_nil, Lib.join]
  refine inter_snoc _ _ _ ?_
  intro e
  have hl := congrArg List.length e
  simp at hl
  have : k < l.length := (List.getElem?_eq_some_iff.1 h).1
  rcases hl with h | h
  · omega
  · subst h; simp at this
theorem textTo_all (l : List (Int × Int)) : textTo l l.length = Lk.text l := by unfold textTo Lk.text; rw [List.take_length]
theorem str_more (t a b : List UInt8) : (⟨t.toArray⟩ : ByteArray) ++ ⟨#[44]⟩ ++ (⟨a.toArray⟩ ++ ⟨#[64]⟩ ++ ⟨b.toArray⟩) = ⟨(t ++ [44] ++ (a ++ 64 :: b)).toArray⟩ := by
  apply WideShapes.bytes_inj; simp
theorem str_first (a b : List UInt8) : (⟨#[]⟩ : ByteArray) ++ (⟨a.toArray⟩ ++ ⟨#[64]⟩ ++ ⟨b.toArray⟩) = ⟨(a ++ 64 :: b).toArray⟩ := by
  apply WideShapes.bytes_inj; simp
end Go.Proofs.YtpenkhehceglfaaGreatDoor
