/- Steps, one after the other, as cells: slices of steps, and what a slice of them that was appended to owns. -/
import Derived.Test.YtpenkhehceglfaaGreatDoorMH
namespace Go.Proofs.YtpenkhehceglfaaGreatDoor
open Go.RowKit
/-- the cells of a slice of steps, not empty -/
def OpCells (w : World) (b o : Nat) (l : List (Int × Int × Int)) : Prop :=
  b < w.heap.size ∧ ∀ j, j < l.length → w.cell? ⟨b, o + j * 3, none⟩ = some (.int .i64 (l.getD j (0, 0, 0)).1) ∧ w.cell? ⟨b, o + j * 3 + 1, none⟩ = some (.int .i64 (l.getD j (0, 0, 0)).2.1) ∧ w.cell? ⟨b, o + j * 3 + 2, none⟩ = some (.int .i64 (l.getD j (0, 0, 0)).2.2)
theorem OpCells.below {w w' : World} {b o : Nat} {l : List (Int × Int × Int)} (h : OpCells w b o l) (hb : Below w.heap.size w w') : OpCells w' b o l :=
  ⟨Nat.lt_of_lt_of_le h.1 hb.size, fun j hj => ⟨(hb.cell (p := ⟨b, o + j * 3, none⟩) h.1).trans (h.2 j hj).1, (hb.cell (p := ⟨b, o + j * 3 + 1, none⟩) h.1).trans (h.2 j hj).2.1, (hb.cell (p := ⟨b, o + j * 3 + 2, none⟩) h.1).trans (h.2 j hj).2.2⟩⟩
/-- a slice of steps, the empty and the nil one too -/
def OpsAt (w : World) (v : Value) (l : List (Int × Int × Int)) : Prop :=
  l.length ≤ 70368744177664 ∧ ∃ c, (l = [] ∧ ∃ a, v = .slice a 0 c) ∨ (∃ b o, v = .slice (some ⟨b, o, none⟩) l.length c ∧ l.length ≤ c ∧ OpCells w b o l)
theorem OpsAt.below {w w' : World} {v : Value} {l : List (Int × Int × Int)} (h : OpsAt w v l) (hb : Below w.heap.size w w') : OpsAt w' v l := by
  obtain ⟨hl, c, h | ⟨b, o, h1, h3, h2⟩⟩ := h
  · exact ⟨hl, c, .inl h⟩
  · exact ⟨hl, c, .inr ⟨b, o, h1, h3, h2.below hb⟩⟩
theorem ops_none (w : World) : OpsAt w (.slice none 0 0) [] := ⟨by simp, 0, .inl ⟨rfl, none, rfl⟩⟩
theorem dropO_getD (l : List (Int × Int × Int)) (k : Nat) (h : k < l.length) : l.drop k = l.getD k (0, 0, 0) :: l.drop (k + 1) := by
  rw [List.drop_eq_getElem_cons h, List.getD_eq_getElem?_getD, List.getElem?_eq_getElem h]; rfl
theorem Tryz.info70 : (Tryz.prog.info? 70).map (fun i => (i.zero, i.size, i.bytes)) = some (some (.agg #[.int .i64 0, .int .i64 0, .int .i64 0]), 3, 24) := by kernel_rfl
/-- the cells of steps, one after the other -/
def flatO : List (Int × Int × Int) → List Value
  | [] => []
  | p :: r => .int .i64 p.1 :: .int .i64 p.2.1 :: .int .i64 p.2.2 :: flatO r
theorem flatO_len (l : List (Int × Int × Int)) : (flatO l).length = l.length * 3 := by
  induction l with
  | nil => rfl
  | cons p r ih => simp [flatO, ih]; omega
theorem flatO_append (l m : List (Int × Int × Int)) : flatO (l ++ m) = flatO l ++ flatO m := by
  induction l with
  | nil => rfl
  | cons p r ih => simp [flatO, ih]
theorem flatO_get (l : List (Int × Int × Int)) : ∀ j, j < l.length → (flatO l)[j * 3]? = some (.int .i64 (l.getD j (0, 0, 0)).1) ∧ (flatO l)[j * 3 + 1]? = some (.int .i64 (l.getD j (0, 0, 0)).2.1) ∧ (flatO l)[j * 3 + 2]? = some (.int .i64 (l.getD j (0, 0, 0)).2.2) := by
  induction l with
  | nil => intro j h; simp at h
  | cons p r ih =>
    intro j hj
    cases j with
    | zero => simp [flatO]
    | succ j =>
      have := ih j (by simpa using hj)
      rw [show (j + 1) * 3 = j * 3 + 1 + 1 + 1 from by omega]
      simpa [flatO] using this
theorem ops_of_owns {w : World} {base : Nat} {v : Value} {l : List (Int × Int × Int)} (h : w.ownsRow base 70 3 v l.length (flatO l)) (hl : l.length ≤ 70368744177664) : OpsAt w v l := by
  refine ⟨hl, ?_⟩
  have h0 := h
  rcases h.2 with ⟨h1, h2⟩ | ⟨g, cap, cur, h1, h2, h3, h4⟩
  · exact ⟨0, .inl ⟨List.length_eq_zero_iff.1 h2, none, h1⟩⟩
  · refine ⟨cap, .inr ⟨g, 0, h1, ?_, ?_, ?_⟩⟩
    · exact h4.1
    · rcases Nat.lt_or_ge g w.heap.size with h | h
      · exact h
      · rw [Array.getElem?_eq_none h] at h3; cases h3
    · intro j hj
      subst h1
      obtain ⟨e1, e2, e3⟩ := flatO_get l j hj
      rw [Nat.zero_add]
      exact ⟨(h0.cellAt (j * 3) (by omega)).trans e1, (h0.cellAt (j * 3 + 1) (by omega)).trans e2, (h0.cellAt (j * 3 + 2) (by omega)).trans e3⟩
end Go.Proofs.YtpenkhehceglfaaGreatDoor
