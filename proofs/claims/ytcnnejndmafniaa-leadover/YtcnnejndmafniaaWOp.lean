/- Slices of numbers, of truths, of waves, as they came in. -/
import Derived.Test.YtcnnejndmafniaaKit
import Derived.Test.YtcnnejndmafniaaMD
namespace Go.Proofs.Ytcnnejndmafniaa
open Go.RowKit Go.ChangeShapes Go.WideShapes Go.ChangeAt
theorem getD_of {α : Type} {l : List α} {j : Nat} {a d : α} (h : l[j]? = some a) : l.getD j d = a := by rw [List.getD_eq_getElem?_getD, h]; rfl
theorem ints_of_row {w : World} {v : Value} {l : List Int} (h : RowRep (fun _ cs (a : Int) => cs = [.int .i64 a]) 1 17592186044416 w v l) : IntsAt w v l := by
  obtain ⟨h1, A, b, o, c, rfl, h2, h3, h4⟩ := h
  refine ⟨by omega, A, b, o, c, rfl, h2.1, h3, fun j hj => ?_⟩
  obtain ⟨cs, a, ha, _, hc, rfl⟩ := h4 j hj
  have := hc 0 (by decide)
  rw [getD_of ha]
  simpa using this
theorem bools_of_row {w : World} {v : Value} {l : List Bool} (h : RowRep (fun _ cs (a : Bool) => cs = [.bool a]) 1 140737488355328 w v l) : BoolsAt w v l := by
  obtain ⟨h1, A, b, o, c, rfl, h2, h3, h4⟩ := h
  refine ⟨by omega, A, b, o, c, rfl, h2.1, h3, fun j hj => ?_⟩
  obtain ⟨cs, a, ha, _, hc, rfl⟩ := h4 j hj
  have := hc 0 (by decide)
  rw [getD_of ha]
  simpa using this
theorem bytesI : Try.prog.bytesOf 3 = 8 := by kernel_rfl
theorem bytesB : Try.prog.bytesOf 4 = 1 := by kernel_rfl
theorem bytesSI : Try.prog.bytesOf 70 = 24 := by kernel_rfl
theorem cellsI : Try.prog.cellsOf 3 = 1 := by kernel_rfl
theorem cellsB : Try.prog.cellsOf 4 = 1 := by kernel_rfl
theorem cellsSI : Try.prog.cellsOf 70 = 1 := by kernel_rfl
theorem opens_ints : Opens 70 (fun w cs (l : List Int) => ∃ v, cs = [v] ∧ IntsAt w v l) :=
  (opens_slice (B := 17592186044416) Try.underlying70 cellsI (by decide) (fun k hk => by rw [bytesI] at hk; unfold reachBytes at hk; omega) (opens_int Try.underlying3)).mono id (fun _ _ _ ⟨v, e, h⟩ => ⟨v, e, ints_of_row h⟩)
theorem opens_bools : Opens 118 (fun w cs (l : List Bool) => ∃ v, cs = [v] ∧ BoolsAt w v l) :=
  (opens_slice (B := 140737488355328) Try.underlying118 cellsB (by decide) (fun k hk => by rw [bytesB] at hk; unfold reachBytes at hk; omega) (opens_bool Try.underlying4)).mono id (fun _ _ _ ⟨v, e, h⟩ => ⟨v, e, bools_of_row h⟩)
theorem opens_waves : Opens 26 (fun w cs (l : List (List Int)) => ∃ v, cs = [v] ∧ WavesAt w v l) :=
  (opens_slice (B := 17592186044416) Try.underlying26 cellsSI (by decide) (fun k hk => by rw [bytesSI] at hk; unfold reachBytes at hk; omega) opens_ints).mono id (fun _ _ l ⟨v, e, h⟩ => ⟨v, e, by
    obtain ⟨h1, A, b, o, c, rfl, h2, h3, h4⟩ := h
    refine ⟨by show l.length ≤ _; omega, A, b, o, c, rfl, h2.1, h3, fun j hj => ?_⟩
    obtain ⟨cs, a, ha, _, hc, u, rfl, hu⟩ := h4 j hj
    have := hc 0 (by decide)
    refine ⟨u, by simpa using this, ?_⟩
    show IntsAt _ u (l.getD j [])
    rw [getD_of ha]
    exact hu⟩)
end Go.Proofs.Ytcnnejndmafniaa
