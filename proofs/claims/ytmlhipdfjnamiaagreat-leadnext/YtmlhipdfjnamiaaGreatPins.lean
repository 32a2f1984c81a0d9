/- A slice of pins, opened; one that was just laid. -/
import Derived.Test.YtmlhipdfjnamiaaGreatFlat
namespace Go.Proofs.YtmlhipdfjnamiaaGreat
open Go.RowKit
theorem PinsAt.open {w : World} {v : Value} {l : List (Int × Int)} (h : PinsAt w v l) : ∃ A b o c, v = .slice A l.length c ∧ l.length ≤ 70368744177664 ∧ (0 < l.length → A = some ⟨b, o, none⟩ ∧ b < w.heap.size) ∧ ∀ j, j < l.length → w.cell? ⟨b, o + j * 2, none⟩ = some (.int .i64 (l.getD j (0, 0)).1) ∧ w.cell? ⟨b, o + j * 2 + 1, none⟩ = some (.int .i64 (l.getD j (0, 0)).2) := by
  obtain ⟨hl, c, ⟨rfl, a, rfl⟩ | ⟨b, o, rfl, hc⟩⟩ := h
  · exact ⟨a, 0, 0, c, rfl, hl, fun h => absurd h (by simp), fun j hj => absurd hj (by simp)⟩
  · exact ⟨_, b, o, c, rfl, hl, fun _ => ⟨rfl, hc.1⟩, hc.2⟩
theorem pinsNew (w : World) (l : List (Int × Int)) (t : TypeId) (hl : l.length ≤ 1000) : PinsAt (w.alloc (.cells (flat l).toArray t)) (.slice (some ⟨w.heap.size, 0, none⟩) l.length l.length) l := by
  refine ⟨by omega, l.length, .inr ⟨w.heap.size, 0, rfl, by simp, fun j hj => ?_⟩⟩
  obtain ⟨e1, e2⟩ := flat_get l j hj
  rw [World.cell?_alloc_new, World.cell?_alloc_new]
  simp only [Nat.zero_add, List.getElem?_toArray]
  exact ⟨e1, e2⟩
end Go.Proofs.YtmlhipdfjnamiaaGreat
