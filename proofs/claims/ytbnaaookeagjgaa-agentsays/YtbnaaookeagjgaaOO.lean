/- A slice of steps, opened. -/
import Derived.Test.YtbnaaookeagjgaaFlatO
namespace Go.Proofs.Ytbnaaookeagjgaa
open Go.RowKit
theorem OpsAt.open {w : World} {v : Value} {l : List (Int × Int × Int)} (h : OpsAt w v l) : ∃ A b o c, v = .slice A l.length c ∧ (0 < l.length → A = some ⟨b, o, none⟩ ∧ b < w.heap.size ∧ l.length ≤ c) ∧ ∀ j, j < l.length → w.cell? ⟨b, o + j * 3, none⟩ = some (.int .i64 (l.getD j (0, 0, 0)).1) ∧ w.cell? ⟨b, o + j * 3 + 1, none⟩ = some (.int .i64 (l.getD j (0, 0, 0)).2.1) ∧ w.cell? ⟨b, o + j * 3 + 2, none⟩ = some (.int .i64 (l.getD j (0, 0, 0)).2.2) := by
  obtain ⟨hl, c, ⟨rfl, a, rfl⟩ | ⟨b, o, rfl, hc, hd⟩⟩ := h
  · exact ⟨a, 0, 0, c, rfl, fun h => absurd h (by simp), fun j hj => absurd hj (by simp)⟩
  · exact ⟨_, b, o, c, rfl, fun _ => ⟨rfl, hd.1, hc⟩, hd.2⟩
end Go.Proofs.Ytbnaaookeagjgaa
