/- Slices of rules, as they came in. -/
import Derived.Test.YtjedjanlmjolkabR1
import Derived.Deep.SlicePairs
import Derived.ProofKit
namespace Go.Proofs.Ytjedjanlmjolkab
open Go.RowKit Go.ChangeShapes Go.WideShapes Go.ChangeAt
theorem cellsRule : Try.prog.cellsOf 39 = 4 := by kernel_rfl
theorem bytesRule : Try.prog.bytesOf 39 = 32 := by kernel_rfl
theorem cellsInt : Try.prog.cellsOf 3 = 1 := by kernel_rfl
theorem trod_struct4 {H : Type} {enc : TypeId × Value → H} {P : Program} {w : World} {base : Nat} {spare : Nat → Bool} {held : Bool} {t : TypeId} {f0 f1 f2 f3 : Field} {fuel : Nat} {cs : List Value} {x : DataW H × List MemPlace} (ht : P.underlying t = some (.struct #[f0, f1, f2, f3])) (h : DataW.trod enc P w base spare held fuel t cs = some x) :
    ∃ y0 y1 y2 y3 n, DataW.trod enc P w base spare held n f0.type ((cs.drop f0.offset).take (P.cellsOf f0.type)) = some y0 ∧ DataW.trod enc P w base spare held n f1.type ((cs.drop f1.offset).take (P.cellsOf f1.type)) = some y1 ∧
      DataW.trod enc P w base spare held n f2.type ((cs.drop f2.offset).take (P.cellsOf f2.type)) = some y2 ∧ DataW.trod enc P w base spare held n f3.type ((cs.drop f3.offset).take (P.cellsOf f3.type)) = some y3 := by
  obtain ⟨xs, n, _, _, _, hlen, hf⟩ := DataW.trod_struct ht h
  match xs, hlen with
  | [y0, y1, y2, y3], _ => exact ⟨y0, y1, y2, y3, n, by simpa using hf 0 f0 rfl, by simpa using hf 1 f1 rfl, by simpa using hf 2 f2 rfl, by simpa using hf 3 f3 rfl⟩
theorem rules_open {H : Type} {enc : TypeId × Value → H} {W : World} {spare : Nat → Bool} {held : Bool} {fuel : Nat} {v : Value} {x : DataW H × List MemPlace} (h : DataW.trod enc Try.prog W 0 spare held fuel 23 [v] = some x)
    (hsz : ∀ elems sp, x.1 = .slice elems sp → (elems.length + sp.length) * 32 ≤ reachBytes) : ∃ l, RulesAt W v l := by
  rcases Deep.open_slice Try.underlying23 h with ⟨e, _⟩ | ⟨a, len, cap, m, n, D, Pl, e, _, hl, _, hm, hx, hel⟩
  · simp only [List.cons.injEq, and_true] at e
    subst e
    exact ⟨[], by simp, none, 0, 0, 0, rfl, by simp, fun h => absurd h (by simp), fun j hj => absurd hj (by simp)⟩
  · simp only [List.cons.injEq, and_true] at e
    subst e
    have hlm : len ≤ m := by rw [hm]; split <;> omega
    have hbd : len ≤ 70368744177664 := by
      have := hsz _ _ (by rw [hx])
      simp only [List.length_map, List.length_range, reachBytes] at this
      omega
    have each : ∀ i, i < len → ∃ p : Rk.Rl, W.cell? (a.add (i * 4)) = some (.int .i64 p.1) ∧ W.cell? (a.add (i * 4 + 1)) = some (.int .i64 p.2.1) ∧ W.cell? (a.add (i * 4 + 2)) = some (.int .i64 p.2.2.1) ∧ W.cell? (a.add (i * 4 + 3)) = some (.int .i64 p.2.2.2) := by
      intro i hi
      obtain ⟨cs', h1, h2⟩ := hel i (by omega)
      rw [cellsRule] at h1
      obtain ⟨_, hlen, hcell⟩ := World.cells?_some h1
      obtain ⟨y0, y1, y2, y3, k, g0, g1, g2, g3⟩ := trod_struct4 Try.underlying39 h2
      simp only [cellsInt] at g0 g1 g2 g3
      match cs', hlen with
      | [v0, v1, v2, v3], _ =>
          obtain ⟨n0, e0, _, _⟩ := DataW.trod_int Try.underlying3 g0
          obtain ⟨n1, e1, _, _⟩ := DataW.trod_int Try.underlying3 g1
          obtain ⟨n2, e2, _, _⟩ := DataW.trod_int Try.underlying3 g2
          obtain ⟨n3, e3, _, _⟩ := DataW.trod_int Try.underlying3 g3
          simp at e0 e1 e2 e3
          subst e0 e1 e2 e3
          have c0 := hcell 0 (by omega)
          have c1 := hcell 1 (by omega)
          have c2 := hcell 2 (by omega)
          have c3 := hcell 3 (by omega)
          rw [Deep.add_add] at c0 c1 c2 c3
          exact ⟨(n0, n1, n2, n3), by simpa using c0, by simpa using c1, by simpa using c2, by simpa using c3⟩
    obtain ⟨f, hf⟩ := Deep.choose_lt each
    obtain ⟨b, off, spot⟩ := a
    by_cases h0 : len = 0
    · subst h0
      exact ⟨[], by simp, some ⟨b, off, spot⟩, b, off, cap, rfl, by simp, fun h => absurd h (by simp), fun j hj => absurd hj (by simp)⟩
    · have hspot : spot = none := by simpa [Addr.add] using World.cell?_spot (hf 0 (by omega)).1
      subst hspot
      refine ⟨(List.range len).map f, by simpa using hbd, some ⟨b, off, none⟩, b, off, cap, by simp, by simpa using hl, fun _ => ⟨rfl, ?_⟩, fun j hj => ?_⟩
      · have := (hf 0 (by omega)).1
        rw [WideShapes.add_plain] at this
        rcases Nat.lt_or_ge b W.heap.size with h' | h'
        · exact h'
        · simp [World.cell?, Array.getElem?_eq_none h'] at this
      · have hj' : j < len := by simpa using hj
        have := hf j hj'
        rw [WideShapes.add_plain, WideShapes.add_plain, WideShapes.add_plain, WideShapes.add_plain, ← Nat.add_assoc, ← Nat.add_assoc, ← Nat.add_assoc] at this
        have e : ((List.range len).map f).getD j (0, 0, 0, 0) = f j := by simp [List.getD_eq_getElem?_getD, hj']
        rw [e]
        exact this
end Go.Proofs.Ytjedjanlmjolkab
