/- What a copy of a leader is: rows of its own. -/
import Derived.Test.YtcnnejndmafniaaLV7
namespace Go.Proofs.Ytcnnejndmafniaa
open Go.RowKit
/-- what a copy is: rows of its own, and pins of its own in no block of theirs -/
def leC6 (w : World) (base : Nat) (l : Ld.Leader) (g4 k4 g5 k5 : Nat) (qs : List ((Int × List (Int × Int)) × Value)) : Prop :=
  base ≤ g4 ∧ base ≤ g5 ∧ g4 ≠ g5 ∧ l.rels.length ≤ k4 ∧ l.ags.length ≤ k5 ∧ Row w g4 (flatL qs) ∧ Cap w g4 24 (k4 * 2) ∧ k4 ≤ maxLen ∧ qs.map Prod.fst = l.rels ∧ (∀ q ∈ qs, Keep (fun x => x < base ∨ x = g4 ∨ x = g5) (fun w => PinsAt w q.2 q.1.2) w) ∧ Row w g5 (flatK l.ags)
theorem leC6.set {w : World} {base g4 k4 g5 k5 : Nat} {l : Ld.Leader} {qs : List ((Int × List (Int × Int)) × Value)} (h : leC6 w base l g4 k4 g5 k5 qs) {b i : Nat} (hb : b < base) (z : Value) : leC6 (w.setCell ⟨b, i, none⟩ z) base l g4 k4 g5 k5 qs := by
  obtain ⟨h1, h2, h3, h4, h5, h6, h7, h8, h9, h10, h11⟩ := h
  exact ⟨h1, h2, h3, h4, h5, h6.off (by omega) _, h7.set _, h8, h9, (fun q hq => (h10 q hq).set (a := ⟨b, i, none⟩) (.inl hb) _), h11.off (by omega) _⟩
theorem leC6.below {w w' : World} {base g4 k4 g5 k5 : Nat} {l : Ld.Leader} {qs : List ((Int × List (Int × Int)) × Value)} (h : leC6 w base l g4 k4 g5 k5 qs) (hb : Below w.heap.size w w') : leC6 w' base l g4 k4 g5 k5 qs := by
  obtain ⟨h1, h2, h3, h4, h5, h6, h7, h8, h9, h10, h11⟩ := h
  exact ⟨h1, h2, h3, h4, h5, h6.below hb, h7.below hb, h8, h9, (fun q hq => (h10 q hq).below hb), h11.below hb⟩
theorem leC6.mono {w : World} {base base' g4 k4 g5 k5 : Nat} {l : Ld.Leader} {qs : List ((Int × List (Int × Int)) × Value)} (h : leC6 w base l g4 k4 g5 k5 qs) (hb : base' ≤ base) : leC6 w base' l g4 k4 g5 k5 qs := by
  obtain ⟨h1, h2, h3, h4, h5, h6, h7, h8, h9, h10, h11⟩ := h
  exact ⟨by omega, by omega, h3, h4, h5, h6, h7, h8, h9, (fun q hq => Keep.sub (h10 q hq) (fun x hx => (hx.imp (fun h => Nat.lt_of_lt_of_le h hb) id))), h11⟩
theorem qs_step {qs ps : List ((Int × List (Int × Int)) × Value)} {k : Nat} (hq : qs.length = k) (hk : k < ps.length) (p : (Int × List (Int × Int)) × Value) : (qs ++ ps.drop k).set k p = (qs ++ [p]) ++ ps.drop (k + 1) := by
  rw [List.set_append_right _ _ (by omega), hq, Nat.sub_self, List.drop_eq_getElem_cons hk, List.set_cons_zero, List.append_assoc]
  rfl
theorem qs_at {qs ps : List ((Int × List (Int × Int)) × Value)} {k : Nat} (hq : qs.length = k) (hk : k < ps.length) : (qs ++ ps.drop k)[k]? = some ps[k] := by
  rw [List.getElem?_append_right (by omega), hq, Nat.sub_self, List.drop_eq_getElem_cons hk]; rfl
end Go.Proofs.Ytcnnejndmafniaa
