/- Slices of pins of the call's own: in no block below a base; in no block that is written. -/
import Derived.Test.YtmlhipdfjnamiaaGreatFlat
namespace Go.Proofs.YtmlhipdfjnamiaaGreat
open Go.RowKit
/-- pins that do not lie in this very block -/
def PinsOff (w : World) (g : Nat) (v : Value) (l : List (Int × Int)) : Prop :=
  l.length ≤ 70368744177664 ∧ ∃ c, (l = [] ∧ ∃ a, v = .slice a 0 c) ∨ (∃ b o, b ≠ g ∧ v = .slice (some ⟨b, o, none⟩) l.length c ∧ PinCells w b o l)
/-- pins that lie in no block below base -/
def PinsNew (w : World) (base : Nat) (v : Value) (l : List (Int × Int)) : Prop :=
  l.length ≤ 70368744177664 ∧ ∃ c, (l = [] ∧ ∃ a, v = .slice a 0 c) ∨ (∃ b o, base ≤ b ∧ v = .slice (some ⟨b, o, none⟩) l.length c ∧ PinCells w b o l)
theorem PinsNew.pins {w : World} {base : Nat} {v : Value} {l : List (Int × Int)} (h : PinsNew w base v l) : PinsAt w v l := by
  obtain ⟨hl, c, h | ⟨b, o, _, h1, h2⟩⟩ := h
  · exact ⟨hl, c, .inl h⟩
  · exact ⟨hl, c, .inr ⟨b, o, h1, h2⟩⟩
theorem PinsNew.off {w : World} {base g : Nat} {v : Value} {l : List (Int × Int)} (h : PinsNew w base v l) (hg : g < base) : PinsOff w g v l := by
  obtain ⟨hl, c, h | ⟨b, o, h0, h1, h2⟩⟩ := h
  · exact ⟨hl, c, .inl h⟩
  · exact ⟨hl, c, .inr ⟨b, o, by omega, h1, h2⟩⟩
theorem PinsNew.below {w w' : World} {base : Nat} {v : Value} {l : List (Int × Int)} (h : PinsNew w base v l) (hb : Below w.heap.size w w') : PinsNew w' base v l := by
  obtain ⟨hl, c, h | ⟨b, o, h0, h1, h2⟩⟩ := h
  · exact ⟨hl, c, .inl h⟩
  · exact ⟨hl, c, .inr ⟨b, o, h0, h1, h2.below hb⟩⟩
theorem PinsNew.mono {w : World} {base base' : Nat} {v : Value} {l : List (Int × Int)} (h : PinsNew w base v l) (hb : base' ≤ base) : PinsNew w base' v l := by
  obtain ⟨hl, c, h | ⟨b, o, h0, h1, h2⟩⟩ := h
  · exact ⟨hl, c, .inl h⟩
  · exact ⟨hl, c, .inr ⟨b, o, Nat.le_trans hb h0, h1, h2⟩⟩
theorem PinCells.set {w : World} {b o g k : Nat} {z : Value} {l : List (Int × Int)} (h : PinCells w b o l) (hne : b ≠ g) : PinCells (w.setCell ⟨g, k, none⟩ z) b o l := by
  have hn : ∀ x y, (⟨g, x, none⟩ : Addr) ≠ ⟨b, y, none⟩ := fun x y e => hne (by injection e with e1; exact e1.symm)
  refine ⟨by rw [World.size_setCell]; exact h.1, fun j hj => ?_⟩
  rw [World.cell?_setCell_other _ _ _ _ (hn _ _), World.cell?_setCell_other _ _ _ _ (hn _ _)]
  exact h.2 j hj
theorem PinsNew.set {w : World} {base g k : Nat} {v z : Value} {l : List (Int × Int)} (h : PinsNew w base v l) (hg : g < base) : PinsNew (w.setCell ⟨g, k, none⟩ z) base v l := by
  obtain ⟨hl, c, h | ⟨b, o, h0, h1, h2⟩⟩ := h
  · exact ⟨hl, c, .inl h⟩
  · exact ⟨hl, c, .inr ⟨b, o, h0, h1, h2.set (by omega)⟩⟩
theorem PinsOff.pins {w : World} {g : Nat} {v : Value} {l : List (Int × Int)} (h : PinsOff w g v l) : PinsAt w v l := by
  obtain ⟨hl, c, h | ⟨b, o, _, h1, h2⟩⟩ := h
  · exact ⟨hl, c, .inl h⟩
  · exact ⟨hl, c, .inr ⟨b, o, h1, h2⟩⟩
theorem PinsOff.set {w : World} {g k : Nat} {v z : Value} {l : List (Int × Int)} (h : PinsOff w g v l) : PinsOff (w.setCell ⟨g, k, none⟩ z) g v l := by
  obtain ⟨hl, c, h | ⟨b, o, h0, h1, h2⟩⟩ := h
  · exact ⟨hl, c, .inl h⟩
  · exact ⟨hl, c, .inr ⟨b, o, h0, h1, h2.set h0⟩⟩
theorem chk_first {p : Int × Int} {r : List (Int × Int)} (h : Lk.chk (p :: r) = 0) : 1 ≤ p.1 := by
  unfold Lk.chk at h
  by_cases hl : 12 < (p :: r).length
  · rw [if_pos hl] at h; exact absurd h (by decide)
  · rw [if_neg hl, Lk.chkFrom] at h
    by_cases ho : Lk.okPin p = true
    · simp [Lk.okPin] at ho; omega
    · rw [if_neg ho] at h; exact absurd h (by decide)
theorem PinsAt.offZ {w : World} {g : Nat} {v : Value} {l : List (Int × Int)} (h : PinsAt w v l) (hc : Lk.chk l = 0) (hz : ∀ k x, w.cell? ⟨g, k, none⟩ = some x → x = .int .i64 0 ∨ ∀ y, x ≠ .int .i64 y) : PinsOff w g v l := by
  obtain ⟨hl, c, h | ⟨b, o, h1, h2⟩⟩ := h
  · exact ⟨hl, c, .inl h⟩
  · cases l with
    | nil => exact ⟨hl, c, .inl ⟨rfl, _, h1⟩⟩
    | cons p r =>
      refine ⟨hl, c, .inr ⟨b, o, ?_, h1, h2⟩⟩
      rintro rfl
      have h3 := (h2.2 0 (by simp)).1
      have hp := chk_first hc
      rcases hz _ _ h3 with h4 | h4
      · injection h4 with _ h5
        simp at h5
        omega
      · exact h4 _ rfl
/-- a cell that holds a slice is no pin's -/
theorem PinsAt.offS {w : World} {g k : Nat} {v z : Value} {A : Option Addr} {n c : Nat} {l : List (Int × Int)} (h : PinsAt w v l) (hx : w.cell? ⟨g, k, none⟩ = some (.slice A n c)) : PinsAt (w.setCell ⟨g, k, none⟩ z) v l := by
  obtain ⟨hl, c', h | ⟨b, o, h1, h2⟩⟩ := h
  · exact ⟨hl, c', .inl h⟩
  · refine ⟨hl, c', .inr ⟨b, o, h1, by rw [World.size_setCell]; exact h2.1, fun j hj => ?_⟩⟩
    obtain ⟨e1, e2⟩ := h2.2 j hj
    constructor
    · rw [World.cell?_setCell_other _ _ _ _ (fun e => by rw [e] at hx; rw [hx] at e1; cases e1)]; exact e1
    · rw [World.cell?_setCell_other _ _ _ _ (fun e => by rw [e] at hx; rw [hx] at e2; cases e2)]; exact e2
theorem PinsAt.older {w w' : World} {g : Nat} {v : Value} {l : List (Int × Int)} (h : PinsAt w v l) (hb : Below w.heap.size w w') (hg : w.heap.size ≤ g) : PinsOff w' g v l := by
  obtain ⟨hl, c, h | ⟨b, o, h1, h2⟩⟩ := h
  · exact ⟨hl, c, .inl h⟩
  · exact ⟨hl, c, .inr ⟨b, o, by have := h2.1; omega, h1, h2.below hb⟩⟩
theorem pins_new_owns {w : World} {base : Nat} {v : Value} {l : List (Int × Int)} (h : w.ownsRow base 65 2 v l.length (flat l)) (hl : l.length ≤ 70368744177664) : PinsNew w base v l := by
  refine ⟨hl, ?_⟩
  have h0 := h
  rcases h.2 with ⟨h1, h2⟩ | ⟨g, cap, cur, h1, h2, h3, h4⟩
  · exact ⟨0, .inl ⟨List.length_eq_zero_iff.1 h2, none, h1⟩⟩
  · refine ⟨cap, .inr ⟨g, 0, h2, h1, ?_, ?_⟩⟩
    · rcases Nat.lt_or_ge g w.heap.size with h | h
      · exact h
      · rw [Array.getElem?_eq_none h] at h3; cases h3
    · intro j hj
      subst h1
      obtain ⟨e1, e2⟩ := flat_get l j hj
      rw [Nat.zero_add]
      exact ⟨(h0.cellAt (j * 2) (by omega)).trans e1, (h0.cellAt (j * 2 + 1) (by omega)).trans e2⟩
theorem PinsOff.below {w w' : World} {g : Nat} {v : Value} {l : List (Int × Int)} (h : PinsOff w g v l) (hb : Below w.heap.size w w') : PinsOff w' g v l := by
  obtain ⟨hl, c, h | ⟨b, o, h0, h1, h2⟩⟩ := h
  · exact ⟨hl, c, .inl h⟩
  · exact ⟨hl, c, .inr ⟨b, o, h0, h1, h2.below hb⟩⟩
theorem PinsOff.other {w : World} {g k b' : Nat} {v z : Value} {l : List (Int × Int)} {w0 : World} (h : PinsOff w g v l) (ho : PinsAt w0 v l) (hg : w0.heap.size ≤ b') : PinsOff (w.setCell ⟨b', k, none⟩ z) g v l := by
  obtain ⟨hl, c, h | ⟨b, o, h0, h1, h2⟩⟩ := h
  · exact ⟨hl, c, .inl h⟩
  · obtain ⟨_, c', ⟨h3, _⟩ | ⟨b2, o2, h4, h5⟩⟩ := ho
    · exact ⟨hl, c, .inl ⟨h3, _, by rw [h1, h3]; rfl⟩⟩
    · rw [h1] at h4
      simp only [Value.slice.injEq, Option.some.injEq, Addr.mk.injEq] at h4
      exact ⟨hl, c, .inr ⟨b, o, h0, h1, h2.set (by have := h5.1; omega)⟩⟩
theorem PinsNew.setO {w w0 : World} {base g k : Nat} {v z : Value} {l : List (Int × Int)} (h : PinsNew w base v l) (ho : PinsAt w0 v l) (hg : w0.heap.size ≤ g) : PinsNew (w.setCell ⟨g, k, none⟩ z) base v l := by
  obtain ⟨hl, c, h | ⟨b, o, h0, h1, h2⟩⟩ := h
  · exact ⟨hl, c, .inl h⟩
  · obtain ⟨_, c', ⟨h3, _⟩ | ⟨b2, o2, h4, h5⟩⟩ := ho
    · exact ⟨hl, c, .inl ⟨h3, _, by rw [h1, h3]; rfl⟩⟩
    · rw [h1] at h4
      simp only [Value.slice.injEq, Option.some.injEq, Addr.mk.injEq] at h4
      exact ⟨hl, c, .inr ⟨b, o, h0, h1, h2.set (by have := h5.1; omega)⟩⟩
theorem pinsNew_none (w : World) (base : Nat) : PinsNew w base (.slice none 0 0) [] := ⟨by simp, 0, .inl ⟨rfl, none, rfl⟩⟩
theorem pinsOff_none (w : World) (g : Nat) : PinsOff w g (.slice none 0 0) [] := ⟨by simp, 0, .inl ⟨rfl, none, rfl⟩⟩
end Go.Proofs.YtmlhipdfjnamiaaGreat
