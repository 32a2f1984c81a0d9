import Derived.Test.YtpenkhehceglfaaGreatDoorW1
import Derived.OwnWalk
import Derived.Laws.AppendOwnNone
import Derived.Laws.Cover3
import Derived.Test.YtpenkhehceglfaaGreatDoorMB
import Derived.Deep.RegionHeld3
import Derived.Deep.RegionWith
import Derived.Deep.CutRange
import Derived.Laws.OwnMore
import Derived.Deep.OwnRows
/- Pins, one after the other, as cells: what a slice that was appended to owns. -/
namespace Go.Proofs.YtpenkhehceglfaaGreatDoor
open Go.RowKit
theorem Tryz.info57 : (Tryz.prog.info? 57).map (fun i => (i.zero, i.size, i.bytes)) = some (some (.agg #[.int .i64 0, .int .i64 0]), 2, 16) := by kernel_rfl
/-- the cells of pins, one after the other -/
def flat : List (Int × Int) → List Value
  | [] => []
  | p :: r => .int .i64 p.1 :: .int .i64 p.2 :: flat r
theorem flat_len (l : List (Int × Int)) : (flat l).length = l.length * 2 := by
  induction l with
  | nil => rfl
  | cons p r ih => simp [flat, ih]; omega
theorem flat_append (l m : List (Int × Int)) : flat (l ++ m) = flat l ++ flat m := by
  induction l with
  | nil => rfl
  | cons p r ih => simp [flat, ih]
theorem flat_get (l : List (Int × Int)) : ∀ j, j < l.length → (flat l)[j * 2]? = some (.int .i64 (l.getD j (0, 0)).1) ∧ (flat l)[j * 2 + 1]? = some (.int .i64 (l.getD j (0, 0)).2) := by
  induction l with
  | nil => intro j h; simp at h
  | cons p r ih =>
    intro j hj
    cases j with
    | zero => simp [flat]
    | succ j =>
      have := ih j (by simpa using hj)
      rw [show (j + 1) * 2 = j * 2 + 1 + 1 from by omega]
      simpa [flat] using this
theorem owns_below {w w' : World} {base e size : Nat} {v : Value} {n : Nat} {xs : List Value} (h : w.ownsRow base e size v n xs) (hb : Below w.heap.size w w') : w'.ownsRow base e size v n xs := by
  refine ⟨h.1, ?_⟩
  rcases h.2 with h2 | ⟨g, cap, cur, h1, h2, h3, h4⟩
  · exact .inl h2
  · have hg : g < w.heap.size := by
      rcases Nat.lt_or_ge g w.heap.size with h | h
      · exact h
      · rw [Array.getElem?_eq_none h] at h3; cases h3
    exact .inr ⟨g, cap, cur, h1, h2, (hb.block g hg).trans h3, h4⟩
theorem pins_of_owns {w : World} {base : Nat} {v : Value} {l : List (Int × Int)} (h : w.ownsRow base 57 2 v l.length (flat l)) (hl : l.length ≤ 70368744177664) : PinsAt w v l := by
  refine ⟨hl, ?_⟩
  have h0 := h
  rcases h.2 with ⟨h1, h2⟩ | ⟨g, cap, cur, h1, h2, h3, h4⟩
  · exact ⟨0, .inl ⟨List.length_eq_zero_iff.1 h2, none, h1⟩⟩
  · refine ⟨cap, .inr ⟨g, 0, h1, ?_, ?_⟩⟩
    · rcases Nat.lt_or_ge g w.heap.size with h | h
      · exact h
      · rw [Array.getElem?_eq_none h] at h3; cases h3
    · intro j hj
      subst h1
      obtain ⟨e1, e2⟩ := flat_get l j hj
      rw [Nat.zero_add]
      exact ⟨(h0.cellAt (j * 2) (by omega)).trans e1, (h0.cellAt (j * 2 + 1) (by omega)).trans e2⟩
theorem pins_none (w : World) : PinsAt w (.slice none 0 0) [] := ⟨by simp, 0, .inl ⟨rfl, none, rfl⟩⟩
end Go.Proofs.YtpenkhehceglfaaGreatDoor
/- A slice of pins, opened; one that was just laid. -/
namespace Go.Proofs.YtpenkhehceglfaaGreatDoor
open Go.RowKit
theorem PinsAt.open {w : World} {v : Value} {l : List (Int × Int)} (h : PinsAt w v l) : ∃ A b o c, v = .slice A l.length c ∧ l.length ≤ 70368744177664 ∧ (0 < l.length → A = some ⟨b, o, none⟩ ∧ b < w.heap.size) ∧ ∀ j, j < l.length → w.cell? ⟨b, o + j * 2, none⟩ = some (.int .i64 (l.getD j (0, 0)).1) ∧ w.cell? ⟨b, o + j * 2 + 1, none⟩ = some (.int .i64 (l.getD j (0, 0)).2) := by
  obtain ⟨hl, c, ⟨rfl, a, rfl⟩ | ⟨b, o, rfl, hc⟩⟩ := h
  · exact ⟨a, 0, 0, c, rfl, hl, fun h => absurd h (by simp), fun j hj => absurd hj (by simp)⟩
  · exact ⟨_, b, o, c, rfl, hl, fun _ => ⟨rfl, hc.1⟩, hc.2⟩
theorem pinsNew (w : World) (l : List (Int × Int)) (t : TypeId) (hl : l.length ≤ 1000) : PinsAt (w.alloc (.cells (flat l).toArray t)) (.slice (some ⟨w.heap.size, 0, none⟩) l.length l.length) l := by
  refine ⟨by omega, l.length, .inr ⟨w.heap.size, 0, rfl, by simp, fun j hj => ?_⟩⟩
  obtain ⟨e1, e2⟩ := flat_get l j hj
  rw [World.cell?_alloc_new, World.cell?_alloc_new]
  simp only [Nat.zero_add, List.getElem?_toArray]
  exact ⟨e1, e2⟩
end Go.Proofs.YtpenkhehceglfaaGreatDoor
/- Slices of pins of the call's own: in no block below a base; in no block that is written. -/
namespace Go.Proofs.YtpenkhehceglfaaGreatDoor
open Go.RowKit
/-- pins that do not lie in this very block -/
def PinsOff (w : World) (g : Nat) (v : Value) (l : List (Int × Int)) : Prop :=
  l.length ≤ 70368744177664 ∧ ∃ c, (l = [] ∧ ∃ a, v = .slice a 0 c) ∨ (∃ b o, b ≠ g ∧ v = .slice (some ⟨b, o, none⟩) l.length c ∧ PinCells w b o l)
/-- pins that lie in no block below base -/
def PinsNew (w : World) (base : Nat) (v : Value) (l : List (Int × Int)) : Prop :=
  l.length ≤ 70368744177664 ∧ ∃ c, (l = [] ∧ ∃ a, v = .slice a 0 c) ∨ (∃ b o, base ≤ b ∧ v = .slice (some ⟨b, o, none⟩) l.length c ∧ PinCells w b o l)
theorem PinsNew.pins {w : World} {base : Nat} {v : Value} {l : List (Int × Int)} (h : PinsNew w base v l) : PinsAt w v l := by
  obtain ⟨hl, c, h | ⟨b, o, _, h1, h2⟩⟩ := h
  · exact ⟨hl, c, .inl h⟩
  · exact ⟨hl, c, .inr ⟨b, o, h1, h2⟩⟩
theorem PinsNew.off {w : World} {base g : Nat} {v : Value} {l : List (Int × Int)} (h : PinsNew w base v l) (hg : g < base) : PinsOff w g v l := by
  obtain ⟨hl, c, h | ⟨b, o, h0, h1, h2⟩⟩ := h
  · exact ⟨hl, c, .inl h⟩
  · exact ⟨hl, c, .inr ⟨b, o, by omega, h1, h2⟩⟩
theorem PinsNew.below {w w' : World} {base : Nat} {v : Value} {l : List (Int × Int)} (h : PinsNew w base v l) (hb : Below w.heap.size w w') : PinsNew w' base v l := by
  obtain ⟨hl, c, h | ⟨b, o, h0, h1, h2⟩⟩ := h
  · exact ⟨hl, c, .inl h⟩
  · exact ⟨hl, c, .inr ⟨b, o, h0, h1, h2.below hb⟩⟩
theorem PinsNew.mono {w : World} {base base' : Nat} {v : Value} {l : List (Int × Int)} (h : PinsNew w base v l) (hb : base' ≤ base) : PinsNew w base' v l := by
  obtain ⟨hl, c, h | ⟨b, o, h0, h1, h2⟩⟩ := h
  · exact ⟨hl, c, .inl h⟩
  · exact ⟨hl, c, .inr ⟨b, o, Nat.le_trans hb h0, h1, h2⟩⟩
theorem PinCells.set {w : World} {b o g k : Nat} {z : Value} {l : List (Int × Int)} (h : PinCells w b o l) (hne : b ≠ g) : PinCells (w.setCell ⟨g, k, none⟩ z) b o l := by
  have hn : ∀ x y, (⟨g, x, none⟩ : Addr) ≠ ⟨b, y, none⟩ := fun x y e => hne (by injection e with e1; exact e1.symm)
  refine ⟨by rw [World.size_setCell]; exact h.1, fun j hj => ?_⟩
  rw [World.cell?_setCell_other _ _ _ _ (hn _ _), World.cell?_setCell_other _ _ _ _ (hn _ _)]
  exact h.2 j hj
theorem PinsNew.set {w : World} {base g k : Nat} {v z : Value} {l : List (Int × Int)} (h : PinsNew w base v l) (hg : g < base) : PinsNew (w.setCell ⟨g, k, none⟩ z) base v l := by
  obtain ⟨hl, c, h | ⟨b, o, h0, h1, h2⟩⟩ := h
  · exact ⟨hl, c, .inl h⟩
  · exact ⟨hl, c, .inr ⟨b, o, h0, h1, h2.set (by omega)⟩⟩
theorem PinsOff.pins {w : World} {g : Nat} {v : Value} {l : List (Int × Int)} (h : PinsOff w g v l) : PinsAt w v l := by
  obtain ⟨hl, c, h | ⟨b, o, _, h1, h2⟩⟩ := h
  · exact ⟨hl, c, .inl h⟩
  · exact ⟨hl, c, .inr ⟨b, o, h1, h2⟩⟩
theorem PinsOff.set {w : World} {g k : Nat} {v z : Value} {l : List (Int × Int)} (h : PinsOff w g v l) : PinsOff (w.setCell ⟨g, k, none⟩ z) g v l := by
  obtain ⟨hl, c, h | ⟨b, o, h0, h1, h2⟩⟩ := h
  · exact ⟨hl, c, .inl h⟩
  · exact ⟨hl, c, .inr ⟨b, o, h0, h1, h2.set h0⟩⟩
theorem chk_first {p : Int × Int} {r : List (Int × Int)} (h : Lk.chk (p :: r) = 0) : 1 ≤ p.1 := by
  unfold Lk.chk at h
  by_cases hl : 12 < (p :: r).length
  · rw [if_pos hl] at h; exact absurd h (by decide)
  · rw [if_neg hl, Lk.chkFrom] at h
    by_cases ho : Lk.okPin p = true
    · simp [Lk.okPin] at ho; omega
    · rw [if_neg ho] at h; exact absurd h (by decide)
theorem PinsAt.offZ {w : World} {g : Nat} {v : Value} {l : List (Int × Int)} (h : PinsAt w v l) (hc : Lk.chk l = 0) (hz : ∀ k x, w.cell? ⟨g, k, none⟩ = some x → x = .int .i64 0 ∨ ∀ y, x ≠ .int .i64 y) : PinsOff w g v l := by
  obtain ⟨hl, c, h | ⟨b, o, h1, h2⟩⟩ := h
  · exact ⟨hl, c, .inl h⟩
  · cases l with
    | nil => exact ⟨hl, c, .inl ⟨rfl, _, h1⟩⟩
    | cons p r =>
      refine ⟨hl, c, .inr ⟨b, o, ?_, h1, h2⟩⟩
      rintro rfl
      have h3 := (h2.2 0 (by simp)).1
      have hp := chk_first hc
      rcases hz _ _ h3 with h4 | h4
      · injection h4 with _ h5
        simp at h5
        omega
      · exact h4 _ rfl
/-- a cell that holds a slice is no pin's -/
theorem PinsAt.offS {w : World} {g k : Nat} {v z : Value} {A : Option Addr} {n c : Nat} {l : List (Int × Int)} (h : PinsAt w v l) (hx : w.cell? ⟨g, k, none⟩ = some (.slice A n c)) : PinsAt (w.setCell ⟨g, k, none⟩ z) v l := by
  obtain ⟨hl, c', h | ⟨b, o, h1, h2⟩⟩ := h
  · exact ⟨hl, c', .inl h⟩
  · refine ⟨hl, c', .inr ⟨b, o, h1, by rw [World.size_setCell]; exact h2.1, fun j hj => ?_⟩⟩
    obtain ⟨e1, e2⟩ := h2.2 j hj
    constructor
    · rw [World.cell?_setCell_other _ _ _ _ (fun e => by rw [e] at hx; rw [hx] at e1; cases e1)]; exact e1
    · rw [World.cell?_setCell_other _ _ _ _ (fun e => by rw [e] at hx; rw [hx] at e2; cases e2)]; exact e2
theorem PinsAt.older {w w' : World} {g : Nat} {v : Value} {l : List (Int × Int)} (h : PinsAt w v l) (hb : Below w.heap.size w w') (hg : w.heap.size ≤ g) : PinsOff w' g v l := by
  obtain ⟨hl, c, h | ⟨b, o, h1, h2⟩⟩ := h
  · exact ⟨hl, c, .inl h⟩
  · exact ⟨hl, c, .inr ⟨b, o, by have := h2.1; omega, h1, h2.below hb⟩⟩
theorem pins_new_owns {w : World} {base : Nat} {v : Value} {l : List (Int × Int)} (h : w.ownsRow base 57 2 v l.length (flat l)) (hl : l.length ≤ 70368744177664) : PinsNew w base v l := by
  refine ⟨hl, ?_⟩
  have h0 := h
  rcases h.2 with ⟨h1, h2⟩ | ⟨g, cap, cur, h1, h2, h3, h4⟩
  · exact ⟨0, .inl ⟨List.length_eq_zero_iff.1 h2, none, h1⟩⟩
  · refine ⟨cap, .inr ⟨g, 0, h2, h1, ?_, ?_⟩⟩
    · rcases Nat.lt_or_ge g w.heap.size with h | h
      · exact h
      · rw [Array.getElem?_eq_none h] at h3; cases h3
    · intro j hj
      subst h1
      obtain ⟨e1, e2⟩ := flat_get l j hj
      rw [Nat.zero_add]
      exact ⟨(h0.cellAt (j * 2) (by omega)).trans e1, (h0.cellAt (j * 2 + 1) (by omega)).trans e2⟩
theorem PinsOff.below {w w' : World} {g : Nat} {v : Value} {l : List (Int × Int)} (h : PinsOff w g v l) (hb : Below w.heap.size w w') : PinsOff w' g v l := by
  obtain ⟨hl, c, h | ⟨b, o, h0, h1, h2⟩⟩ := h
  · exact ⟨hl, c, .inl h⟩
  · exact ⟨hl, c, .inr ⟨b, o, h0, h1, h2.below hb⟩⟩
theorem PinsOff.other {w : World} {g k b' : Nat} {v z : Value} {l : List (Int × Int)} {w0 : World} (h : PinsOff w g v l) (ho : PinsAt w0 v l) (hg : w0.heap.size ≤ b') : PinsOff (w.setCell ⟨b', k, none⟩ z) g v l := by
  obtain ⟨hl, c, h | ⟨b, o, h0, h1, h2⟩⟩ := h
  · exact ⟨hl, c, .inl h⟩
  · obtain ⟨_, c', ⟨h3, _⟩ | ⟨b2, o2, h4, h5⟩⟩ := ho
    · exact ⟨hl, c, .inl ⟨h3, _, by rw [h1, h3]; rfl⟩⟩
    · rw [h1] at h4
      simp only [Value.slice.injEq, Option.some.injEq, Addr.mk.injEq] at h4
      exact ⟨hl, c, .inr ⟨b, o, h0, h1, h2.set (by have := h5.1; omega)⟩⟩
theorem PinsNew.setO {w w0 : World} {base g k : Nat} {v z : Value} {l : List (Int × Int)} (h : PinsNew w base v l) (ho : PinsAt w0 v l) (hg : w0.heap.size ≤ g) : PinsNew (w.setCell ⟨g, k, none⟩ z) base v l := by
  obtain ⟨hl, c, h | ⟨b, o, h0, h1, h2⟩⟩ := h
  · exact ⟨hl, c, .inl h⟩
  · obtain ⟨_, c', ⟨h3, _⟩ | ⟨b2, o2, h4, h5⟩⟩ := ho
    · exact ⟨hl, c, .inl ⟨h3, _, by rw [h1, h3]; rfl⟩⟩
    · rw [h1] at h4
      simp only [Value.slice.injEq, Option.some.injEq, Addr.mk.injEq] at h4
      exact ⟨hl, c, .inr ⟨b, o, h0, h1, h2.set (by have := h5.1; omega)⟩⟩
theorem pinsNew_none (w : World) (base : Nat) : PinsNew w base (.slice none 0 0) [] := ⟨by simp, 0, .inl ⟨rfl, none, rfl⟩⟩
theorem pinsOff_none (w : World) (g : Nat) : PinsOff w g (.slice none 0 0) [] := ⟨by simp, 0, .inl ⟨rfl, none, rfl⟩⟩
end Go.Proofs.YtpenkhehceglfaaGreatDoor
/- The contract of slices.Clone at pins. -/
namespace Go.Proofs.YtpenkhehceglfaaGreatDoor
open Go.RowKit
theorem flat_one (l : List (Int × Int)) : ∀ u ∈ flat l, u.oneCell' = true := by
  intro u hu
  induction l with
  | nil => cases hu
  | cons p r ih =>
    simp only [flat, List.mem_cons] at hu
    rcases hu with rfl | rfl | hu
    · rfl
    · rfl
    · exact ih hu
theorem flat_at (l : List (Int × Int)) {b o : Nat} {w : World} (h : ∀ j, j < l.length → w.cell? ⟨b, o + j * 2, none⟩ = some (.int .i64 (l.getD j (0, 0)).1) ∧ w.cell? ⟨b, o + j * 2 + 1, none⟩ = some (.int .i64 (l.getD j (0, 0)).2)) :
    ∀ j u, (flat l)[j]? = some u → w.cell? ((⟨b, o, none⟩ : Addr).add j) = some u := by
  intro j u hj
  have hadd : (⟨b, o, none⟩ : Addr).add j = ⟨b, o + j, none⟩ := by unfold Addr.add; split <;> simp_all
  have hjl : j < l.length * 2 := by
    have := (List.getElem?_eq_some_iff.1 hj).1
    rwa [flat_len] at this
  rw [hadd]
  obtain ⟨e0, e1⟩ := flat_get l (j / 2) (by omega)
  obtain ⟨c0, c1⟩ := h (j / 2) (by omega)
  have hq : j = j / 2 * 2 ∨ j = j / 2 * 2 + 1 := by omega
  rcases hq with hq | hq
  · rw [hq] at hj ⊢
    rw [e0] at hj; rw [c0]; exact hj
  · rw [hq] at hj ⊢
    rw [e1] at hj; rw [← Nat.add_assoc, c1]; exact hj
theorem eqNilP (A : Option Addr) (n c : Nat) (w : World) : (binOp .eql 22 (.slice A n c) (.slice none 0 0)).run Tryz.prog w = .ok (.bool A.isNone) w := by
  have h := run_equal_slice_nil (P := Tryz.prog) w 22 57 A n c Tryz.underlying22
  simp [binOp, h]
set_option maxHeartbeats 2000000 in
theorem clonePins_any (v : Value) (l : List (Int × Int)) (w : World) (hP : PinsAt w v l) (hl : l.length ≤ 12) :
    Calls Tryz.prog 43 #[v] w fun e w' => (∃ y, e = .returned y ∧ PinsNew w' w.heap.size y l) ∧ Below w.heap.size w w' := by
  obtain ⟨i0, hi, hz0, hz1, hz2⟩ := info_parts Tryz.info57
  obtain ⟨A, b, o, c, rfl, -, hA, hC⟩ := hP.open
  clear hP
  cases A with
  | none =>
    have h0 : l.length = 0 := by
      rcases Nat.eq_zero_or_pos l.length with h | h
      · exact h
      · have := (hA h).1; cases this
    have hq := eqNilP none l.length c
    have HN : Hid (l = []) := List.length_eq_zero_iff.1 h0
    clear hA hC hl h0
    go_enter Tryz.func43, Tryz.ntmps43
    go_wp2
    go_ret
    exact ⟨⟨_, rfl, by rw [HN.out]; exact ⟨by simp, 0, .inl ⟨rfl, none, rfl⟩⟩⟩, Below.refl _ _⟩
  | some ad =>
    have HNW : Hid (∀ j u, (flat l)[j]? = some u → (w.alloc (.cells #[] 57)).cell? (ad.add j) = some u) := fun j u hj => by
      have hjl : 0 < l.length := by
        have := (List.getElem?_eq_some_iff.1 hj).1
        rw [flat_len] at this
        omega
      obtain ⟨e, hb⟩ := hA hjl
      cases e
      have := flat_at l hC j u hj
      have hadd : (⟨b, o, none⟩ : Addr).add j = ⟨b, o + j, none⟩ := by unfold Addr.add; split <;> simp_all
      rw [hadd] at this ⊢
      exact (((Below.refl _ w).alloc (Nat.le_refl _) _).cell (p := ⟨b, o + j, none⟩) hb).trans this
    have hq := eqNilP (some ad) l.length c
    clear hA hC
    go_enter Tryz.func43, Tryz.ntmps43
    go_wp2_with (at_builtin; refine wpList_append_own _ rfl _ _ 22 rfl w.heap.size 57 i0 (.agg #[.int .i64 0, .int .i64 0]) 2 16 Tryz.underlying22 hi hz0 hz1 hz2 rfl (by decide) _ 0 [] rfl (World.ownsRow_made w #[] 0 (Nat.le_refl _) (by decide) rfl) ad l.length c (flat l) rfl (flat_len l) HNW.out (flat_one l) ?c3 ?c4 ?c5 ?_)
    case c3 => unfold maxLen; omega
    case c4 => omega
    case c5 => simp
    intro v' w3 hown hgrow _
    have HO : Hid (PinsNew w3 w.heap.size v' l) := pins_new_owns hown (by omega)
    have HB3 : Hid (Below w.heap.size w w3) := ((Below.refl _ w).alloc (Nat.le_refl _) _).grown hgrow (by simp) (fun q hq => by cases hq; exact Nat.le_refl _)
    clear hown hgrow
    go_wp2
    go_ret
    exact ⟨⟨_, rfl, HO.out⟩, HB3.out⟩
end Go.Proofs.YtpenkhehceglfaaGreatDoor
/- A block of the call's own, whole: its cells outlive calls. -/
namespace Go.Proofs.YtpenkhehceglfaaGreatDoor
open Go.RowKit
/-- a block of the call's own, whole -/
def Blk (w : World) (b : Nat) (cs : Array Value) (t : TypeId) : Prop := w.heap[b]? = some (.cells cs t (0, 0))
theorem Blk.lt {w : World} {b : Nat} {cs : Array Value} {t : TypeId} (h : Blk w b cs t) : b < w.heap.size := (Array.getElem?_eq_some_iff.1 h).1
theorem Blk.below {w w' : World} {b : Nat} {cs : Array Value} {t : TypeId} (h : Blk w b cs t) (hb : Below w.heap.size w w') : Blk w' b cs t := (hb.block b h.lt).trans h
theorem Blk.cell {w : World} {b : Nat} {cs : Array Value} {t : TypeId} (h : Blk w b cs t) (i : Nat) : w.cell? ⟨b, i, none⟩ = cs[i]? := by
  unfold Blk at h; simp [World.cell?, h]
theorem Blk.free {w : World} {b : Nat} {cs : Array Value} {t : TypeId} (h : Blk w b cs t) (i : Nat) : w.frozen? ⟨b, i, none⟩ = false := by
  unfold Blk at h; simp [World.frozen?, h]
theorem blk_alloc (w : World) (cs : Array Value) (t : TypeId) : Blk (w.alloc (.cells cs t)) w.heap.size cs t := heap_alloc_new w _
end Go.Proofs.YtpenkhehceglfaaGreatDoor
/- What stays true whatever is written elsewhere; worlds with one, two, three, four blocks more. (The same texts stand in LeadAt: where a seat wants both, LeadAt drops its own.) -/
namespace Go.Proofs.YtpenkhehceglfaaGreatDoor
open Go.RowKit
/-- the worlds that differ from w in blocks of S alone, and in new ones -/
def Aside (S : Nat → Prop) (w w' : World) : Prop := w'.os = w.os ∧ w'.tape = w.tape ∧ w'.output = w.output ∧ w.heap.size ≤ w'.heap.size ∧ ∀ b, b < w.heap.size → ¬ S b → w'.heap[b]? = w.heap[b]?
/-- what stays true whatever is written into blocks of S -/
def Keep (S : Nat → Prop) (P : World → Prop) (w : World) : Prop := ∀ w', Aside S w w' → P w'
def Off (g : Nat) (P : World → Prop) (w : World) : Prop := Keep (fun b => b = g) P w
def New (base : Nat) (P : World → Prop) (w : World) : Prop := Keep (fun b => b < base) P w
def Stab (P : World → Prop) : Prop := ∀ w w', P w → Below w.heap.size w w' → P w'
theorem aside_refl (S : Nat → Prop) (w : World) : Aside S w w := ⟨rfl, rfl, rfl, Nat.le_refl _, fun _ _ _ => rfl⟩
theorem Keep.here {S : Nat → Prop} {P : World → Prop} {w : World} (h : Keep S P w) : P w := h w (aside_refl S w)
theorem aside_below {S : Nat → Prop} {w w' w'' : World} (hb : Below w.heap.size w w') (h : Aside S w' w'') : Aside S w w'' := by
  obtain ⟨h1, h2, h3, h4, h5⟩ := h
  exact ⟨h1.trans hb.os, h2.trans hb.tape, h3.trans hb.output, Nat.le_trans hb.size h4, fun b hl hs => (h5 b (Nat.lt_of_lt_of_le hl hb.size) hs).trans (hb.block b hl)⟩
theorem Keep.below {S : Nat → Prop} {P : World → Prop} {w w' : World} (h : Keep S P w) (hb : Below w.heap.size w w') : Keep S P w' := fun w'' h'' => h w'' (aside_below hb h'')
theorem Keep.sub {S T : Nat → Prop} {P : World → Prop} {w : World} (h : Keep S P w) (hs : ∀ b, T b → S b) : Keep T P w := fun w' h' => h w' ⟨h'.1, h'.2.1, h'.2.2.1, h'.2.2.2.1, fun b hl hn => h'.2.2.2.2 b hl (fun ht => hn (hs b ht))⟩
theorem Keep.set {S : Nat → Prop} {P : World → Prop} {w : World} (h : Keep S P w) {a : Addr} (ha : S a.block) (z : Value) : Keep S P (w.setCell a z) := fun w'' h'' => h w'' (by
  obtain ⟨h1, h2, h3, h4, h5⟩ := h''
  rw [World.size_setCell] at h4 h5
  exact ⟨h1, h2, h3, h4, fun b hl hn => (h5 b hl hn).trans (Below.heap_setCell w a z b (fun e => hn (e ▸ ha)))⟩)
theorem Keep.mono {S : Nat → Prop} {P Q : World → Prop} {w : World} (h : Keep S P w) (hq : ∀ w', P w' → Q w') : Keep S Q w := fun w' h' => hq w' (h w' h')
theorem Keep.older {S : Nat → Prop} {P : World → Prop} {w w' : World} (h : P w) (hst : Stab P) (hS : ∀ b, S b → w.heap.size ≤ b) (hb : Below w.heap.size w w') : Keep S P w' := fun w'' h'' => by
  refine hst w w'' h ?_
  obtain ⟨h1, h2, h3, h4, h5⟩ := aside_below hb h''
  exact ⟨h1, h2, h3, h4, fun b hl => h5 b hl (fun hs => by have := hS b hs; omega)⟩
theorem Keep.drew {S : Nat → Prop} {P : World → Prop} {w : World} (h : Keep S P w) : Keep S P w.drew := h.below (Below.refl _ w).drew
theorem New.off {base g : Nat} {P : World → Prop} {w : World} (h : New base P w) (hg : g < base) : Off g P w := Keep.sub h (fun b e => by rw [e]; exact hg)
theorem New.mono {base base' : Nat} {P : World → Prop} {w : World} (h : New base P w) (hb : base' ≤ base) : New base' P w := Keep.sub h (fun _ e => Nat.lt_of_lt_of_le e hb)
theorem keep_cell {S : Nat → Prop} {w w' : World} (h : Aside S w w') {a : Addr} (hl : a.block < w.heap.size) (hs : ¬ S a.block) : w'.cell? a = w.cell? a := World.cell?_of_block (w := w) (h.2.2.2.2 a.block hl hs)
theorem pins_stab (v : Value) (l : List (Int × Int)) : Stab (fun w => PinsAt w v l) := fun _ _ h hb => h.below hb
theorem pinsNew_keep {w : World} {base : Nat} {v : Value} {l : List (Int × Int)} (h : PinsNew w base v l) : New base (fun w => PinsAt w v l) w := fun w' h' => by
  obtain ⟨hl, c, h | ⟨b, o, h0, h1, h2⟩⟩ := h
  · exact ⟨hl, c, .inl h⟩
  · refine ⟨hl, c, .inr ⟨b, o, h1, Nat.lt_of_lt_of_le h2.1 h'.2.2.2.1, fun j hj => ?_⟩⟩
    rw [keep_cell h' (a := ⟨b, _, none⟩) h2.1 (by simp only []; omega), keep_cell h' (a := ⟨b, _, none⟩) h2.1 (by simp only []; omega)]
    exact h2.2 j hj
theorem box1 (w : World) (cs : Array Value) (t : TypeId) : Below w.heap.size w (w.alloc (.cells cs t)) ∧ Blk (w.alloc (.cells cs t)) w.heap.size cs t := ⟨(Below.refl _ w).alloc (Nat.le_refl _) _, blk_alloc w _ _⟩
theorem box2 (w : World) (cs cs' : Array Value) (t t' : TypeId) : Below w.heap.size w ((w.alloc (.cells cs t)).alloc (.cells cs' t')) ∧ Blk ((w.alloc (.cells cs t)).alloc (.cells cs' t')) w.heap.size cs t ∧ Blk ((w.alloc (.cells cs t)).alloc (.cells cs' t')) (w.heap.size + 1) cs' t' := by
  refine ⟨((Below.refl _ w).alloc (Nat.le_refl _) _).alloc (by simp) _, (blk_alloc w _ _).below ((Below.refl _ _).alloc (Nat.le_refl _) _), ?_⟩
  have := blk_alloc (w.alloc (.cells cs t)) cs' t'
  rwa [World.size_alloc] at this
theorem box3 (w : World) (cs cs' cs'' : Array Value) (t t' t'' : TypeId) : Below w.heap.size w (((w.alloc (.cells cs t)).alloc (.cells cs' t')).alloc (.cells cs'' t'')) ∧ Blk (((w.alloc (.cells cs t)).alloc (.cells cs' t')).alloc (.cells cs'' t'')) w.heap.size cs t ∧ Blk (((w.alloc (.cells cs t)).alloc (.cells cs' t')).alloc (.cells cs'' t'')) (w.heap.size + 1) cs' t' ∧ Blk (((w.alloc (.cells cs t)).alloc (.cells cs' t')).alloc (.cells cs'' t'')) (w.heap.size + 1 + 1) cs'' t'' := by
  obtain ⟨h1, h2, h3⟩ := box2 w cs cs' t t'
  have hb : Below ((w.alloc (.cells cs t)).alloc (.cells cs' t')).heap.size ((w.alloc (.cells cs t)).alloc (.cells cs' t')) (((w.alloc (.cells cs t)).alloc (.cells cs' t')).alloc (.cells cs'' t'')) := (Below.refl _ _).alloc (Nat.le_refl _) _
  refine ⟨h1.trans (hb.mono h1.size), h2.below hb, h3.below hb, ?_⟩
  have := blk_alloc ((w.alloc (.cells cs t)).alloc (.cells cs' t')) cs'' t''
  rwa [World.size_alloc, World.size_alloc] at this
theorem box4 (w : World) (cs cs' cs'' cs3 : Array Value) (t t' t'' t3 : TypeId) : Below w.heap.size w ((((w.alloc (.cells cs t)).alloc (.cells cs' t')).alloc (.cells cs'' t'')).alloc (.cells cs3 t3)) ∧ Blk ((((w.alloc (.cells cs t)).alloc (.cells cs' t')).alloc (.cells cs'' t'')).alloc (.cells cs3 t3)) w.heap.size cs t ∧ Blk ((((w.alloc (.cells cs t)).alloc (.cells cs' t')).alloc (.cells cs'' t'')).alloc (.cells cs3 t3)) (w.heap.size + 1) cs' t' ∧ Blk ((((w.alloc (.cells cs t)).alloc (.cells cs' t')).alloc (.cells cs'' t'')).alloc (.cells cs3 t3)) (w.heap.size + 1 + 1) cs'' t'' ∧ Blk ((((w.alloc (.cells cs t)).alloc (.cells cs' t')).alloc (.cells cs'' t'')).alloc (.cells cs3 t3)) (w.heap.size + 1 + 1 + 1) cs3 t3 := by
  obtain ⟨h1, h2, h3, h4⟩ := box3 w cs cs' cs'' t t' t''
  have hb : Below (((w.alloc (.cells cs t)).alloc (.cells cs' t')).alloc (.cells cs'' t'')).heap.size (((w.alloc (.cells cs t)).alloc (.cells cs' t')).alloc (.cells cs'' t'')) ((((w.alloc (.cells cs t)).alloc (.cells cs' t')).alloc (.cells cs'' t'')).alloc (.cells cs3 t3)) := (Below.refl _ _).alloc (Nat.le_refl _) _
  refine ⟨h1.trans (hb.mono h1.size), h2.below hb, h3.below hb, h4.below hb, ?_⟩
  have := blk_alloc (((w.alloc (.cells cs t)).alloc (.cells cs' t')).alloc (.cells cs'' t'')) cs3 t3
  rwa [World.size_alloc, World.size_alloc, World.size_alloc] at this
end Go.Proofs.YtpenkhehceglfaaGreatDoor
/- The contract of whole.Release; blocks that are written. -/
namespace Go.Proofs.YtpenkhehceglfaaGreatDoor
open Go.RowKit
theorem Blk.put {w : World} {b : Nat} {cs : Array Value} {t : TypeId} (h : Blk w b cs t) (i : Nat) (v : Value) : Blk (w.setCell ⟨b, i, none⟩ v) b (cs.setIfInBounds i v) t := by
  unfold Blk at h ⊢
  simp [World.setCell, Array.getElem?_modify, h]
theorem Blk.off {w : World} {b g o : Nat} {cs : Array Value} {t : TypeId} {u : Value} (h : Blk w b cs t) (hne : g ≠ b) : Blk (w.setCell ⟨g, o, none⟩ u) b cs t := by
  unfold Blk at h ⊢
  simp [World.setCell, Array.getElem?_modify, h, hne]
theorem chk_len {l : List (Int × Int)} (h : Lk.chk l = 0) : l.length ≤ 12 := by
  unfold Lk.chk at h
  by_cases hl : 12 < l.length
  · rw [if_pos hl] at h; exact absurd h (by decide)
  · omega
set_option maxHeartbeats 2000000 in
theorem wRel_any (i : Int) (v : Value) (l : List (Int × Int)) (w : World) (hP : PinsAt w v l) (hl : l.length ≤ 12) :
    Calls Tryz.prog 24 #[.agg #[.int .i64 i, v]] w fun e w' => (∃ y, e = .returned (.agg #[.int .i64 i, y]) ∧ PinsNew w' w.heap.size y l) ∧ Below w.heap.size w w' := by
  obtain ⟨a, c, rfl⟩ := pins_slice hP
  have HC : Hid (∀ w', Below w.heap.size w w' → Calls Tryz.prog 43 #[.slice a l.length c] w' fun e w'' => (∃ y, e = .returned y ∧ PinsNew w'' w'.heap.size y l) ∧ Below w'.heap.size w' w'') := fun w' hb => clonePins_any _ l w' (hP.below hb) hl
  clear hP hl
  have HB0 : Hid (Below w.heap.size w ((w.alloc (.cells #[.int .i64 i, .slice a l.length c] 24)).alloc (.cells #[.int .i64 0, .slice none 0 0] 24))) := ((Below.refl _ w).alloc (Nat.le_refl _) _).alloc (by simp) _
  have HK0 : Hid (Blk ((w.alloc (.cells #[.int .i64 i, .slice a l.length c] 24)).alloc (.cells #[.int .i64 0, .slice none 0 0] 24)) w.heap.size #[.int .i64 i, .slice a l.length c] 24) := (blk_alloc w _ _).below ((Below.refl _ _).alloc (Nat.le_refl _) _)
  have HZ0 : Hid (Blk ((w.alloc (.cells #[.int .i64 i, .slice a l.length c] 24)).alloc (.cells #[.int .i64 0, .slice none 0 0] 24)) (w.heap.size + 1) #[.int .i64 0, .slice none 0 0] 24) := by
    have := blk_alloc (w.alloc (.cells #[.int .i64 i, .slice a l.length c] 24)) #[.int .i64 0, .slice none 0 0] 24
    rwa [World.size_alloc] at this
  go_enter Tryz.func24, Tryz.ntmps24
  go_wp2_with fail
  generalize ((w.alloc (.cells #[.int .i64 i, .slice a l.length c] 24)).alloc (.cells #[.int .i64 0, .slice none 0 0] 24)) = W at HB0 HK0 HZ0 ⊢
  refine (HC.out _ HB0.out).mono ?_
  rintro e w1 ⟨⟨y, rfl, hy⟩, hb1⟩
  obtain ⟨ya, yc, rfl⟩ := pins_slice hy.pins
  have HY : Hid (PinsNew w1 W.heap.size (.slice ya l.length yc) l) := hy
  have HB1 : Hid (Below w.heap.size w w1) := HB0.out.trans (hb1.mono HB0.out.size)
  have hk := HK0.out.below hb1
  have hz := HZ0.out.below hb1
  have HL1 : Hid (w.heap.size < W.heap.size) := HK0.out.lt
  have HL2 : Hid (w.heap.size + 1 < W.heap.size) := HZ0.out.lt
  clear hy hb1 HB0 HK0 HZ0 HC
  have k0 := hk.cell 0
  have k1 := hk.cell 1
  simp only [List.getElem?_toArray, List.getElem?_cons_zero, List.getElem?_cons_succ] at k0 k1
  have kf0 := hk.free 0
  have kf1 := hk.free 1
  have d0 := hz.cell 0
  have d1 := hz.cell 1
  simp only [List.getElem?_toArray, List.getElem?_cons_zero, List.getElem?_cons_succ] at d0 d1
  have df0 := hz.free 0
  have df1 := hz.free 1
  clear hk hz
  go_wp2
  refine bodyPost_ret (v := .agg #[.int .i64 i, .slice ya l.length yc]) (by simp [results, Tryz.results24, go_sem, d0, d1]) rfl ⟨⟨_, rfl, ?_⟩, ?_⟩
  · exact (((HY.out.set HL1.out).set HL2.out).set HL2.out).mono (Nat.le_of_lt HL1.out)
  · exact (((HB1.out.setCell (Nat.le_refl _) _).setCell (Nat.le_succ _) _).setCell (Nat.le_succ _) _)
end Go.Proofs.YtpenkhehceglfaaGreatDoor
