/- The contract of slices.Clone at pins. -/
import Derived.Test.YtmlhipdfjnamiaaGreatPins
import Derived.Test.YtmlhipdfjnamiaaGreatPN
import Derived.Laws.AppendOwnNone
import Derived.Laws.Cover3
namespace Go.Proofs.YtmlhipdfjnamiaaGreat
open Go.RowKit
theorem flat_one (l : List (Int × Int)) : ∀ u ∈ flat l, u.oneCell' = true := by
  intro u hu
  induction l with
  | nil => cases hu
  | cons p r ih =>
    simp only [flat, List.mem_cons] at hu
    rcases hu with rfl | rfl | hu
    · rfl
    · rfl
    · exact ih hu
theorem flat_at (l : List (Int × Int)) {b o : Nat} {w : World} (h : ∀ j, j < l.length → w.cell? ⟨b, o + j * 2, none⟩ = some (.int .i64 (l.getD j (0, 0)).1) ∧ w.cell? ⟨b, o + j * 2 + 1, none⟩ = some (.int .i64 (l.getD j (0, 0)).2)) :
    ∀ j u, (flat l)[j]? = some u → w.cell? ((⟨b, o, none⟩ : Addr).add j) = some u := by
  intro j u hj
  have hadd : (⟨b, o, none⟩ : Addr).add j = ⟨b, o + j, none⟩ := by unfold Addr.add; split <;> simp_all
  have hjl : j < l.length * 2 := by
    have := (List.getElem?_eq_some_iff.1 hj).1
    rwa [flat_len] at this
  rw [hadd]
  obtain ⟨e0, e1⟩ := flat_get l (j / 2) (by omega)
  obtain ⟨c0, c1⟩ := h (j / 2) (by omega)
  have hq : j = j / 2 * 2 ∨ j = j / 2 * 2 + 1 := by omega
  rcases hq with hq | hq
  · rw [hq] at hj ⊢
    rw [e0] at hj; rw [c0]; exact hj
  · rw [hq] at hj ⊢
    rw [e1] at hj; rw [← Nat.add_assoc, c1]; exact hj
theorem eqNilP (A : Option Addr) (n c : Nat) (w : World) : (binOp .eql 22 (.slice A n c) (.slice none 0 0)).run Tryz.prog w = .ok (.bool A.isNone) w := by
  have h := run_equal_slice_nil (P := Tryz.prog) w 22 65 A n c Tryz.underlying22
  simp [binOp, h]
set_option maxHeartbeats 2000000 in
theorem clonePins_any (v : Value) (l : List (Int × Int)) (w : World) (hP : PinsAt w v l) (hl : l.length ≤ 12) :
    Calls Tryz.prog 76 #[v] w fun e w' => (∃ y, e = .returned y ∧ PinsNew w' w.heap.size y l) ∧ Below w.heap.size w w' := by
  obtain ⟨i0, hi, hz0, hz1, hz2⟩ := info_parts Tryz.info65
  obtain ⟨A, b, o, c, rfl, -, hA, hC⟩ := hP.open
  clear hP
  cases A with
  | none =>
    have h0 : l.length = 0 := by
      rcases Nat.eq_zero_or_pos l.length with h | h
      · exact h
      · have := (hA h).1; cases this
    have hq := eqNilP none l.length c
    have HN : Hid (l = []) := List.length_eq_zero_iff.1 h0
    clear hA hC hl h0
    go_enter Tryz.func76, Tryz.ntmps76
    go_wp2
    go_ret
    exact ⟨⟨_, rfl, by rw [HN.out]; exact ⟨by simp, 0, .inl ⟨rfl, none, rfl⟩⟩⟩, Below.refl _ _⟩
  | some ad =>
    have HNW : Hid (∀ j u, (flat l)[j]? = some u → (w.alloc (.cells #[] 65)).cell? (ad.add j) = some u) := fun j u hj => by
      have hjl : 0 < l.length := by
        have := (List.getElem?_eq_some_iff.1 hj).1
        rw [flat_len] at this
        omega
      obtain ⟨e, hb⟩ := hA hjl
      cases e
      have := flat_at l hC j u hj
      have hadd : (⟨b, o, none⟩ : Addr).add j = ⟨b, o + j, none⟩ := by unfold Addr.add; split <;> simp_all
      rw [hadd] at this ⊢
      exact (((Below.refl _ w).alloc (Nat.le_refl _) _).cell (p := ⟨b, o + j, none⟩) hb).trans this
    have hq := eqNilP (some ad) l.length c
    clear hA hC
    go_enter Tryz.func76, Tryz.ntmps76
    go_wp2_with (at_builtin; refine wpList_append_own _ rfl _ _ 22 rfl w.heap.size 65 i0 (.agg #[.int .i64 0, .int .i64 0]) 2 16 Tryz.underlying22 hi hz0 hz1 hz2 rfl (by decide) _ 0 [] rfl (World.ownsRow_made w #[] 0 (Nat.le_refl _) (by decide) rfl) ad l.length c (flat l) rfl (flat_len l) HNW.out (flat_one l) ?c3 ?c4 ?c5 ?_)
    case c3 => unfold maxLen; omega
    case c4 => omega
    case c5 => simp
    intro v' w3 hown hgrow _
    have HO : Hid (PinsNew w3 w.heap.size v' l) := pins_new_owns hown (by omega)
    have HB3 : Hid (Below w.heap.size w w3) := ((Below.refl _ w).alloc (Nat.le_refl _) _).grown hgrow (by simp) (fun q hq => by cases hq; exact Nat.le_refl _)
    clear hown hgrow
    go_wp2
    go_ret
    exact ⟨⟨_, rfl, HO.out⟩, HB3.out⟩
end Go.Proofs.YtmlhipdfjnamiaaGreat
