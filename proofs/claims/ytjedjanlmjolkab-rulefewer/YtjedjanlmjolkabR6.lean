/- The contracts of slices.Clone and slices.Reverse at rules, and of the law's 'at'. -/
import Derived.Test.YtjedjanlmjolkabR4
import Derived.BigRegion
import Derived.Laws.AppendOwnNone
import Derived.Laws.Cover3
namespace Go.Proofs.Ytjedjanlmjolkab
open Go.RowKit
theorem infoRule : (Try.prog.info? 39).map (fun i => (i.zero, i.size, i.bytes)) = some (some (.agg #[.int .i64 0, .int .i64 0, .int .i64 0, .int .i64 0]), 4, 32) := by kernel_rfl
/-- the cells of rules, one after the other -/
def flatR : List Rk.Rl → List Value
  | [] => []
  | p :: r => .int .i64 p.1 :: .int .i64 p.2.1 :: .int .i64 p.2.2.1 :: .int .i64 p.2.2.2 :: flatR r
theorem flatR_len (l : List Rk.Rl) : (flatR l).length = l.length * 4 := by
  induction l with
  | nil => rfl
  | cons p r ih => simp [flatR, ih]; omega
theorem flatR_get (l : List Rk.Rl) : ∀ j, j < l.length → (flatR l)[j * 4]? = some (.int .i64 (l.getD j (0, 0, 0, 0)).1) ∧ (flatR l)[j * 4 + 1]? = some (.int .i64 (l.getD j (0, 0, 0, 0)).2.1) ∧ (flatR l)[j * 4 + 2]? = some (.int .i64 (l.getD j (0, 0, 0, 0)).2.2.1) ∧ (flatR l)[j * 4 + 3]? = some (.int .i64 (l.getD j (0, 0, 0, 0)).2.2.2) := by
  induction l with
  | nil => intro j h; simp at h
  | cons p r ih =>
    intro j hj
    cases j with
    | zero => simp [flatR]
    | succ j =>
      have := ih j (by simpa using hj)
      rw [show (j + 1) * 4 = j * 4 + 1 + 1 + 1 + 1 from by omega]
      simpa [flatR] using this
theorem flatR_at (l : List Rk.Rl) {b o : Nat} {w : World} (h : ∀ j, j < l.length → w.cell? ⟨b, o + j * 4, none⟩ = some (.int .i64 (l.getD j (0, 0, 0, 0)).1) ∧ w.cell? ⟨b, o + j * 4 + 1, none⟩ = some (.int .i64 (l.getD j (0, 0, 0, 0)).2.1) ∧ w.cell? ⟨b, o + j * 4 + 2, none⟩ = some (.int .i64 (l.getD j (0, 0, 0, 0)).2.2.1) ∧ w.cell? ⟨b, o + j * 4 + 3, none⟩ = some (.int .i64 (l.getD j (0, 0, 0, 0)).2.2.2)) :
    ∀ j u, (flatR l)[j]? = some u → w.cell? ((⟨b, o, none⟩ : Addr).add j) = some u := by
  intro j u hj
  have hadd : (⟨b, o, none⟩ : Addr).add j = ⟨b, o + j, none⟩ := by unfold Addr.add; split <;> simp_all
  have hjl : j < l.length * 4 := by
    have := (List.getElem?_eq_some_iff.1 hj).1
    rwa [flatR_len] at this
  rw [hadd]
  obtain ⟨e0, e1, e2, e3⟩ := flatR_get l (j / 4) (by omega)
  obtain ⟨c0, c1, c2, c3⟩ := h (j / 4) (by omega)
  have hq : j = j / 4 * 4 ∨ j = j / 4 * 4 + 1 ∨ j = j / 4 * 4 + 2 ∨ j = j / 4 * 4 + 3 := by omega
  rcases hq with hq | hq | hq | hq
  · rw [hq] at hj ⊢
    rw [e0] at hj; rw [c0]; exact hj
  · rw [hq] at hj ⊢
    rw [e1] at hj; rw [← Nat.add_assoc, c1]; exact hj
  · rw [hq] at hj ⊢
    rw [e2] at hj; rw [← Nat.add_assoc, c2]; exact hj
  · rw [hq] at hj ⊢
    rw [e3] at hj; rw [← Nat.add_assoc, c3]; exact hj
theorem flatR_one (l : List Rk.Rl) : ∀ u ∈ flatR l, u.oneCell' = true := by
  intro u hu
  induction l with
  | nil => cases hu
  | cons p r ih =>
    simp only [flatR, List.mem_cons] at hu
    rcases hu with rfl | rfl | rfl | rfl | hu
    · rfl
    · rfl
    · rfl
    · rfl
    · exact ih hu
/-- rules in a row of the call's own: what they are is told by their cells -/
def OwnR (w : World) (base : Nat) (v : Value) (n : Nat) (f : Nat → Rk.Rl) : Prop :=
  (v = .slice none 0 0 ∧ n = 0) ∨ ∃ g c, v = .slice (some ⟨g, 0, none⟩) n c ∧ n ≤ c ∧ base ≤ g ∧ g < w.heap.size ∧ (∀ j, w.frozen? ⟨g, j, none⟩ = false) ∧
    ∀ j, j < n → w.cell? ⟨g, j * 4, none⟩ = some (.int .i64 (f j).1) ∧ w.cell? ⟨g, j * 4 + 1, none⟩ = some (.int .i64 (f j).2.1) ∧ w.cell? ⟨g, j * 4 + 2, none⟩ = some (.int .i64 (f j).2.2.1) ∧ w.cell? ⟨g, j * 4 + 3, none⟩ = some (.int .i64 (f j).2.2.2)
theorem own_of_row {w : World} {base : Nat} {v : Value} {l : List Rk.Rl} (h : w.ownsRow base 39 4 v l.length (flatR l)) : OwnR w base v l.length (fun j => l.getD j (0, 0, 0, 0)) := by
  have h0 := h
  rcases h.2 with ⟨h1, h2⟩ | ⟨g, cap, cur, h1, h2, h3, h4, _⟩
  · exact .inl ⟨h1, h2⟩
  · subst h1
    refine .inr ⟨g, cap, rfl, h4, h2, (Array.getElem?_eq_some_iff.1 h3).1, fun j => frozen_of_row w g j _ _ h3, fun j hj => ?_⟩
    obtain ⟨e0, e1, e2, e3⟩ := flatR_get l j hj
    exact ⟨(h0.cellAt (j * 4) (by omega)).trans e0, (h0.cellAt (j * 4 + 1) (by omega)).trans e1, (h0.cellAt (j * 4 + 2) (by omega)).trans e2, (h0.cellAt (j * 4 + 3) (by omega)).trans e3⟩
theorem OwnR.rules {w : World} {base : Nat} {v : Value} {l : List Rk.Rl} (h : OwnR w base v l.length (fun j => l.getD j (0, 0, 0, 0))) (hl : l.length ≤ 1000) : RulesAt w v l := by
  rcases h with ⟨rfl, h2⟩ | ⟨g, c, rfl, h2, _, h4, _, h6⟩
  · exact ⟨by omega, none, 0, 0, 0, by rw [h2], by omega, fun h => absurd h (by omega), fun j hj => absurd hj (by omega)⟩
  · exact ⟨by omega, _, g, 0, c, rfl, h2, fun _ => ⟨rfl, h4⟩, fun j hj => by simpa using h6 j hj⟩
theorem eqNil (A : Option Addr) (n c : Nat) (w : World) : (binOp .eql 23 (.slice A n c) (.slice none 0 0)).run Try.prog w = .ok (.bool A.isNone) w := by
  have h := run_equal_slice_nil (P := Try.prog) w 23 39 A n c Try.underlying23
  simp [binOp, h]
set_option maxHeartbeats 2000000 in
theorem clone_any (v : Value) (l : List Rk.Rl) (w : World) (hR : RulesAt w v l) (hl : l.length ≤ 10) :
    Calls Try.prog 15 #[v] w fun e w' => (∃ y, e = .returned y ∧ OwnR w' w.heap.size y l.length (fun j => l.getD j (0, 0, 0, 0))) ∧ Below w.heap.size w w' := by
  obtain ⟨i0, hi, hz0, hz1, hz2⟩ := info_parts infoRule
  obtain ⟨-, A, b, o, c, rfl, -, hA, hC⟩ := hR
  cases A with
  | none =>
    have h0 : l.length = 0 := by
      rcases Nat.eq_zero_or_pos l.length with h | h
      · exact h
      · have := (hA h).1; cases this
    have hq := eqNil none l.length c
    have HN : Hid (l.length = 0) := h0
    clear hA hC hl h0
    go_enter Try.func15, Try.ntmps15
    go_wp2
    go_ret
    exact ⟨⟨_, rfl, .inl ⟨rfl, HN.out⟩⟩, Below.refl _ _⟩
  | some ad =>
    have HNW : Hid (∀ j u, (flatR l)[j]? = some u → (w.alloc (.cells #[] 39)).cell? (ad.add j) = some u) := fun j u hj => by
      have hjl : 0 < l.length := by
        have := (List.getElem?_eq_some_iff.1 hj).1
        rw [flatR_len] at this
        omega
      obtain ⟨e, hb⟩ := hA hjl
      cases e
      have := flatR_at l hC j u hj
      have hadd : (⟨b, o, none⟩ : Addr).add j = ⟨b, o + j, none⟩ := by unfold Addr.add; split <;> simp_all
      rw [hadd] at this ⊢
      exact (((Below.refl _ w).alloc (Nat.le_refl _) _).cell (p := ⟨b, o + j, none⟩) hb).trans this
    have hq := eqNil (some ad) l.length c
    clear hA hC
    go_enter Try.func15, Try.ntmps15
    go_wp2_with (at_builtin; refine wpList_append_own _ rfl _ _ 23 rfl w.heap.size 39 i0 (.agg #[.int .i64 0, .int .i64 0, .int .i64 0, .int .i64 0]) 4 32 Try.underlying23 hi hz0 hz1 hz2 rfl (by decide) _ 0 [] rfl (World.ownsRow_made w #[] 0 (Nat.le_refl _) (by decide) rfl) ad l.length c (flatR l) rfl (flatR_len l) HNW.out (flatR_one l) ?c3 ?c4 ?c5 ?_)
    case c3 => unfold maxLen; omega
    case c4 => omega
    case c5 => simp
    intro v' w3 hown hgrow _
    have HO : Hid (OwnR w3 w.heap.size v' l.length (fun j => l.getD j (0, 0, 0, 0))) := by
      exact own_of_row hown
    have HB3 : Hid (Below w.heap.size w w3) := ((Below.refl _ w).alloc (Nat.le_refl _) _).grown hgrow (by simp) (fun q hq => by cases hq; exact Nat.le_refl _)
    clear hown hgrow
    go_wp2
    go_ret
    exact ⟨⟨_, rfl, HO.out⟩, HB3.out⟩
/-- four cells in a row are written -/
def put4 (w : World) (g o : Nat) (p1 p2 p3 p4 : Int) : World := (((w.setCell ⟨g, o, none⟩ (.int .i64 p1)).setCell ⟨g, o + 1, none⟩ (.int .i64 p2)).setCell ⟨g, o + 2, none⟩ (.int .i64 p3)).setCell ⟨g, o + 3, none⟩ (.int .i64 p4)
theorem addr_ne {g x y : Nat} (h : x ≠ y) : (⟨g, x, none⟩ : Addr) ≠ ⟨g, y, none⟩ := fun e => h (by injection e)
theorem put4_other {w : World} {g o x : Nat} {p1 p2 p3 p4 : Int} (h : x < o ∨ o + 4 ≤ x) : (put4 w g o p1 p2 p3 p4).cell? ⟨g, x, none⟩ = w.cell? ⟨g, x, none⟩ := by
  unfold put4
  rw [World.cell?_setCell_other _ _ _ _ (addr_ne (by omega)), World.cell?_setCell_other _ _ _ _ (addr_ne (by omega)), World.cell?_setCell_other _ _ _ _ (addr_ne (by omega)), World.cell?_setCell_other _ _ _ _ (addr_ne (by omega))]
theorem put4_same {w : World} {g o : Nat} {p1 p2 p3 p4 : Int} {u1 u2 u3 u4 : Value} (h1 : w.cell? ⟨g, o, none⟩ = some u1) (h2 : w.cell? ⟨g, o + 1, none⟩ = some u2) (h3 : w.cell? ⟨g, o + 2, none⟩ = some u3) (h4 : w.cell? ⟨g, o + 3, none⟩ = some u4) :
    (put4 w g o p1 p2 p3 p4).cell? ⟨g, o, none⟩ = some (.int .i64 p1) ∧ (put4 w g o p1 p2 p3 p4).cell? ⟨g, o + 1, none⟩ = some (.int .i64 p2) ∧ (put4 w g o p1 p2 p3 p4).cell? ⟨g, o + 2, none⟩ = some (.int .i64 p3) ∧ (put4 w g o p1 p2 p3 p4).cell? ⟨g, o + 3, none⟩ = some (.int .i64 p4) := by
  unfold put4
  refine ⟨?_, ?_, ?_, ?_⟩
  · rw [World.cell?_setCell_other _ _ _ _ (addr_ne (by omega)), World.cell?_setCell_other _ _ _ _ (addr_ne (by omega)), World.cell?_setCell_other _ _ _ _ (addr_ne (by omega))]
    exact World.cell?_setCell_same _ _ _ h1
  · rw [World.cell?_setCell_other _ _ _ _ (addr_ne (by omega)), World.cell?_setCell_other _ _ _ _ (addr_ne (by omega))]
    exact World.cell?_setCell_same _ _ _ (by rw [World.cell?_setCell_other _ _ _ _ (addr_ne (by omega))]; exact h2)
  · rw [World.cell?_setCell_other _ _ _ _ (addr_ne (by omega))]
    exact World.cell?_setCell_same _ _ _ (by rw [World.cell?_setCell_other _ _ _ _ (addr_ne (by omega)), World.cell?_setCell_other _ _ _ _ (addr_ne (by omega))]; exact h3)
  · exact World.cell?_setCell_same _ _ _ (by rw [World.cell?_setCell_other _ _ _ _ (addr_ne (by omega)), World.cell?_setCell_other _ _ _ _ (addr_ne (by omega)), World.cell?_setCell_other _ _ _ _ (addr_ne (by omega))]; exact h4)
theorem put4_below {B : Nat} {a w : World} {g o : Nat} {p1 p2 p3 p4 : Int} (h : Below B a w) (hg : B ≤ g) : Below B a (put4 w g o p1 p2 p3 p4) := (((h.setCell hg _).setCell hg _).setCell hg _).setCell hg _
theorem put4_size {w : World} {g o : Nat} {p1 p2 p3 p4 : Int} : (put4 w g o p1 p2 p3 p4).heap.size = w.heap.size := by simp [put4]
theorem put4_frozen {w : World} {g o : Nat} {p1 p2 p3 p4 : Int} (b : Addr) : (put4 w g o p1 p2 p3 p4).frozen? b = w.frozen? b := by simp [put4]
/-- a list, half turned: the first k and the last k have changed places -/
def half (l : List Rk.Rl) (k j : Nat) : Rk.Rl := if j < k ∨ l.length - k ≤ j then l.getD (l.length - 1 - j) (0, 0, 0, 0) else l.getD j (0, 0, 0, 0)
/-- the cells of a list, half turned -/
def HalfAt (w : World) (g : Nat) (l : List Rk.Rl) (k : Nat) : Prop := ∀ j, j < l.length → w.cell? ⟨g, j * 4, none⟩ = some (.int .i64 (half l k j).1) ∧ w.cell? ⟨g, j * 4 + 1, none⟩ = some (.int .i64 (half l k j).2.1) ∧ w.cell? ⟨g, j * 4 + 2, none⟩ = some (.int .i64 (half l k j).2.2.1) ∧ w.cell? ⟨g, j * 4 + 3, none⟩ = some (.int .i64 (half l k j).2.2.2)
theorem swap_cells {wr : World} {g k i : Nat} {l : List Rk.Rl} {p1 p2 p3 p4 q1 q2 q3 q4 : Int} (hki : k < i) (hI : i = l.length - 1 - k) (hil : i < l.length)
    (HCk : HalfAt wr g l k) (hPK : l.getD k (0, 0, 0, 0) = (p1, p2, p3, p4)) (hPI : l.getD i (0, 0, 0, 0) = (q1, q2, q3, q4)) :
    HalfAt (put4 (put4 wr g (k * 4) q1 q2 q3 q4) g (i * 4) p1 p2 p3 p4) g l (k + 1) := fun j hj => by
  by_cases hjk : j = k
  · have e : half l (k + 1) j = (q1, q2, q3, q4) := by rw [hjk]; unfold half; rw [if_pos (by omega), ← hPI, hI]
    obtain ⟨a1, a2, a3, a4⟩ := HCk j hj
    rw [e]
    rw [← hjk]
    have o1 := put4_other (w := put4 wr g (j * 4) q1 q2 q3 q4) (g := g) (o := i * 4) (x := j * 4) (p1 := p1) (p2 := p2) (p3 := p3) (p4 := p4) (by omega)
    have o2 := put4_other (w := put4 wr g (j * 4) q1 q2 q3 q4) (g := g) (o := i * 4) (x := j * 4 + 1) (p1 := p1) (p2 := p2) (p3 := p3) (p4 := p4) (by omega)
    have o3 := put4_other (w := put4 wr g (j * 4) q1 q2 q3 q4) (g := g) (o := i * 4) (x := j * 4 + 2) (p1 := p1) (p2 := p2) (p3 := p3) (p4 := p4) (by omega)
    have o4 := put4_other (w := put4 wr g (j * 4) q1 q2 q3 q4) (g := g) (o := i * 4) (x := j * 4 + 3) (p1 := p1) (p2 := p2) (p3 := p3) (p4 := p4) (by omega)
    rw [o1, o2, o3, o4]
    exact put4_same a1 a2 a3 a4
  · by_cases hji : j = i
    · have e : half l (k + 1) j = (p1, p2, p3, p4) := by
        unfold half
        rw [if_pos (by omega), ← hPK]
        congr 1
        omega
      obtain ⟨b1, b2, b3, b4⟩ := HCk j hj
      rw [e]
      rw [← hji]
      have o1 := put4_other (w := wr) (g := g) (o := k * 4) (x := j * 4) (p1 := q1) (p2 := q2) (p3 := q3) (p4 := q4) (by omega)
      have o2 := put4_other (w := wr) (g := g) (o := k * 4) (x := j * 4 + 1) (p1 := q1) (p2 := q2) (p3 := q3) (p4 := q4) (by omega)
      have o3 := put4_other (w := wr) (g := g) (o := k * 4) (x := j * 4 + 2) (p1 := q1) (p2 := q2) (p3 := q3) (p4 := q4) (by omega)
      have o4 := put4_other (w := wr) (g := g) (o := k * 4) (x := j * 4 + 3) (p1 := q1) (p2 := q2) (p3 := q3) (p4 := q4) (by omega)
      exact put4_same (o1.trans b1) (o2.trans b2) (o3.trans b3) (o4.trans b4)
    · have e : half l (k + 1) j = half l k j := by
        unfold half
        by_cases hc : j < k ∨ l.length - k ≤ j
        · rw [if_pos hc, if_pos (by omega)]
        · rw [if_neg hc, if_neg (by omega)]
      have hd : ∀ x, j * 4 ≤ x → x < j * 4 + 4 → (put4 (put4 wr g (k * 4) q1 q2 q3 q4) g (i * 4) p1 p2 p3 p4).cell? ⟨g, x, none⟩ = wr.cell? ⟨g, x, none⟩ := fun x h1 h2 => by
        rw [put4_other (w := put4 wr g (k * 4) q1 q2 q3 q4) (g := g) (o := i * 4) (x := x) (by omega), put4_other (w := wr) (g := g) (o := k * 4) (x := x) (by omega)]
      rw [e, hd _ (by omega) (by omega), hd _ (by omega) (by omega), hd _ (by omega) (by omega), hd _ (by omega) (by omega)]
      exact HCk j hj
theorem half_end {l : List Rk.Rl} {k : Nat} (h : ¬ k < l.length - 1 - k) (h2 : 2 * k ≤ l.length + 1) : ∀ j, j < l.length → half l k j = l.reverse.getD j (0, 0, 0, 0) := fun j hj => by
  have e : l.reverse.getD j (0, 0, 0, 0) = l.getD (l.length - 1 - j) (0, 0, 0, 0) := by
    rw [List.getD_eq_getElem?_getD, List.getD_eq_getElem?_getD, List.getElem?_reverse hj]
  rw [e]
  unfold half
  by_cases hc' : j < k ∨ l.length - k ≤ j
  · rw [if_pos hc']
  · rw [if_neg hc']
    congr 1
    omega
set_option maxHeartbeats 4000000 in
theorem reverse_any (v : Value) (l : List Rk.Rl) (base : Nat) (w : World) (hl : l.length ≤ 10) (hO : OwnR w base v l.length (fun j => l.getD j (0, 0, 0, 0))) :
    Calls Try.prog 16 #[v] w fun e w' => e = .returned (.tuple #[]) ∧ OwnR w' base v l.length (fun j => l.reverse.getD j (0, 0, 0, 0)) ∧ Below base w w' := by
  rcases hO with ⟨rfl, h0⟩ | ⟨g, c, rfl, hc, hg, hgs, hfz, hcell⟩
  · have HN : Hid (l.length = 0) := h0
    clear h0 hl
    go_enter Try.func16, Try.ntmps16
    go_wp2
    go_loopg [2, 3] 0 (fun g s2 s3 wr => s2 = .int .i64 0 ∧ s3 = .int .i64 (-1) ∧ wr = w)
    case atStart => exact ⟨rfl, rfl, rfl⟩
    case round =>
      obtain ⟨rfl, rfl, rfl⟩ := hrel
      go_wp2
      go_end0
      exact ⟨rfl, .inl ⟨rfl, HN.out⟩, Below.refl _ _⟩
  · have HC : Hid (∀ j, j < l.length → w.cell? ⟨g, j * 4, none⟩ = some (.int .i64 (l.getD j (0, 0, 0, 0)).1) ∧ w.cell? ⟨g, j * 4 + 1, none⟩ = some (.int .i64 (l.getD j (0, 0, 0, 0)).2.1) ∧ w.cell? ⟨g, j * 4 + 2, none⟩ = some (.int .i64 (l.getD j (0, 0, 0, 0)).2.2.1) ∧ w.cell? ⟨g, j * 4 + 3, none⟩ = some (.int .i64 (l.getD j (0, 0, 0, 0)).2.2.2)) := hcell
    have HFZ : Hid (∀ j, w.frozen? ⟨g, j, none⟩ = false) := hfz
    clear hcell hfz
    go_enter Try.func16, Try.ntmps16
    go_wp2
    go_loopg [2, 3] l.length (fun gk s2 s3 wr => ∃ k : Nat, 2 * k ≤ l.length + 1 ∧ l.length - k ≤ gk ∧ s2 = .int .i64 k ∧ s3 = .int .i64 ((l.length : Int) - 1 - k) ∧ g < wr.heap.size ∧ Hid (∀ j, wr.frozen? ⟨g, j, none⟩ = false) ∧ Hid (HalfAt wr g l k) ∧ Hid (Below base w wr))
    case atStart =>
      refine ⟨0, by omega, by omega, rfl, by simp, hgs, HFZ, fun j hj => ?_, Below.refl _ _⟩
      have e : half l 0 j = l.getD j (0, 0, 0, 0) := by unfold half; rw [if_neg (by omega)]
      rw [e]
      exact HC.out j hj
    case round =>
      obtain ⟨k, hk, hgk, rfl, rfl, hgs', HF, HCk, HW⟩ := hrel
      by_cases hlt : k < l.length - 1 - k
      · obtain ⟨i, hi⟩ : ∃ i : Nat, i = l.length - 1 - k := ⟨_, rfl⟩
        have hii : (l.length : Int) - 1 - k = i := by omega
        have hil : i < l.length := by omega
        have hki : k < i := by omega
        have hkl : k < l.length := by omega
        obtain ⟨a1, a2, a3, a4⟩ := HCk.out k hkl
        obtain ⟨b1, b2, b3, b4⟩ := HCk.out i hil
        have ek : half l k k = l.getD k (0, 0, 0, 0) := by unfold half; rw [if_neg (by omega)]
        have ei : half l k i = l.getD i (0, 0, 0, 0) := by unfold half; rw [if_neg (by omega)]
        rw [ek] at a1 a2 a3 a4
        rw [ei] at b1 b2 b3 b4
        rw [hii]
        generalize hpk : l.getD k (0, 0, 0, 0) = P at a1 a2 a3 a4
        generalize hpi : l.getD i (0, 0, 0, 0) = Q at b1 b2 b3 b4
        have HPK : Hid (l.getD k (0, 0, 0, 0) = P) := hpk
        have HPI : Hid (l.getD i (0, 0, 0, 0) = Q) := hpi
        have HII : Hid (i = l.length - 1 - k) := hi
        have hf := HF.out
        obtain ⟨p1, p2, p3, p4⟩ := P
        obtain ⟨q1, q2, q3, q4⟩ := Q
        simp only at a1 a2 a3 a4 b1 b2 b3 b4
        clear hpk hpi ek ei hi hii
        have hki' : (k : Int) < i := by omega
        have hil' : (i : Int) < l.length := by omega
        have hkl' : (k : Int) < l.length := by omega
        go_wp2_with fail
        go_region
        have HWX : Hid (((((((((wr.setCell ⟨g, k * 4, none⟩ (.int .i64 q1)).setCell ⟨g, k * 4 + 1, none⟩ (.int .i64 q2)).setCell ⟨g, k * 4 + 2, none⟩ (.int .i64 q3)).setCell ⟨g, k * 4 + 3, none⟩ (.int .i64 q4)).setCell ⟨g, i * 4, none⟩ (.int .i64 p1)).setCell ⟨g, i * 4 + 1, none⟩ (.int .i64 p2)).setCell ⟨g, i * 4 + 2, none⟩ (.int .i64 p3)).setCell ⟨g, i * 4 + 3, none⟩ (.int .i64 p4)).drew = (put4 (put4 wr g (k * 4) q1 q2 q3 q4) g (i * 4) p1 p2 p3 p4).drew) := rfl
        rw [HWX.out]
        have HC1 : Hid (HalfAt (put4 (put4 wr g (k * 4) q1 q2 q3 q4) g (i * 4) p1 p2 p3 p4) g l (k + 1)) := swap_cells hki HII.out hil HCk.out HPK.out HPI.out
        have HF1 : Hid (∀ j, (put4 (put4 wr g (k * 4) q1 q2 q3 q4) g (i * 4) p1 p2 p3 p4).frozen? ⟨g, j, none⟩ = false) := fun j => by rw [put4_frozen, put4_frozen]; exact HF.out j
        have HW1 : Hid (Below base w (put4 (put4 wr g (k * 4) q1 q2 q3 q4) g (i * 4) p1 p2 p3 p4)) := put4_below (put4_below HW.out hg) hg
        have hg1 : g < (put4 (put4 wr g (k * 4) q1 q2 q3 q4) g (i * 4) p1 p2 p3 p4).heap.size := by rw [put4_size, put4_size]; exact hgs'
        generalize put4 (put4 wr g (k * 4) q1 q2 q3 q4) g (i * 4) p1 p2 p3 p4 = wx at HC1 HF1 HW1 hg1
        have HS3 : Hid (((l.length : Int) - 1 - ((k + 1 : Nat) : Int)) = (i : Int) - 1) := by have := HII.out; show _ = _; omega
        clear a1 a2 a3 a4 b1 b2 b3 b4 HCk HF hf HWX HPK HPI HII
        go_wp2
        go_roundg (l.length - (k + 1))
        case measure => omega
        case rel => exact ⟨k + 1, by omega, by omega, by go_num, by rw [HS3.out], hg1, HF1, HC1, HW1.out.drew⟩
      · have HR : Hid (∀ j, j < l.length → half l k j = l.reverse.getD j (0, 0, 0, 0)) := half_end hlt hk
        have HOW : Hid (OwnR wr base (.slice (some ⟨g, 0, none⟩) l.length c) l.length (fun j => l.reverse.getD j (0, 0, 0, 0))) := .inr ⟨g, c, rfl, hc, hg, hgs', HF.out, fun j hj => by
          have := HCk.out j hj
          rw [HR.out j hj] at this
          exact this⟩
        have hlt' : ¬ ((k : Int) < (l.length : Int) - 1 - k) := by omega
        have hlt2 : decide ((k : Int) < (l.length : Int) - 1 - k) = false := decide_eq_false hlt'
        clear hlt hlt' HCk HF
        go_wp2
        go_end0
        exact ⟨rfl, HOW.out, HW.out⟩
theorem tmod_range (k : Int) {n : Int} (h : 0 < n) : -n < k.tmod n ∧ k.tmod n < n := ⟨Int.lt_tmod_of_pos k h, Int.tmod_lt_of_pos k h⟩
set_option maxHeartbeats 1000000 in
theorem at_any (k : Int) (n : Nat) (hn : 1 ≤ n) (hn2 : n ≤ 1000) (w : World) :
    Calls Try.prog 17 #[.int .i64 k, .int .i64 n] w fun e w' => (∃ j : Nat, e = .returned (.int .i64 j) ∧ j < n) ∧ w' = w := by
  obtain ⟨h1, h2⟩ := tmod_range k (n := (n : Int)) (by omega)
  have hnz : ¬ ((n : Int) = 0) := by omega
  have hnz' : ((n : Int) == 0) = false := by simpa using hnz
  by_cases hs : k.tmod n < 0
  · have HJ : Hid (k.tmod n + n = ((k.tmod n + n).toNat : Int)) := by show _ = _; omega
    go_enter Try.func17, Try.ntmps17
    go_wp2
    go_ret
    exact ⟨⟨(k.tmod n + n).toNat, by rw [← HJ.out]; rfl, by omega⟩, rfl⟩
  · have hs' : 0 ≤ k.tmod n := by omega
    have HJ : Hid (k.tmod n = ((k.tmod n).toNat : Int)) := by show _ = _; omega
    clear hs
    go_enter Try.func17, Try.ntmps17
    go_wp2
    go_ret
    exact ⟨⟨(k.tmod n).toNat, by rw [← HJ.out]; rfl, by omega⟩, rfl⟩
end Go.Proofs.Ytjedjanlmjolkab
