/- Rows of the call's own; the contracts of slices.Clone at releases and at what is known of agents. -/
import Derived.Test.YtmlhipdfjnamiaaGreatLV6
namespace Go.Proofs.YtmlhipdfjnamiaaGreat
open Go.RowKit
theorem Keep.grow {S S' : Nat → Prop} {Q : World → Prop} {w w' : World} (h : Keep S Q w) (hb : Below w.heap.size w w') (hs : ∀ x, S' x → S x ∨ w.heap.size ≤ x) : Keep S' Q w' := fun w'' h'' => by
  obtain ⟨h1, h2, h3, h4, h5⟩ := h''
  refine h w'' ⟨h1.trans hb.os, h2.trans hb.tape, h3.trans hb.output, Nat.le_trans hb.size h4, fun b hl hn => ?_⟩
  refine (h5 b (Nat.lt_of_lt_of_le hl hb.size) (fun hx => ?_)).trans (hb.block b hl)
  rcases hs b hx with h | h
  · exact hn h
  · omega
/-- a row: cells from the head of a block, that may be written -/
def Row (w : World) (g : Nat) (xs : List Value) : Prop := g < w.heap.size ∧ (∀ j, w.frozen? ⟨g, j, none⟩ = false) ∧ ∀ j u, xs[j]? = some u → w.cell? ⟨g, j, none⟩ = some u
theorem Row.below {w w' : World} {g : Nat} {xs : List Value} (h : Row w g xs) (hb : Below w.heap.size w w') : Row w' g xs :=
  ⟨Nat.lt_of_lt_of_le h.1 hb.size, fun j => (hb.frozen (p := ⟨g, j, none⟩) h.1).trans (h.2.1 j), fun j u hu => (hb.cell (p := ⟨g, j, none⟩) h.1).trans (h.2.2 j u hu)⟩
theorem frozen_set (w : World) (a p : Addr) (u : Value) : (w.setCell a u).frozen? p = w.frozen? p := by simp [go_sem]
theorem Row.put {w : World} {g i : Nat} {xs : List Value} (h : Row w g xs) (hi : i < xs.length) (u : Value) : Row (w.setCell ⟨g, i, none⟩ u) g (xs.set i u) := by
  refine ⟨by rw [World.size_setCell]; exact h.1, fun j => by rw [frozen_set]; exact h.2.1 j, fun j v hv => ?_⟩
  rw [List.getElem?_set] at hv
  by_cases e : i = j
  · subst e
    rw [if_pos rfl, if_pos hi] at hv
    rw [World.cell?_setCell_same _ _ _ (h.2.2 i _ (List.getElem?_eq_getElem hi))]; exact hv
  · rw [if_neg e] at hv
    rw [World.cell?_setCell_other _ _ _ _ (fun h => by injection h with _ h2; exact e h2)]
    exact h.2.2 j v hv
theorem Row.off {w : World} {g b i : Nat} {xs : List Value} (h : Row w g xs) (hne : b ≠ g) (u : Value) : Row (w.setCell ⟨b, i, none⟩ u) g xs := by
  refine ⟨by rw [World.size_setCell]; exact h.1, fun j => by rw [frozen_set]; exact h.2.1 j, fun j v hv => ?_⟩
  rw [World.cell?_setCell_other _ _ _ _ (fun h => by injection h with h1; exact hne h1)]
  exact h.2.2 j v hv
theorem Row.blk {w : World} {g : Nat} {cs : Array Value} {t : TypeId} (h : Blk w g cs t) : Row w g cs.toList := ⟨h.lt, fun j => h.free j, fun j u hu => by rw [h.cell j]; simpa using hu⟩
/-- a row's room: so many cells of this type -/
def Cap (w : World) (g : Nat) (e : TypeId) (n : Nat) : Prop := ∃ cur, w.heap[g]? = some (.cells cur e (0, 0)) ∧ cur.size = n
theorem Cap.below {w w' : World} {g n : Nat} {e : TypeId} (h : Cap w g e n) (hb : Below w.heap.size w w') : Cap w' g e n := by
  obtain ⟨cur, h1, h2⟩ := h
  exact ⟨cur, (hb.block g (Array.getElem?_eq_some_iff.1 h1).1).trans h1, h2⟩
theorem Cap.set {w : World} {g n b i : Nat} {e : TypeId} (h : Cap w g e n) (u : Value) : Cap (w.setCell ⟨b, i, none⟩ u) g e n := by
  obtain ⟨cur, h1, h2⟩ := h
  by_cases e' : b = g
  · subst e'
    refine ⟨cur.setIfInBounds i u, ?_, by simp [h2]⟩
    simp [World.setCell, Array.getElem?_modify, h1]
  · refine ⟨cur, ?_, h2⟩
    rw [Below.heap_setCell w _ u g (fun e => e' e.symm)]; exact h1
theorem owns_row {w : World} {base g k n size : Nat} {e : TypeId} {xs : List Value} (h : Row w g xs) (hc : Cap w g e (k * size)) (hb : base ≤ g) (hn : n ≤ k) (hk : k ≤ maxLen) (hx : xs.length = n * size) : w.ownsRow base e size (.slice (some ⟨g, 0, none⟩) n k) n xs := by
  obtain ⟨cur, h1, h2⟩ := hc
  refine ⟨hx, .inr ⟨g, k, cur, rfl, hb, h1, hn, hk, h2, ?_⟩⟩
  apply List.ext_getElem?
  intro j
  by_cases hj : j < xs.length
  · have := h.2.2 j _ (List.getElem?_eq_getElem hj)
    have hcj : w.cell? ⟨g, j, none⟩ = cur[j]? := by simp [World.cell?, h1]
    rw [hcj] at this
    rw [List.getElem?_take_of_lt (by omega), List.getElem?_eq_getElem hj, ← this]
    simp
  · rw [List.getElem?_eq_none (l := xs) (by omega), List.getElem?_eq_none]
    have := List.length_take_le (n * size) cur.toList
    omega
theorem row_cap {w : World} {base e size n g c : Nat} {xs : List Value} (h : w.ownsRow base e size (.slice (some ⟨g, 0, none⟩) n c) n xs) : Cap w g e (c * size) ∧ c ≤ maxLen := by
  rcases h.2 with ⟨h1, _⟩ | ⟨g', cap, cur, h1, h2, h3, h4, h5, h6, _⟩
  · cases h1
  · simp only [Value.slice.injEq, Option.some.injEq, Addr.mk.injEq] at h1
    obtain ⟨⟨rfl, -, -⟩, -, rfl⟩ := h1
    exact ⟨⟨cur, h3, h6⟩, h5⟩
theorem row_owns {w : World} {base e size n : Nat} {v : Value} {xs : List Value} (h : w.ownsRow base e size v n xs) (hn : 1 ≤ n) : ∃ g c, v = .slice (some ⟨g, 0, none⟩) n c ∧ base ≤ g ∧ n ≤ c ∧ Row w g xs := by
  have h0 := h
  rcases h.2 with ⟨h1, h2⟩ | ⟨g, cap, cur, h1, h2, h3, h4⟩
  · omega
  · refine ⟨g, cap, h1, h2, h4.1, (Array.getElem?_eq_some_iff.1 h3).1, fun j => frozen_of_row w g j _ _ h3, fun j u hu => ?_⟩
    have := h0.cells (g := g) (by rw [h1]; rfl) j u hu
    rw [WideShapes.add_plain, Nat.zero_add] at this
    exact this
theorem knows_row {w : World} {g n c : Nat} {ks : List Ld.Known} (h : Row w g (flatK ks)) (hn : n = ks.length) (hc : n ≤ c) (hl : ks.length ≤ 1000) : KnowsAt w (.slice (some ⟨g, 0, none⟩) n c) ks := by
  refine ⟨by omega, some ⟨g, 0, none⟩, g, 0, c, by rw [hn], by omega, (fun e => by cases e), fun _ => ⟨rfl, h.1⟩, fun j hj => ?_⟩
  have key : ∀ i x, i < 3 → (knCells (ks.getD j ⟨0, 0, false⟩))[i]? = some x → w.cell? ⟨g, j * 3 + i, none⟩ = some x := fun i x hi hx => h.2.2 _ _ ((flatK_at ks j hj i hi).trans hx)
  rw [Nat.zero_add]
  exact ⟨key 0 _ (by omega) rfl, key 1 _ (by omega) rfl, key 2 _ (by omega) rfl⟩
theorem rels_row {w : World} {g n c : Nat} {ps : List ((Int × List (Int × Int)) × Value)} (h : Row w g (flatL ps)) (hn : n = ps.length) (hc : n ≤ c) (hl : ps.length ≤ 1000) (hp : ∀ q ∈ ps, PinsAt w q.2 q.1.2) : RelsAt w (.slice (some ⟨g, 0, none⟩) n c) ps := by
  refine ⟨by omega, some ⟨g, 0, none⟩, c, by rw [hn], by omega, (fun e => by cases e), fun ad e _ => ?_, fun ad e j u hu => ?_, hp⟩
  · cases e; exact ⟨rfl, h.1⟩
  · cases e
    rw [WideShapes.add_plain, Nat.zero_add]
    exact h.2.2 j u hu
theorem flatK_set (a : Ld.Known) : ∀ (ks : List Ld.Known) (k : Nat), k < ks.length → (((flatK ks).set (k * 3) (.int .i64 a.st)).set (k * 3 + 1) (.int .i64 a.tr)).set (k * 3 + 2) (.bool a.back) = flatK (ks.set k a)
  | [], k, h => by simp at h
  | x :: r, 0, _ => rfl
  | x :: r, k + 1, h => by
    have := flatK_set a r k (by simpa using h)
    have e0 : (k + 1) * 3 = k * 3 + 1 + 1 + 1 := by omega
    have e1 : (k + 1) * 3 + 1 = k * 3 + 1 + 1 + 1 + 1 := by omega
    have e2 : (k + 1) * 3 + 2 = k * 3 + 2 + 1 + 1 + 1 := by omega
    rw [e2, e1, e0]
    simp only [flatK, knCells, List.cons_append, List.nil_append, List.set_cons_succ]
    rw [this]
theorem flatL_set (p : (Int × List (Int × Int)) × Value) : ∀ (ps : List ((Int × List (Int × Int)) × Value)) (k : Nat), k < ps.length → ((flatL ps).set (k * 2) (.int .i64 p.1.1)).set (k * 2 + 1) p.2 = flatL (ps.set k p)
  | [], k, h => by simp at h
  | x :: r, 0, _ => rfl
  | x :: r, k + 1, h => by
    have := flatL_set p r k (by simpa using h)
    have e0 : (k + 1) * 2 = k * 2 + 1 + 1 := by omega
    have e1 : (k + 1) * 2 + 1 = k * 2 + 1 + 1 + 1 := by omega
    rw [e1, e0]
    simp only [flatL, relCells, List.cons_append, List.nil_append, List.set_cons_succ]
    rw [this]
theorem flatL_one {ps : List ((Int × List (Int × Int)) × Value)} (h : ∀ q ∈ ps, ∃ a n c, q.2 = .slice a n c) : ∀ u ∈ flatL ps, u.oneCell' = true := by
  induction ps with
  | nil => intro u hu; simp [flatL] at hu
  | cons q r ih =>
    intro u hu
    obtain ⟨a, n, c, e⟩ := h q (by simp)
    rw [flatL] at hu
    rcases List.mem_append.1 hu with hu | hu
    · simp only [relCells, List.mem_cons, List.not_mem_nil, or_false] at hu
      rcases hu with rfl | rfl
      · rfl
      · rw [e]; rfl
    · exact ih (fun q' hq' => h q' (by simp [hq'])) u hu
theorem rels_one {w : World} {v : Value} {ps : List ((Int × List (Int × Int)) × Value)} (h : RelsAt w v ps) : ∀ q ∈ ps, ∃ a n c, q.2 = .slice a n c := fun q hq => by
  obtain ⟨a, c, e⟩ := pins_slice (rels_pins h q hq)
  exact ⟨a, _, c, e⟩
theorem infoK : (Tryz.prog.info? 54).map (fun i => (i.zero, i.size, i.bytes)) = some (some (.agg #[.int .i64 0, .int .i64 0, .bool false]), 3, 24) := by kernel_rfl
theorem infoRl : (Tryz.prog.info? 24).map (fun i => (i.zero, i.size, i.bytes)) = some (some (.agg #[.int .i64 0, .slice none 0 0]), 2, 32) := by kernel_rfl
theorem eqNilK (A : Option Addr) (n c : Nat) (w : World) : (binOp .eql 30 (.slice A n c) (.slice none 0 0)).run Tryz.prog w = .ok (.bool A.isNone) w := by
  have h := run_equal_slice_nil (P := Tryz.prog) w 30 54 A n c Tryz.underlying30
  simp [binOp, h]
theorem eqNilRl (A : Option Addr) (n c : Nat) (w : World) : (binOp .eql 29 (.slice A n c) (.slice none 0 0)).run Tryz.prog w = .ok (.bool A.isNone) w := by
  have h := run_equal_slice_nil (P := Tryz.prog) w 29 24 A n c Tryz.underlying29
  simp [binOp, h]
set_option maxHeartbeats 2000000 in
theorem cloneK_any (v : Value) (ks : List Ld.Known) (w : World) (hL : KnowsAt w v ks) (h1 : 1 ≤ ks.length) (h2 : ks.length ≤ 100) :
    Calls Tryz.prog 45 #[v] w fun e w' => (∃ g c, e = .returned (.slice (some ⟨g, 0, none⟩) ks.length c) ∧ w.heap.size ≤ g ∧ ks.length ≤ c ∧ Row w' g (flatK ks)) ∧ Below w.heap.size w w' := by
  obtain ⟨i0, hi, hz0, hz1, hz2⟩ := info_parts infoK
  obtain ⟨_, A, b, o, c, rfl, _, _, hA, hC⟩ := hL
  obtain ⟨rfl, hb⟩ := hA (by omega)
  have HNW : Hid (∀ j u, (flatK ks)[j]? = some u → (w.alloc (.cells #[] 54)).cell? ((⟨b, o, none⟩ : Addr).add j) = some u) := fun j u hj => by
    have hadd : (⟨b, o, none⟩ : Addr).add j = ⟨b, o + j, none⟩ := by unfold Addr.add; split <;> simp_all
    have hjl : j < ks.length * 3 := by have := (List.getElem?_eq_some_iff.1 hj).1; rwa [flatK_len] at this
    rw [hadd, ((Below.refl _ w).alloc (Nat.le_refl _) _).cell (p := ⟨b, o + j, none⟩) hb]
    obtain ⟨c0, c1, c2⟩ := hC (j / 3) (by omega)
    have hq : j = j / 3 * 3 + 0 ∨ j = j / 3 * 3 + 1 ∨ j = j / 3 * 3 + 2 := by omega
    rcases hq with hq | hq | hq
    · rw [hq, flatK_at ks (j / 3) (by omega) 0 (by omega)] at hj
      rw [hq, Nat.add_zero, c0]; exact hj
    · rw [hq, flatK_at ks (j / 3) (by omega) 1 (by omega)] at hj
      rw [hq, ← Nat.add_assoc, c1]; exact hj
    · rw [hq, flatK_at ks (j / 3) (by omega) 2 (by omega)] at hj
      rw [hq, ← Nat.add_assoc, c2]; exact hj
  have hq := eqNilK (some ⟨b, o, none⟩) ks.length c
  clear hA hC
  go_enter Tryz.func45, Tryz.ntmps45
  go_wp2_with (at_builtin; refine wpList_append_own _ rfl _ _ 30 rfl w.heap.size 54 i0 (.agg #[.int .i64 0, .int .i64 0, .bool false]) 3 24 Tryz.underlying30 hi hz0 hz1 hz2 rfl (by decide) _ 0 [] rfl (World.ownsRow_made w #[] 0 (Nat.le_refl _) (by decide) rfl) ⟨b, o, none⟩ ks.length c (flatK ks) rfl (flatK_len ks) HNW.out (flatK_one ks) ?c3 ?c4 ?c5 ?_)
  case c3 => unfold maxLen; omega
  case c4 => omega
  case c5 => simp
  intro v' w3 hown hgrow _
  obtain ⟨g, c', rfl, hg1, hg2, hR⟩ := row_owns hown h1
  have HR : Hid (Row w3 g (flatK ks)) := hR
  have HB3 : Hid (Below w.heap.size w w3) := ((Below.refl _ w).alloc (Nat.le_refl _) _).grown hgrow (by simp) (fun q hq => by cases hq; exact Nat.le_refl _)
  clear hown hgrow hR
  go_wp2
  go_ret
  exact ⟨⟨g, c', rfl, hg1, hg2, HR.out⟩, HB3.out⟩
set_option maxHeartbeats 2000000 in
theorem cloneRl_any (v : Value) (ps : List ((Int × List (Int × Int)) × Value)) (w : World) (hL : RelsAt w v ps) (h1 : 1 ≤ ps.length) (h2 : ps.length ≤ 100) :
    Calls Tryz.prog 75 #[v] w fun e w' => (∃ g c, e = .returned (.slice (some ⟨g, 0, none⟩) ps.length c) ∧ w.heap.size ≤ g ∧ ps.length ≤ c ∧ Row w' g (flatL ps) ∧ Cap w' g 24 (c * 2) ∧ c ≤ maxLen) ∧ Below w.heap.size w w' := by
  obtain ⟨i0, hi, hz0, hz1, hz2⟩ := info_parts infoRl
  have hone := flatL_one (rels_one hL)
  obtain ⟨_, A, c, rfl, _, hA0, hA, hC, _⟩ := hL
  cases A with
  | none => exact absurd (hA0 rfl).2 (by omega)
  | some ad =>
  obtain ⟨hs, hb⟩ := hA ad rfl (by omega)
  obtain ⟨b, o, sp⟩ := ad
  simp only at hs hb
  subst hs
  have HNW : Hid (∀ j u, (flatL ps)[j]? = some u → (w.alloc (.cells #[] 24)).cell? ((⟨b, o, none⟩ : Addr).add j) = some u) := fun j u hj => by
    have := hC _ rfl j u hj
    rw [WideShapes.add_plain] at this ⊢
    exact (((Below.refl _ w).alloc (Nat.le_refl _) _).cell (p := ⟨b, o + j, none⟩) hb).trans this
  have hq := eqNilRl (some ⟨b, o, none⟩) ps.length c
  clear hA hC hA0
  go_enter Tryz.func75, Tryz.ntmps75
  go_wp2_with (at_builtin; refine wpList_append_own _ rfl _ _ 29 rfl w.heap.size 24 i0 (.agg #[.int .i64 0, .slice none 0 0]) 2 32 Tryz.underlying29 hi hz0 hz1 hz2 rfl (by decide) _ 0 [] rfl (World.ownsRow_made w #[] 0 (Nat.le_refl _) (by decide) rfl) ⟨b, o, none⟩ ps.length c (flatL ps) rfl (flatL_len ps) HNW.out hone ?c3 ?c4 ?c5 ?_)
  case c3 => unfold maxLen; omega
  case c4 => omega
  case c5 => simp
  intro v' w3 hown hgrow _
  obtain ⟨g, c', rfl, hg1, hg2, hR⟩ := row_owns hown h1
  have HR : Hid (Row w3 g (flatL ps)) := hR
  have HCP : Hid (Cap w3 g 24 (c' * 2) ∧ c' ≤ maxLen) := row_cap hown
  have HB3 : Hid (Below w.heap.size w w3) := ((Below.refl _ w).alloc (Nat.le_refl _) _).grown hgrow (by simp) (fun q hq => by cases hq; exact Nat.le_refl _)
  clear hown hgrow hR
  go_wp2
  go_ret
  exact ⟨⟨g, c', rfl, hg1, hg2, HR.out, HCP.out⟩, HB3.out⟩
end Go.Proofs.YtmlhipdfjnamiaaGreat
