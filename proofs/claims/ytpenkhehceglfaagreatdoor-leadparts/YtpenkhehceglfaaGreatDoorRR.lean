/- Rows of records, however they lie: their cells. -/
import Derived.Test.YtpenkhehceglfaaGreatDoorMB
import Derived.Maps.AppendAt
namespace Go.Proofs.YtpenkhehceglfaaGreatDoor
open Go.RowKit
/-- the cells of records, each with its lock's slice -/
def recCells (p : Lk.Note × Value) : List Value := [.int .i64 p.1.kind, .int .i64 p.1.agent, .int .i64 p.1.tr, .int .i64 p.1.n, .bool p.1.good, .int .i64 p.1.id, p.2]
def flatR : List (Lk.Note × Value) → List Value
  | [] => []
  | p :: r => recCells p ++ flatR r
theorem flatR_append (a b : List (Lk.Note × Value)) : flatR (a ++ b) = flatR a ++ flatR b := by
  induction a with
  | nil => rfl
  | cons p r ih => simp [flatR, ih]
theorem flatR_len (a : List (Lk.Note × Value)) : (flatR a).length = a.length * 7 := by
  induction a with
  | nil => rfl
  | cons p r ih => simp [flatR, recCells, ih]; omega
/-- a slice of records, each with its lock's slice -/
def RecsAt (w : World) (v : Value) (ps : List (Lk.Note × Value)) : Prop :=
  ps.length ≤ 140737488355328 ∧ ∃ p c, v = .slice p ps.length c ∧ ps.length ≤ c ∧ (p = none → c = 0 ∧ ps.length = 0) ∧ (∀ ad, p = some ad → 0 < ps.length → ad.spot = none ∧ ad.block < w.heap.size) ∧ (∀ ad, p = some ad → ∀ j u, (flatR ps)[j]? = some u → w.cell? (ad.add j) = some u) ∧ ∀ q ∈ ps, PinsAt w q.2 q.1.lock
theorem flatR_pos {ps : List (Lk.Note × Value)} {j : Nat} {u : Value} (h : (flatR ps)[j]? = some u) : 0 < ps.length := by
  have := (List.getElem?_eq_some_iff.1 h).1
  rw [flatR_len] at this
  omega
theorem RecsAt.below {w w' : World} {v : Value} {ps : List (Lk.Note × Value)} (h : RecsAt w v ps) (hb : Below w.heap.size w w') : RecsAt w' v ps := by
  obtain ⟨hl, p, c, e, hc, h1, h2, h3, h4⟩ := h
  refine ⟨hl, p, c, e, hc, h1, fun ad ha h0 => ⟨(h2 ad ha h0).1, Nat.lt_of_lt_of_le (h2 ad ha h0).2 hb.size⟩, fun ad ha j u hu => ?_, fun q hq => (h4 q hq).below hb⟩
  have hblk : (ad.add j).block = ad.block := by unfold Addr.add; split <;> rfl
  exact (hb.cell (p := ad.add j) (by rw [hblk]; exact (h2 ad ha (flatR_pos hu)).2)).trans (h3 ad ha j u hu)
theorem recs_slice {w : World} {v : Value} {ps : List (Lk.Note × Value)} (h : RecsAt w v ps) : ∃ a c, v = .slice a ps.length c := by
  obtain ⟨_, p, c, e, _⟩ := h
  exact ⟨p, c, e⟩
theorem recs_pins {w : World} {v : Value} {ps : List (Lk.Note × Value)} (h : RecsAt w v ps) : ∀ q ∈ ps, PinsAt w q.2 q.1.lock := by
  obtain ⟨_, p, c, _, _, _, _, _, h4⟩ := h
  exact h4
theorem recs_none (w : World) : RecsAt w (.slice none 0 0) [] := ⟨by simp, none, 0, rfl, by simp, fun _ => ⟨rfl, rfl⟩, (fun _ e => by cases e), (fun _ e => by cases e), fun _ h => by cases h⟩
theorem recs_from_src {w : World} {p : Option Addr} {n c : Nat} {ps : List (Lk.Note × Value)} (h : RecsAt w (.slice p n c) ps) : (p = none → c = 0 ∧ n = 0) ∧ ∀ ad, p = some ad → ∀ j u, (flatR ps)[j]? = some u → w.cell? (ad.add j) = some u := by
  obtain ⟨hl, p', c', e, hc, h1, h2, h3, h4⟩ := h
  simp only [Value.slice.injEq] at e
  obtain ⟨rfl, rfl, rfl⟩ := e
  exact ⟨h1, h3⟩
theorem recs_one {w : World} {v : Value} {ps : List (Lk.Note × Value)} (h : RecsAt w v ps) : ∀ q ∈ ps, ∃ a n c, q.2 = .slice a n c := fun q hq => by
  obtain ⟨a, c, e⟩ := pins_slice (recs_pins h q hq)
  exact ⟨a, _, c, e⟩
theorem flatR_one {ps : List (Lk.Note × Value)} (h : ∀ q ∈ ps, ∃ a n c, q.2 = .slice a n c) : ∀ u ∈ flatR ps, u.oneCell' = true := by
  induction ps with
  | nil => intro u hu; simp [flatR] at hu
  | cons q r ih =>
    intro u hu
    obtain ⟨a, n, c, e⟩ := h q (by simp)
    rw [flatR] at hu
    rcases List.mem_append.1 hu with hu | hu
    · simp only [recCells, List.mem_cons, List.not_mem_nil, or_false] at hu
      rcases hu with rfl | rfl | rfl | rfl | rfl | rfl | rfl
      iterate 6 rfl
      rw [e]; rfl
    · exact ih (fun q' hq' => h q' (by simp [hq'])) u hu
theorem recs_owns {w : World} {B n : Nat} {v : Value} {ps : List (Lk.Note × Value)} (hn : n = ps.length) (hl : ps.length ≤ 140737488355328) (h : w.ownsRow B 34 7 v n (flatR ps)) (hp : ∀ q ∈ ps, PinsAt w q.2 q.1.lock) : RecsAt w v ps := by
  subst hn
  have h0 := h
  rcases h.2 with ⟨h1, h2⟩ | ⟨g, cap, cur, h1, h2, h3, h4⟩
  · refine ⟨hl, none, 0, by rw [h1, h2], by omega, fun _ => ⟨rfl, h2⟩, (fun _ e => by cases e), (fun _ e => by cases e), hp⟩
  · refine ⟨hl, _, cap, h1, h4.1, (fun e => by cases e), fun ad e _ => ?_, fun ad e j u hu => ?_, hp⟩
    · cases e; exact ⟨rfl, (Array.getElem?_eq_some_iff.1 h3).1⟩
    · cases e; exact h0.cells (g := g) (by rw [h1]; rfl) j u hu
theorem flatR_at : ∀ (ps : List (Lk.Note × Value)) (k : Nat) (q : Lk.Note × Value), ps[k]? = some q → ∀ i, i < 7 → (flatR ps)[k * 7 + i]? = (recCells q)[i]? := by
  intro ps
  induction ps with
  | nil => intro k q h; simp at h
  | cons x r ih =>
    intro k q h i hi
    have hl : (recCells x).length = 7 := rfl
    cases k with
    | zero =>
      simp only [List.getElem?_cons_zero, Option.some.injEq] at h
      subst h
      rw [flatR, Nat.zero_mul, Nat.zero_add, List.getElem?_append_left (by omega)]
    | succ k =>
      simp only [List.getElem?_cons_succ] at h
      rw [flatR, List.getElem?_append_right (by omega), hl, show (k + 1) * 7 + i - 7 = k * 7 + i from by omega]
      exact ih k q h i hi
/-- element k of a slice of records, cell by cell -/
theorem recs_at {w : World} {p : Option Addr} {n c : Nat} {ps : List (Lk.Note × Value)} (h : RecsAt w (.slice p n c) ps) {k : Nat} {r : Lk.Note} {v : Value} (hk : ps[k]? = some (r, v)) :
    ∃ b o, p = some ⟨b, o, none⟩ ∧ b < w.heap.size ∧ w.cell? ⟨b, o + k * 7, none⟩ = some (.int .i64 r.kind) ∧ w.cell? ⟨b, o + k * 7 + 1, none⟩ = some (.int .i64 r.agent) ∧ w.cell? ⟨b, o + k * 7 + 2, none⟩ = some (.int .i64 r.tr) ∧ w.cell? ⟨b, o + k * 7 + 3, none⟩ = some (.int .i64 r.n) ∧ w.cell? ⟨b, o + k * 7 + 4, none⟩ = some (.bool r.good) ∧ w.cell? ⟨b, o + k * 7 + 5, none⟩ = some (.int .i64 r.id) ∧ w.cell? ⟨b, o + k * 7 + 6, none⟩ = some v := by
  obtain ⟨_, p', c', e, _, h1, h2, h3, _⟩ := h
  simp only [Value.slice.injEq] at e
  obtain ⟨rfl, rfl, rfl⟩ := e
  have hlt : k < ps.length := (List.getElem?_eq_some_iff.1 hk).1
  cases p with
  | none => exact absurd (h1 rfl).2 (by omega)
  | some ad =>
    obtain ⟨hs, hb⟩ := h2 ad rfl (by omega)
    obtain ⟨b, o, spot⟩ := ad
    simp only at hs hb
    subst hs
    have key : ∀ i x, (recCells (r, v))[i]? = some x → w.cell? ⟨b, o + k * 7 + i, none⟩ = some x := fun i x hx => by
      have := h3 ⟨b, o, none⟩ rfl (k * 7 + i) x (by
        rw [← hx]
        exact flatR_at ps k (r, v) hk i (by have := (List.getElem?_eq_some_iff.1 hx).1; simpa [recCells] using this))
      rw [WideShapes.add_plain, ← Nat.add_assoc] at this
      exact this
    exact ⟨b, o, rfl, hb, key 0 _ rfl, key 1 _ rfl, key 2 _ rfl, key 3 _ rfl, key 4 _ rfl, key 5 _ rfl, key 6 _ rfl⟩
end Go.Proofs.YtpenkhehceglfaaGreatDoor
