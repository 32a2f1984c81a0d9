/- Rows of mail, however they lie: their cells. -/
import Derived.Test.YtbdefihgplcdoaeWR
import Derived.Test.YtbdefihgplcdoaeWyMath
import Derived.Maps.AppendAt
namespace Go.Proofs.Ytbdefihgplcdoae
open Go.RowKit
/-- the cells of records, each with its lock's slice -/
def mlCells (p : Wy.Mail × Value) : List Value := [.int .i64 p.1.agent, .int .i64 p.1.tr, .bool p.1.rep, .bool p.1.good, .int .i64 p.1.id, p.2]
def flatM : List (Wy.Mail × Value) → List Value
  | [] => []
  | p :: r => mlCells p ++ flatM r
theorem flatM_append (a b : List (Wy.Mail × Value)) : flatM (a ++ b) = flatM a ++ flatM b := by
  induction a with
  | nil => rfl
  | cons p r ih => simp [flatM, ih]
theorem flatM_len (a : List (Wy.Mail × Value)) : (flatM a).length = a.length * 6 := by
  induction a with
  | nil => rfl
  | cons p r ih => simp [flatM, mlCells, ih]; omega
/-- a slice of records, each with its lock's slice -/
def MailsAt (w : World) (v : Value) (ps : List (Wy.Mail × Value)) : Prop :=
  ps.length ≤ 140737488355328 ∧ ∃ p c, v = .slice p ps.length c ∧ ps.length ≤ c ∧ (p = none → c = 0 ∧ ps.length = 0) ∧ (∀ ad, p = some ad → 0 < ps.length → ad.spot = none ∧ ad.block < w.heap.size) ∧ (∀ ad, p = some ad → ∀ j u, (flatM ps)[j]? = some u → w.cell? (ad.add j) = some u) ∧ ∀ q ∈ ps, PinsAt w q.2 q.1.lock
theorem flatM_pos {ps : List (Wy.Mail × Value)} {j : Nat} {u : Value} (h : (flatM ps)[j]? = some u) : 0 < ps.length := by
  have := (List.getElem?_eq_some_iff.1 h).1
  rw [flatM_len] at this
  omega
theorem MailsAt.below {w w' : World} {v : Value} {ps : List (Wy.Mail × Value)} (h : MailsAt w v ps) (hb : Below w.heap.size w w') : MailsAt w' v ps := by
  obtain ⟨hl, p, c, e, hc, h1, h2, h3, h4⟩ := h
  refine ⟨hl, p, c, e, hc, h1, fun ad ha h0 => ⟨(h2 ad ha h0).1, Nat.lt_of_lt_of_le (h2 ad ha h0).2 hb.size⟩, fun ad ha j u hu => ?_, fun q hq => (h4 q hq).below hb⟩
  have hblk : (ad.add j).block = ad.block := by unfold Addr.add; split <;> rfl
  exact (hb.cell (p := ad.add j) (by rw [hblk]; exact (h2 ad ha (flatM_pos hu)).2)).trans (h3 ad ha j u hu)
theorem mails_slice {w : World} {v : Value} {ps : List (Wy.Mail × Value)} (h : MailsAt w v ps) : ∃ a c, v = .slice a ps.length c := by
  obtain ⟨_, p, c, e, _⟩ := h
  exact ⟨p, c, e⟩
theorem mails_pins {w : World} {v : Value} {ps : List (Wy.Mail × Value)} (h : MailsAt w v ps) : ∀ q ∈ ps, PinsAt w q.2 q.1.lock := by
  obtain ⟨_, p, c, _, _, _, _, _, h4⟩ := h
  exact h4
theorem mails_none (w : World) : MailsAt w (.slice none 0 0) [] := ⟨by simp, none, 0, rfl, by simp, fun _ => ⟨rfl, rfl⟩, (fun _ e => by cases e), (fun _ e => by cases e), fun _ h => by cases h⟩
theorem mails_from_src {w : World} {p : Option Addr} {n c : Nat} {ps : List (Wy.Mail × Value)} (h : MailsAt w (.slice p n c) ps) : (p = none → c = 0 ∧ n = 0) ∧ ∀ ad, p = some ad → ∀ j u, (flatM ps)[j]? = some u → w.cell? (ad.add j) = some u := by
  obtain ⟨hl, p', c', e, hc, h1, h2, h3, h4⟩ := h
  simp only [Value.slice.injEq] at e
  obtain ⟨rfl, rfl, rfl⟩ := e
  exact ⟨h1, h3⟩
theorem mails_one {w : World} {v : Value} {ps : List (Wy.Mail × Value)} (h : MailsAt w v ps) : ∀ q ∈ ps, ∃ a n c, q.2 = .slice a n c := fun q hq => by
  obtain ⟨a, c, e⟩ := pins_slice (mails_pins h q hq)
  exact ⟨a, _, c, e⟩
theorem flatM_one {ps : List (Wy.Mail × Value)} (h : ∀ q ∈ ps, ∃ a n c, q.2 = .slice a n c) : ∀ u ∈ flatM ps, u.oneCell' = true := by
  induction ps with
  | nil => intro u hu; simp [flatM] at hu
  | cons q r ih =>
    intro u hu
    obtain ⟨a, n, c, e⟩ := h q (by simp)
    rw [flatM] at hu
    rcases List.mem_append.1 hu with hu | hu
    · simp only [mlCells, List.mem_cons, List.not_mem_nil, or_false] at hu
      rcases hu with rfl | rfl | rfl | rfl | rfl | rfl
      iterate 5 rfl
      rw [e]; rfl
    · exact ih (fun q' hq' => h q' (by simp [hq'])) u hu
theorem mails_owns {w : World} {B n : Nat} {v : Value} {ps : List (Wy.Mail × Value)} (hn : n = ps.length) (hl : ps.length ≤ 140737488355328) (h : w.ownsRow B 52 6 v n (flatM ps)) (hp : ∀ q ∈ ps, PinsAt w q.2 q.1.lock) : MailsAt w v ps := by
  subst hn
  have h0 := h
  rcases h.2 with ⟨h1, h2⟩ | ⟨g, cap, cur, h1, h2, h3, h4⟩
  · refine ⟨hl, none, 0, by rw [h1, h2], by omega, fun _ => ⟨rfl, h2⟩, (fun _ e => by cases e), (fun _ e => by cases e), hp⟩
  · refine ⟨hl, _, cap, h1, h4.1, (fun e => by cases e), fun ad e _ => ?_, fun ad e j u hu => ?_, hp⟩
    · cases e; exact ⟨rfl, (Array.getElem?_eq_some_iff.1 h3).1⟩
    · cases e; exact h0.cells (g := g) (by rw [h1]; rfl) j u hu
theorem flatM_at : ∀ (ps : List (Wy.Mail × Value)) (k : Nat) (q : Wy.Mail × Value), ps[k]? = some q → ∀ i, i < 6 → (flatM ps)[k * 6 + i]? = (mlCells q)[i]? := by
  intro ps
  induction ps with
  | nil => intro k q h; simp at h
  | cons x r ih =>
    intro k q h i hi
    have hl : (mlCells x).length = 6 := rfl
    cases k with
    | zero =>
      simp only [List.getElem?_cons_zero, Option.some.injEq] at h
      subst h
      rw [flatM, Nat.zero_mul, Nat.zero_add, List.getElem?_append_left (by omega)]
    | succ k =>
      simp only [List.getElem?_cons_succ] at h
      rw [flatM, List.getElem?_append_right (by omega), hl, show (k + 1) * 6 + i - 6 = k * 6 + i from by omega]
      exact ih k q h i hi
/-- element k of a slice of mail, cell by cell -/
theorem mails_at {w : World} {p : Option Addr} {n c : Nat} {ps : List (Wy.Mail × Value)} (h : MailsAt w (.slice p n c) ps) {k : Nat} {r : Wy.Mail} {v : Value} (hk : ps[k]? = some (r, v)) :
    ∃ b o, p = some ⟨b, o, none⟩ ∧ b < w.heap.size ∧ w.cell? ⟨b, o + k * 6, none⟩ = some (.int .i64 r.agent) ∧ w.cell? ⟨b, o + k * 6 + 1, none⟩ = some (.int .i64 r.tr) ∧ w.cell? ⟨b, o + k * 6 + 2, none⟩ = some (.bool r.rep) ∧ w.cell? ⟨b, o + k * 6 + 3, none⟩ = some (.bool r.good) ∧ w.cell? ⟨b, o + k * 6 + 4, none⟩ = some (.int .i64 r.id) ∧ w.cell? ⟨b, o + k * 6 + 5, none⟩ = some v := by
  obtain ⟨_, p', c', e, _, h1, h2, h3, _⟩ := h
  simp only [Value.slice.injEq] at e
  obtain ⟨rfl, rfl, rfl⟩ := e
  have hlt : k < ps.length := (List.getElem?_eq_some_iff.1 hk).1
  cases p with
  | none => exact absurd (h1 rfl).2 (by omega)
  | some ad =>
    obtain ⟨hs, hb⟩ := h2 ad rfl (by omega)
    obtain ⟨b, o, spot⟩ := ad
    simp only at hs hb
    subst hs
    have key : ∀ i x, (mlCells (r, v))[i]? = some x → w.cell? ⟨b, o + k * 6 + i, none⟩ = some x := fun i x hx => by
      have := h3 ⟨b, o, none⟩ rfl (k * 6 + i) x (by
        rw [← hx]
        exact flatM_at ps k (r, v) hk i (by have := (List.getElem?_eq_some_iff.1 hx).1; simpa [mlCells] using this))
      rw [WideShapes.add_plain, ← Nat.add_assoc] at this
      exact this
    exact ⟨b, o, rfl, hb, key 0 _ rfl, key 1 _ rfl, key 2 _ rfl, key 3 _ rfl, key 4 _ rfl, key 5 _ rfl⟩
/-- a piece of mail as a value -/
def mailV (m : Wy.Mail) (v : Value) : Value := .agg #[.int .i64 m.agent, .int .i64 m.tr, .bool m.rep, .bool m.good, .int .i64 m.id, v]
/-- pieces of an elder row -/
theorem mails_sub {w : World} {a : Option Addr} {n c : Nat} {ps : List (Wy.Mail × Value)} (h : MailsAt w (.slice a n c) ps) : n = ps.length := by
  obtain ⟨_, p, c', e, _⟩ := h
  simp only [Value.slice.injEq] at e
  exact e.2.1
end Go.Proofs.Ytbdefihgplcdoae
