/- Rows of releases, and of what is known of agents, however they lie: their cells; configurations and leaders as values; what stays true whatever is written elsewhere. -/
import Derived.Test.YtmlhipdfjnamiaaGreatKK
import Derived.Test.YtmlhipdfjnamiaaGreatN1
import Derived.Test.YtmlhipdfjnamiaaGreatPN
import Derived.Test.YtmlhipdfjnamiaaGreatMA
import Derived.Test.YtmlhipdfjnamiaaGreatMJ
import Derived.Test.YtmlhipdfjnamiaaGreatMD
import Derived.Test.YtmlhipdfjnamiaaGreatBlk
import Derived.Maps.AppendAt
namespace Go.Proofs.YtmlhipdfjnamiaaGreat
open Go.RowKit
/-- the cells of releases, each with its lock's slice -/
def relCells (p : (Int × List (Int × Int)) × Value) : List Value := [.int .i64 p.1.1, p.2]
def flatL : List ((Int × List (Int × Int)) × Value) → List Value
  | [] => []
  | p :: r => relCells p ++ flatL r
theorem flatL_append (a b : List ((Int × List (Int × Int)) × Value)) : flatL (a ++ b) = flatL a ++ flatL b := by
  induction a with
  | nil => rfl
  | cons p r ih => simp [flatL, ih]
theorem flatL_len (a : List ((Int × List (Int × Int)) × Value)) : (flatL a).length = a.length * 2 := by
  induction a with
  | nil => rfl
  | cons p r ih => simp [flatL, relCells, ih]; omega
/-- a slice of releases -/
def RelsAt (w : World) (v : Value) (ps : List ((Int × List (Int × Int)) × Value)) : Prop :=
  ps.length ≤ 140737488355328 ∧ ∃ p c, v = .slice p ps.length c ∧ ps.length ≤ c ∧ (p = none → c = 0 ∧ ps.length = 0) ∧ (∀ ad, p = some ad → 0 < ps.length → ad.spot = none ∧ ad.block < w.heap.size) ∧ (∀ ad, p = some ad → ∀ j u, (flatL ps)[j]? = some u → w.cell? (ad.add j) = some u) ∧ ∀ q ∈ ps, PinsAt w q.2 q.1.2
theorem flatL_pos {ps : List ((Int × List (Int × Int)) × Value)} {j : Nat} {u : Value} (h : (flatL ps)[j]? = some u) : 0 < ps.length := by
  have := (List.getElem?_eq_some_iff.1 h).1
  rw [flatL_len] at this
  omega
theorem RelsAt.below {w w' : World} {v : Value} {ps : List ((Int × List (Int × Int)) × Value)} (h : RelsAt w v ps) (hb : Below w.heap.size w w') : RelsAt w' v ps := by
  obtain ⟨hl, p, c, e, hc, h1, h2, h3, h4⟩ := h
  refine ⟨hl, p, c, e, hc, h1, fun ad ha h0 => ⟨(h2 ad ha h0).1, Nat.lt_of_lt_of_le (h2 ad ha h0).2 hb.size⟩, fun ad ha j u hu => ?_, fun q hq => (h4 q hq).below hb⟩
  have hblk : (ad.add j).block = ad.block := by unfold Addr.add; split <;> rfl
  exact (hb.cell (p := ad.add j) (by rw [hblk]; exact (h2 ad ha (flatL_pos hu)).2)).trans (h3 ad ha j u hu)
theorem rels_slice {w : World} {v : Value} {ps : List ((Int × List (Int × Int)) × Value)} (h : RelsAt w v ps) : ∃ a c, v = .slice a ps.length c := by
  obtain ⟨_, p, c, e, _⟩ := h
  exact ⟨p, c, e⟩
theorem rels_pins {w : World} {v : Value} {ps : List ((Int × List (Int × Int)) × Value)} (h : RelsAt w v ps) : ∀ q ∈ ps, PinsAt w q.2 q.1.2 := by
  obtain ⟨_, p, c, _, _, _, _, _, h4⟩ := h
  exact h4
theorem rels_none (w : World) : RelsAt w (.slice none 0 0) [] := ⟨by simp, none, 0, rfl, by simp, fun _ => ⟨rfl, rfl⟩, (fun _ e => by cases e), (fun _ e => by cases e), fun _ h => by cases h⟩
theorem flatL_at : ∀ (ps : List ((Int × List (Int × Int)) × Value)) (k : Nat) (q : (Int × List (Int × Int)) × Value), ps[k]? = some q → ∀ i, i < 2 → (flatL ps)[k * 2 + i]? = (relCells q)[i]? := by
  intro ps
  induction ps with
  | nil => intro k q h; simp at h
  | cons x r ih =>
    intro k q h i hi
    have hl : (relCells x).length = 2 := rfl
    cases k with
    | zero =>
      simp only [List.getElem?_cons_zero, Option.some.injEq] at h
      subst h
      rw [flatL, Nat.zero_mul, Nat.zero_add, List.getElem?_append_left (by omega)]
    | succ k =>
      simp only [List.getElem?_cons_succ] at h
      rw [flatL, List.getElem?_append_right (by omega), hl, show (k + 1) * 2 + i - 2 = k * 2 + i from by omega]
      exact ih k q h i hi
/-- element k of a slice of releases, cell by cell -/
theorem rels_at {w : World} {p : Option Addr} {n c : Nat} {ps : List ((Int × List (Int × Int)) × Value)} (h : RelsAt w (.slice p n c) ps) {k : Nat} {r : Int × List (Int × Int)} {v : Value} (hk : ps[k]? = some (r, v)) :
    ∃ b o, p = some ⟨b, o, none⟩ ∧ b < w.heap.size ∧ w.cell? ⟨b, o + k * 2, none⟩ = some (.int .i64 r.1) ∧ w.cell? ⟨b, o + k * 2 + 1, none⟩ = some v := by
  obtain ⟨_, p', c', e, _, h1, h2, h3, _⟩ := h
  simp only [Value.slice.injEq] at e
  obtain ⟨rfl, rfl, rfl⟩ := e
  have hlt : k < ps.length := (List.getElem?_eq_some_iff.1 hk).1
  cases p with
  | none => exact absurd (h1 rfl).2 (by omega)
  | some ad =>
    obtain ⟨hs, hb⟩ := h2 ad rfl (by omega)
    obtain ⟨b, o, spot⟩ := ad
    simp only at hs hb
    subst hs
    have key : ∀ i x, (relCells (r, v))[i]? = some x → w.cell? ⟨b, o + k * 2 + i, none⟩ = some x := fun i x hx => by
      have := h3 ⟨b, o, none⟩ rfl (k * 2 + i) x (by
        rw [← hx]
        exact flatL_at ps k (r, v) hk i (by have := (List.getElem?_eq_some_iff.1 hx).1; simpa [relCells] using this))
      rw [WideShapes.add_plain, ← Nat.add_assoc] at this
      exact this
    exact ⟨b, o, rfl, hb, key 0 _ rfl, key 1 _ rfl⟩
theorem rels_stab (v : Value) (ps : List ((Int × List (Int × Int)) × Value)) : Stab (fun w => RelsAt w v ps) := fun _ _ h hb => h.below hb
theorem rels_keep {S : Nat → Prop} {w : World} {v : Value} {ps : List ((Int × List (Int × Int)) × Value)} (h : RelsAt w v ps) (hb : ∀ ad n c, v = .slice (some ad) n c → 0 < ps.length → ¬ S ad.block) (hp : ∀ q ∈ ps, Keep S (fun w => PinsAt w q.2 q.1.2) w) : Keep S (fun w => RelsAt w v ps) w := fun w' h' => by
  obtain ⟨hl, p, c, e, hc, h1, h2, h3, h4⟩ := h
  refine ⟨hl, p, c, e, hc, h1, fun ad ha h0 => ⟨(h2 ad ha h0).1, Nat.lt_of_lt_of_le (h2 ad ha h0).2 h'.2.2.2.1⟩, fun ad ha j u hu => ?_, fun q hq => hp q hq w' h'⟩
  have hblk : (ad.add j).block = ad.block := by unfold Addr.add; split <;> rfl
  have h0 := flatL_pos hu
  subst ha
  exact (keep_cell h' (a := ad.add j) (by rw [hblk]; exact (h2 ad rfl h0).2) (by rw [hblk]; exact hb ad _ _ e h0)).trans (h3 ad rfl j u hu)
/-- a slice of what is known of agents: state, try, back: three cells each -/
def knCells (a : Ld.Known) : List Value := [.int .i64 a.st, .int .i64 a.tr, .bool a.back]
def flatK : List Ld.Known → List Value
  | [] => []
  | p :: r => knCells p ++ flatK r
theorem flatK_len (a : List Ld.Known) : (flatK a).length = a.length * 3 := by
  induction a with
  | nil => rfl
  | cons p r ih => simp [flatK, knCells, ih]; omega
theorem flatK_one : ∀ (a : List Ld.Known), ∀ u ∈ flatK a, u.oneCell' = true
  | [], u, hu => by cases hu
  | p :: r, u, hu => by
    simp only [flatK, knCells, List.cons_append, List.nil_append, List.mem_cons] at hu
    rcases hu with rfl | rfl | rfl | hu
    · rfl
    · rfl
    · rfl
    · exact flatK_one r u hu
theorem flatK_at : ∀ (ps : List Ld.Known) (k : Nat), k < ps.length → ∀ i, i < 3 → (flatK ps)[k * 3 + i]? = (knCells (ps.getD k ⟨0, 0, false⟩))[i]? := by
  intro ps
  induction ps with
  | nil => intro k h; simp at h
  | cons x r ih =>
    intro k h i hi
    have hl : (knCells x).length = 3 := rfl
    cases k with
    | zero => rw [flatK, Nat.zero_mul, Nat.zero_add, List.getElem?_append_left (by omega)]; rfl
    | succ k =>
      rw [flatK, List.getElem?_append_right (by omega), hl, show (k + 1) * 3 + i - 3 = k * 3 + i from by omega]
      exact ih k (by simpa using h) i hi
def KnowsAt (w : World) (v : Value) (l : List Ld.Known) : Prop :=
  l.length ≤ 140737488355328 ∧ ∃ A b o c, v = .slice A l.length c ∧ l.length ≤ c ∧ (A = none → c = 0) ∧ (0 < l.length → A = some ⟨b, o, none⟩ ∧ b < w.heap.size) ∧
    ∀ j, j < l.length → w.cell? ⟨b, o + j * 3, none⟩ = some (.int .i64 (l.getD j ⟨0, 0, false⟩).st) ∧ w.cell? ⟨b, o + j * 3 + 1, none⟩ = some (.int .i64 (l.getD j ⟨0, 0, false⟩).tr) ∧ w.cell? ⟨b, o + j * 3 + 2, none⟩ = some (.bool (l.getD j ⟨0, 0, false⟩).back)
theorem KnowsAt.below {w w' : World} {v : Value} {l : List Ld.Known} (h : KnowsAt w v l) (hb : Below w.heap.size w w') : KnowsAt w' v l := by
  obtain ⟨hl, A, b, o, c, e, hc, h0, h1, h2⟩ := h
  refine ⟨hl, A, b, o, c, e, hc, h0, fun hp => ⟨(h1 hp).1, Nat.lt_of_lt_of_le (h1 hp).2 hb.size⟩, fun j hj => ?_⟩
  have hlt := (h1 (by omega)).2
  exact ⟨(hb.cell (p := ⟨b, o + j * 3, none⟩) hlt).trans (h2 j hj).1, (hb.cell (p := ⟨b, o + j * 3 + 1, none⟩) hlt).trans (h2 j hj).2.1, (hb.cell (p := ⟨b, o + j * 3 + 2, none⟩) hlt).trans (h2 j hj).2.2⟩
theorem knows_slice {w : World} {v : Value} {l : List Ld.Known} (h : KnowsAt w v l) : ∃ a c, v = .slice a l.length c := by
  obtain ⟨_, A, _, _, c, e, _⟩ := h
  exact ⟨A, c, e⟩
theorem knows_none (w : World) : KnowsAt w (.slice none 0 0) [] := ⟨by simp, none, 0, 0, 0, rfl, by simp, fun _ => rfl, fun h => by simp at h, fun j hj => by simp at hj⟩
theorem knows_stab (v : Value) (l : List Ld.Known) : Stab (fun w => KnowsAt w v l) := fun _ _ h hb => h.below hb
theorem knows_keep {S : Nat → Prop} {w : World} {v : Value} {l : List Ld.Known} (h : KnowsAt w v l) (hb : ∀ ad n c, v = .slice (some ad) n c → 0 < l.length → ¬ S ad.block) : Keep S (fun w => KnowsAt w v l) w := fun w' h' => by
  obtain ⟨hl, A, b, o, c, e, hc, h0, h1, h2⟩ := h
  refine ⟨hl, A, b, o, c, e, hc, h0, fun hp => ⟨(h1 hp).1, Nat.lt_of_lt_of_le (h1 hp).2 h'.2.2.2.1⟩, fun j hj => ?_⟩
  obtain ⟨eA, hlt⟩ := h1 (by omega)
  have hS := hb ⟨b, o, none⟩ _ _ (by rw [e, eA]) (by omega)
  exact ⟨(keep_cell h' (a := ⟨b, o + j * 3, none⟩) hlt hS).trans (h2 j hj).1, (keep_cell h' (a := ⟨b, o + j * 3 + 1, none⟩) hlt hS).trans (h2 j hj).2.1, (keep_cell h' (a := ⟨b, o + j * 3 + 2, none⟩) hlt hS).trans (h2 j hj).2.2⟩
/-- a configuration as a value, and where its parts lie -/
def cfC (f d : Int) (a b c : Value) : Array Value := #[.int .i64 f, a, b, c, .int .i64 d]
def cfV (c : Ld.Config) (a b d : Value) : Value := .agg (cfC c.fid c.budget a b d)
def CfAt (w : World) (c : Ld.Config) (a b d : Value) : Prop := PinsAt w a c.flock ∧ RulesAt w b c.rules ∧ WavesAt w d c.waves
theorem CfAt.below {w w' : World} {c : Ld.Config} {a b d : Value} (h : CfAt w c a b d) (hb : Below w.heap.size w w') : CfAt w' c a b d := ⟨h.1.below hb, h.2.1.below hb, h.2.2.below hb⟩
theorem cf_stab (c : Ld.Config) (a b d : Value) : Stab (fun w => CfAt w c a b d) := fun _ _ h hb => h.below hb
/-- a leader as a value, and where its parts lie -/
def leC (n g x : Int) (k : Bool) (r a : Value) : Array Value := #[r, .int .i64 n, .int .i64 g, .bool k, a, .int .i64 x]
def leV (l : Ld.Leader) (r a : Value) : Value := .agg (leC l.now l.goal l.next l.back r a)
def RelAt (w : World) (v : Value) (l : List (Int × List (Int × Int))) : Prop := ∃ ps, RelsAt w v ps ∧ ps.map Prod.fst = l
def LdAt (w : World) (l : Ld.Leader) (r a : Value) : Prop := RelAt w r l.rels ∧ KnowsAt w a l.ags
theorem RelAt.below {w w' : World} {v : Value} {l : List (Int × List (Int × Int))} (h : RelAt w v l) (hb : Below w.heap.size w w') : RelAt w' v l := by
  obtain ⟨ps, h1, h2⟩ := h; exact ⟨ps, h1.below hb, h2⟩
theorem relA_slice {w : World} {v : Value} {l : List (Int × List (Int × Int))} (h : RelAt w v l) : ∃ a c, v = .slice a l.length c := by
  obtain ⟨ps, h1, h2⟩ := h
  obtain ⟨a, c, e⟩ := rels_slice h1
  exact ⟨a, c, by rw [e, ← h2, List.length_map]⟩
theorem LdAt.below {w w' : World} {l : Ld.Leader} {r a : Value} (h : LdAt w l r a) (hb : Below w.heap.size w w') : LdAt w' l r a := ⟨h.1.below hb, h.2.below hb⟩
theorem ld_stab (l : Ld.Leader) (r a : Value) : Stab (fun w => LdAt w l r a) := fun _ _ h hb => h.below hb
theorem relA_none (w : World) : RelAt w (.slice none 0 0) [] := ⟨[], rels_none w, rfl⟩
theorem ld_none (w : World) : LdAt w Ld.Leader.none (.slice none 0 0) (.slice none 0 0) := ⟨relA_none w, knows_none w⟩
/-- element k of releases -/
theorem relA_at {w : World} {p : Option Addr} {n c : Nat} {l : List (Int × List (Int × Int))} (h : RelAt w (.slice p n c) l) {k : Nat} (hk : k < l.length) :
    ∃ b o v, p = some ⟨b, o, none⟩ ∧ b < w.heap.size ∧ w.cell? ⟨b, o + k * 2, none⟩ = some (.int .i64 (l.getD k (0, [])).1) ∧ w.cell? ⟨b, o + k * 2 + 1, none⟩ = some v ∧ PinsAt w v (l.getD k (0, [])).2 := by
  obtain ⟨ps, h1, rfl⟩ := h
  rw [List.length_map] at hk
  obtain ⟨b, o, e1, e2, e3, e4⟩ := rels_at h1 (k := k) (r := ps[k].1) (v := ps[k].2) (by rw [List.getElem?_eq_getElem hk])
  have e : (ps.map Prod.fst).getD k (0, []) = ps[k].1 := by simp [List.getD_eq_getElem?_getD, hk]
  rw [e]
  exact ⟨b, o, _, e1, e2, e3, e4, rels_pins h1 _ (List.getElem_mem hk)⟩
theorem knows_at {w : World} {p : Option Addr} {n c : Nat} {l : List Ld.Known} (h : KnowsAt w (.slice p n c) l) {k : Nat} (hk : k < l.length) :
    ∃ b o, p = some ⟨b, o, none⟩ ∧ b < w.heap.size ∧ w.cell? ⟨b, o + k * 3, none⟩ = some (.int .i64 (l.getD k ⟨0, 0, false⟩).st) ∧ w.cell? ⟨b, o + k * 3 + 1, none⟩ = some (.int .i64 (l.getD k ⟨0, 0, false⟩).tr) ∧ w.cell? ⟨b, o + k * 3 + 2, none⟩ = some (.bool (l.getD k ⟨0, 0, false⟩).back) := by
  obtain ⟨_, A, b, o, c', e, _, _, h1, h2⟩ := h
  simp only [Value.slice.injEq] at e
  obtain ⟨rfl, rfl, rfl⟩ := e
  obtain ⟨rfl, hb⟩ := h1 (by omega)
  obtain ⟨c1, c2, c3⟩ := h2 k hk
  exact ⟨b, o, rfl, hb, c1, c2, c3⟩
theorem rules_slice {w : World} {v : Value} {l : List Rk.Rl} (h : RulesAt w v l) : ∃ a c, v = .slice a l.length c := by
  obtain ⟨_, A, _, _, c, e, _⟩ := h
  exact ⟨A, c, e⟩
theorem waves_slice {w : World} {v : Value} {l : List (List Int)} (h : WavesAt w v l) : ∃ a c, v = .slice a l.length c := by
  obtain ⟨_, A, _, _, c, e, _⟩ := h
  exact ⟨A, c, e⟩
end Go.Proofs.YtmlhipdfjnamiaaGreat
