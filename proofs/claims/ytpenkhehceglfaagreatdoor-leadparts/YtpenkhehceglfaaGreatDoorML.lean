import Derived.Test.YtpenkhehceglfaaGreatDoorMH
import Derived.Test.YtpenkhehceglfaaGreatDoorMB
import Derived.Test.YtpenkhehceglfaaGreatDoorMA
import Derived.Test.YtpenkhehceglfaaGreatDoorMK
import Derived.Test.YtpenkhehceglfaaGreatDoorMV
import Derived.Maps.AppendAt
import Derived.Test.YtpenkhehceglfaaGreatDoorMW
import Derived.Deep.RegionHeld3
import Derived.Deep.RegionWith
import Derived.Deep.CutRange
import Derived.Lib.QuietBelow
import Derived.BigQuiet
/- Rows of releases, and of what is known of agents, however they lie: their cells; configurations and leaders as values; what stays true whatever is written elsewhere. -/
namespace Go.Proofs.YtpenkhehceglfaaGreatDoor
open Go.RowKit
/-- the cells of releases, each with its lock's slice -/
def relCells (p : (Int × List (Int × Int)) × Value) : List Value := [.int .i64 p.1.1, p.2]
def flatL : List ((Int × List (Int × Int)) × Value) → List Value
  | [] => []
  | p :: r => relCells p ++ flatL r
theorem flatL_append (a b : List ((Int × List (Int × Int)) × Value)) : flatL (a ++ b) = flatL a ++ flatL b := by
  induction a with
  | nil => rfl
  | cons p r ih => simp [flatL, ih]
theorem flatL_len (a : List ((Int × List (Int × Int)) × Value)) : (flatL a).length = a.length * 2 := by
  induction a with
  | nil => rfl
  | cons p r ih => simp [flatL, relCells, ih]; omega
/-- a slice of releases -/
def RelsAt (w : World) (v : Value) (ps : List ((Int × List (Int × Int)) × Value)) : Prop :=
  ps.length ≤ 140737488355328 ∧ ∃ p c, v = .slice p ps.length c ∧ ps.length ≤ c ∧ (p = none → c = 0 ∧ ps.length = 0) ∧ (∀ ad, p = some ad → 0 < ps.length → ad.spot = none ∧ ad.block < w.heap.size) ∧ (∀ ad, p = some ad → ∀ j u, (flatL ps)[j]? = some u → w.cell? (ad.add j) = some u) ∧ ∀ q ∈ ps, PinsAt w q.2 q.1.2
theorem flatL_pos {ps : List ((Int × List (Int × Int)) × Value)} {j : Nat} {u : Value} (h : (flatL ps)[j]? = some u) : 0 < ps.length := by
  have := (List.getElem?_eq_some_iff.1 h).1
  rw [flatL_len] at this
  omega
theorem RelsAt.below {w w' : World} {v : Value} {ps : List ((Int × List (Int × Int)) × Value)} (h : RelsAt w v ps) (hb : Below w.heap.size w w') : RelsAt w' v ps := by
  obtain ⟨hl, p, c, e, hc, h1, h2, h3, h4⟩ := h
  refine ⟨hl, p, c, e, hc, h1, fun ad ha h0 => ⟨(h2 ad ha h0).1, Nat.lt_of_lt_of_le (h2 ad ha h0).2 hb.size⟩, fun ad ha j u hu => ?_, fun q hq => (h4 q hq).below hb⟩
  have hblk : (ad.add j).block = ad.block := by unfold Addr.add; split <;> rfl
  exact (hb.cell (p := ad.add j) (by rw [hblk]; exact (h2 ad ha (flatL_pos hu)).2)).trans (h3 ad ha j u hu)
theorem rels_slice {w : World} {v : Value} {ps : List ((Int × List (Int × Int)) × Value)} (h : RelsAt w v ps) : ∃ a c, v = .slice a ps.length c := by
  obtain ⟨_, p, c, e, _⟩ := h
  exact ⟨p, c, e⟩
theorem rels_pins {w : World} {v : Value} {ps : List ((Int × List (Int × Int)) × Value)} (h : RelsAt w v ps) : ∀ q ∈ ps, PinsAt w q.2 q.1.2 := by
  obtain ⟨_, p, c, _, _, _, _, _, h4⟩ := h
  exact h4
theorem rels_none (w : World) : RelsAt w (.slice none 0 0) [] := ⟨by simp, none, 0, rfl, by simp, fun _ => ⟨rfl, rfl⟩, (fun _ e => by cases e), (fun _ e => by cases e), fun _ h => by cases h⟩
theorem flatL_at : ∀ (ps : List ((Int × List (Int × Int)) × Value)) (k : Nat) (q : (Int × List (Int × Int)) × Value), ps[k]? = some q → ∀ i, i < 2 → (flatL ps)[k * 2 + i]? = (relCells q)[i]? := by
  intro ps
  induction ps with
  | nil => intro k q h; simp at h
  | cons x r ih =>
    intro k q h i hi
    have hl : (relCells x).length = 2 := rfl
    cases k with
    | zero =>
      simp only [List.getElem?_cons_zero, Option.some.injEq] at h
      subst h
      rw [flatL, Nat.zero_mul, Nat.zero_add, List.getElem?_append_left (by omega)]
    | succ k =>
      simp only [List.getElem?_cons_succ] at h
      rw [flatL, List.getElem?_append_right (by omega), hl, show (k + 1) * 2 + i - 2 = k * 2 + i from by omega]
      exact ih k q h i hi
/-- element k of a slice of releases, cell by cell -/
theorem rels_at {w : World} {p : Option Addr} {n c : Nat} {ps : List ((Int × List (Int × Int)) × Value)} (h : RelsAt w (.slice p n c) ps) {k : Nat} {r : Int × List (Int × Int)} {v : Value} (hk : ps[k]? = some (r, v)) :
    ∃ b o, p = some ⟨b, o, none⟩ ∧ b < w.heap.size ∧ w.cell? ⟨b, o + k * 2, none⟩ = some (.int .i64 r.1) ∧ w.cell? ⟨b, o + k * 2 + 1, none⟩ = some v := by
  obtain ⟨_, p', c', e, _, h1, h2, h3, _⟩ := h
  simp only [Value.slice.injEq] at e
  obtain ⟨rfl, rfl, rfl⟩ := e
  have hlt : k < ps.length := (List.getElem?_eq_some_iff.1 hk).1
  cases p with
  | none => exact absurd (h1 rfl).2 (by omega)
  | some ad =>
    obtain ⟨hs, hb⟩ := h2 ad rfl (by omega)
    obtain ⟨b, o, spot⟩ := ad
    simp only at hs hb
    subst hs
    have key : ∀ i x, (relCells (r, v))[i]? = some x → w.cell? ⟨b, o + k * 2 + i, none⟩ = some x := fun i x hx => by
      have := h3 ⟨b, o, none⟩ rfl (k * 2 + i) x (by
        rw [← hx]
        exact flatL_at ps k (r, v) hk i (by have := (List.getElem?_eq_some_iff.1 hx).1; simpa [relCells] using this))
      rw [WideShapes.add_plain, ← Nat.add_assoc] at this
      exact this
    exact ⟨b, o, rfl, hb, key 0 _ rfl, key 1 _ rfl⟩
theorem rels_stab (v : Value) (ps : List ((Int × List (Int × Int)) × Value)) : Stab (fun w => RelsAt w v ps) := fun _ _ h hb => h.below hb
theorem rels_keep {S : Nat → Prop} {w : World} {v : Value} {ps : List ((Int × List (Int × Int)) × Value)} (h : RelsAt w v ps) (hb : ∀ ad n c, v = .slice (some ad) n c → 0 < ps.length → ¬ S ad.block) (hp : ∀ q ∈ ps, Keep S (fun w => PinsAt w q.2 q.1.2) w) : Keep S (fun w => RelsAt w v ps) w := fun w' h' => by
  obtain ⟨hl, p, c, e, hc, h1, h2, h3, h4⟩ := h
  refine ⟨hl, p, c, e, hc, h1, fun ad ha h0 => ⟨(h2 ad ha h0).1, Nat.lt_of_lt_of_le (h2 ad ha h0).2 h'.2.2.2.1⟩, fun ad ha j u hu => ?_, fun q hq => hp q hq w' h'⟩
  have hblk : (ad.add j).block = ad.block := by unfold Addr.add; split <;> rfl
  have h0 := flatL_pos hu
  subst ha
  exact (keep_cell h' (a := ad.add j) (by rw [hblk]; exact (h2 ad rfl h0).2) (by rw [hblk]; exact hb ad _ _ e h0)).trans (h3 ad rfl j u hu)
/-- a slice of what is known of agents: state, try, back: three cells each -/
def knCells (a : Ld.Known) : List Value := [.int .i64 a.st, .int .i64 a.tr, .bool a.back]
def flatK : List Ld.Known → List Value
  | [] => []
  | p :: r => knCells p ++ flatK r
theorem flatK_len (a : List Ld.Known) : (flatK a).length = a.length * 3 := by
  induction a with
  | nil => rfl
  | cons p r ih => simp [flatK, knCells, ih]; omega
theorem flatK_one : ∀ (a : List Ld.Known), ∀ u ∈ flatK a, u.oneCell' = true
  | [], u, hu => by cases hu
  | p :: r, u, hu => by
    simp only [flatK, knCells, List.cons_append, List.nil_append, List.mem_cons] at hu
    rcases hu with rfl | rfl | rfl | hu
    · rfl
    · rfl
    · rfl
    · exact flatK_one r u hu
theorem flatK_at : ∀ (ps : List Ld.Known) (k : Nat), k < ps.length → ∀ i, i < 3 → (flatK ps)[k * 3 + i]? = (knCells (ps.getD k ⟨0, 0, false⟩))[i]? := by
  intro ps
  induction ps with
  | nil => intro k h; simp at h
  | cons x r ih =>
    intro k h i hi
    have hl : (knCells x).length = 3 := rfl
    cases k with
    | zero => rw [flatK, Nat.zero_mul, Nat.zero_add, List.getElem?_append_left (by omega)]; rfl
    | succ k =>
      rw [flatK, List.getElem?_append_right (by omega), hl, show (k + 1) * 3 + i - 3 = k * 3 + i from by omega]
      exact ih k (by simpa using h) i hi
def KnowsAt (w : World) (v : Value) (l : List Ld.Known) : Prop :=
  l.length ≤ 140737488355328 ∧ ∃ A b o c, v = .slice A l.length c ∧ l.length ≤ c ∧ (A = none → c = 0) ∧ (0 < l.length → A = some ⟨b, o, none⟩ ∧ b < w.heap.size) ∧
    ∀ j, j < l.length → w.cell? ⟨b, o + j * 3, none⟩ = some (.int .i64 (l.getD j ⟨0, 0, false⟩).st) ∧ w.cell? ⟨b, o + j * 3 + 1, none⟩ = some (.int .i64 (l.getD j ⟨0, 0, false⟩).tr) ∧ w.cell? ⟨b, o + j * 3 + 2, none⟩ = some (.bool (l.getD j ⟨0, 0, false⟩).back)
theorem KnowsAt.below {w w' : World} {v : Value} {l : List Ld.Known} (h : KnowsAt w v l) (hb : Below w.heap.size w w') : KnowsAt w' v l := by
  obtain ⟨hl, A, b, o, c, e, hc, h0, h1, h2⟩ := h
  refine ⟨hl, A, b, o, c, e, hc, h0, fun hp => ⟨(h1 hp).1, Nat.lt_of_lt_of_le (h1 hp).2 hb.size⟩, fun j hj => ?_⟩
  have hlt := (h1 (by omega)).2
  exact ⟨(hb.cell (p := ⟨b, o + j * 3, none⟩) hlt).trans (h2 j hj).1, (hb.cell (p := ⟨b, o + j * 3 + 1, none⟩) hlt).trans (h2 j hj).2.1, (hb.cell (p := ⟨b, o + j * 3 + 2, none⟩) hlt).trans (h2 j hj).2.2⟩
theorem knows_slice {w : World} {v : Value} {l : List Ld.Known} (h : KnowsAt w v l) : ∃ a c, v = .slice a l.length c := by
  obtain ⟨_, A, _, _, c, e, _⟩ := h
  exact ⟨A, c, e⟩
theorem knows_none (w : World) : KnowsAt w (.slice none 0 0) [] := ⟨by simp, none, 0, 0, 0, rfl, by simp, fun _ => rfl, fun h => by simp at h, fun j hj => by simp at hj⟩
theorem knows_stab (v : Value) (l : List Ld.Known) : Stab (fun w => KnowsAt w v l) := fun _ _ h hb => h.below hb
theorem knows_keep {S : Nat → Prop} {w : World} {v : Value} {l : List Ld.Known} (h : KnowsAt w v l) (hb : ∀ ad n c, v = .slice (some ad) n c → 0 < l.length → ¬ S ad.block) : Keep S (fun w => KnowsAt w v l) w := fun w' h' => by
  obtain ⟨hl, A, b, o, c, e, hc, h0, h1, h2⟩ := h
  refine ⟨hl, A, b, o, c, e, hc, h0, fun hp => ⟨(h1 hp).1, Nat.lt_of_lt_of_le (h1 hp).2 h'.2.2.2.1⟩, fun j hj => ?_⟩
  obtain ⟨eA, hlt⟩ := h1 (by omega)
  have hS := hb ⟨b, o, none⟩ _ _ (by rw [e, eA]) (by omega)
  exact ⟨(keep_cell h' (a := ⟨b, o + j * 3, none⟩) hlt hS).trans (h2 j hj).1, (keep_cell h' (a := ⟨b, o + j * 3 + 1, none⟩) hlt hS).trans (h2 j hj).2.1, (keep_cell h' (a := ⟨b, o + j * 3 + 2, none⟩) hlt hS).trans (h2 j hj).2.2⟩
/-- a configuration as a value, and where its parts lie -/
def cfC (f d : Int) (a b c : Value) : Array Value := #[.int .i64 f, a, b, c, .int .i64 d]
def cfV (c : Ld.Config) (a b d : Value) : Value := .agg (cfC c.fid c.budget a b d)
def CfAt (w : World) (c : Ld.Config) (a b d : Value) : Prop := PinsAt w a c.flock ∧ RulesAt w b c.rules ∧ WavesAt w d c.waves
theorem CfAt.below {w w' : World} {c : Ld.Config} {a b d : Value} (h : CfAt w c a b d) (hb : Below w.heap.size w w') : CfAt w' c a b d := ⟨h.1.below hb, h.2.1.below hb, h.2.2.below hb⟩
theorem cf_stab (c : Ld.Config) (a b d : Value) : Stab (fun w => CfAt w c a b d) := fun _ _ h hb => h.below hb
/-- a leader as a value, and where its parts lie -/
def leC (n g x : Int) (k : Bool) (r a : Value) : Array Value := #[r, .int .i64 n, .int .i64 g, .bool k, a, .int .i64 x]
def leV (l : Ld.Leader) (r a : Value) : Value := .agg (leC l.now l.goal l.next l.back r a)
def RelAt (w : World) (v : Value) (l : List (Int × List (Int × Int))) : Prop := ∃ ps, RelsAt w v ps ∧ ps.map Prod.fst = l
def LdAt (w : World) (l : Ld.Leader) (r a : Value) : Prop := RelAt w r l.rels ∧ KnowsAt w a l.ags
theorem RelAt.below {w w' : World} {v : Value} {l : List (Int × List (Int × Int))} (h : RelAt w v l) (hb : Below w.heap.size w w') : RelAt w' v l := by
  obtain ⟨ps, h1, h2⟩ := h; exact ⟨ps, h1.below hb, h2⟩
theorem relA_slice {w : World} {v : Value} {l : List (Int × List (Int × Int))} (h : RelAt w v l) : ∃ a c, v = .slice a l.length c := by
  obtain ⟨ps, h1, h2⟩ := h
  obtain ⟨a, c, e⟩ := rels_slice h1
  exact ⟨a, c, by rw [e, ← h2, List.length_map]⟩
theorem LdAt.below {w w' : World} {l : Ld.Leader} {r a : Value} (h : LdAt w l r a) (hb : Below w.heap.size w w') : LdAt w' l r a := ⟨h.1.below hb, h.2.below hb⟩
theorem ld_stab (l : Ld.Leader) (r a : Value) : Stab (fun w => LdAt w l r a) := fun _ _ h hb => h.below hb
theorem relA_none (w : World) : RelAt w (.slice none 0 0) [] := ⟨[], rels_none w, rfl⟩
theorem ld_none (w : World) : LdAt w Ld.Leader.none (.slice none 0 0) (.slice none 0 0) := ⟨relA_none w, knows_none w⟩
/-- element k of releases -/
theorem relA_at {w : World} {p : Option Addr} {n c : Nat} {l : List (Int × List (Int × Int))} (h : RelAt w (.slice p n c) l) {k : Nat} (hk : k < l.length) :
    ∃ b o v, p = some ⟨b, o, none⟩ ∧ b < w.heap.size ∧ w.cell? ⟨b, o + k * 2, none⟩ = some (.int .i64 (l.getD k (0, [])).1) ∧ w.cell? ⟨b, o + k * 2 + 1, none⟩ = some v ∧ PinsAt w v (l.getD k (0, [])).2 := by
  obtain ⟨ps, h1, rfl⟩ := h
  rw [List.length_map] at hk
  obtain ⟨b, o, e1, e2, e3, e4⟩ := rels_at h1 (k := k) (r := ps[k].1) (v := ps[k].2) (by rw [List.getElem?_eq_getElem hk])
  have e : (ps.map Prod.fst).getD k (0, []) = ps[k].1 := by simp [List.getD_eq_getElem?_getD, hk]
  rw [e]
  exact ⟨b, o, _, e1, e2, e3, e4, rels_pins h1 _ (List.getElem_mem hk)⟩
theorem knows_at {w : World} {p : Option Addr} {n c : Nat} {l : List Ld.Known} (h : KnowsAt w (.slice p n c) l) {k : Nat} (hk : k < l.length) :
    ∃ b o, p = some ⟨b, o, none⟩ ∧ b < w.heap.size ∧ w.cell? ⟨b, o + k * 3, none⟩ = some (.int .i64 (l.getD k ⟨0, 0, false⟩).st) ∧ w.cell? ⟨b, o + k * 3 + 1, none⟩ = some (.int .i64 (l.getD k ⟨0, 0, false⟩).tr) ∧ w.cell? ⟨b, o + k * 3 + 2, none⟩ = some (.bool (l.getD k ⟨0, 0, false⟩).back) := by
  obtain ⟨_, A, b, o, c', e, _, _, h1, h2⟩ := h
  simp only [Value.slice.injEq] at e
  obtain ⟨rfl, rfl, rfl⟩ := e
  obtain ⟨rfl, hb⟩ := h1 (by omega)
  obtain ⟨c1, c2, c3⟩ := h2 k hk
  exact ⟨b, o, rfl, hb, c1, c2, c3⟩
theorem rules_slice {w : World} {v : Value} {l : List Rk.Rl} (h : RulesAt w v l) : ∃ a c, v = .slice a l.length c := by
  obtain ⟨_, A, _, _, c, e, _⟩ := h
  exact ⟨A, c, e⟩
theorem waves_slice {w : World} {v : Value} {l : List (List Int)} (h : WavesAt w v l) : ∃ a c, v = .slice a l.length c := by
  obtain ⟨_, A, _, _, c, e, _⟩ := h
  exact ⟨A, c, e⟩
end Go.Proofs.YtpenkhehceglfaaGreatDoor
/- The contracts of whole.Release, lead.Agents, lead.checkBegin, lead.checkKept and lead.Config. -/
namespace Go.Proofs.YtpenkhehceglfaaGreatDoor
open Go.RowKit
set_option maxHeartbeats 4000000 in
theorem ldAgents_any (cf : Ld.Config) (A B D : Value) (w : World) (hC : CfAt w cf A B D) :
    Calls Tryz.prog 36 #[cfV cf A B D] w fun e w' => e = .returned (.int .i64 (Ld.agents cf)) ∧ Below w.heap.size w w' := by
  obtain ⟨f, L, R, W, d⟩ := cf
  obtain ⟨a1, c1, rfl⟩ := pins_slice hC.1
  obtain ⟨a2, c2, rfl⟩ := rules_slice hC.2.1
  obtain ⟨a3, c3, rfl⟩ := waves_slice hC.2.2
  have HBK := box1 w #[.int .i64 f, .slice a1 L.length c1, .slice a2 R.length c2, .slice a3 W.length c3, .int .i64 d] 45
  obtain ⟨hB0, hK0⟩ := HBK
  have HS : Hid (Ld.agents ⟨f, L, R, W, d⟩ = Ld.sumTo 0 W) := rfl
  obtain ⟨hll, A3, b, o, c3', e3, -, hA, hCc⟩ := hC.2.2
  simp only [Value.slice.injEq] at e3
  obtain ⟨rfl, -, rfl⟩ := e3
  have HA : Hid (0 < W.length → a3 = some ⟨b, o, none⟩ ∧ b < w.heap.size) := hA
  have HC : Hid (∀ j, j < W.length → ∃ u, w.cell? ⟨b, o + j, none⟩ = some u ∧ IntsAt w u (W.getD j [])) := hCc
  unfold cfV cfC
  simp only
  generalize Ld.agents ⟨f, L, R, W, d⟩ = Q at HS ⊢
  have HB0 : Hid (Below w.heap.size w (w.alloc (.cells #[.int .i64 f, .slice a1 L.length c1, .slice a2 R.length c2, .slice a3 W.length c3, .int .i64 d] 45))) := hB0
  have k2 := hK0.cell 3
  simp only [List.getElem?_toArray, List.getElem?_cons_zero, List.getElem?_cons_succ] at k2
  clear hC hA hCc hB0 hK0
  generalize L.length = n1 at *
  generalize R.length = n2 at *
  go_enter Tryz.func36, Tryz.ntmps36
  go_wp2
  go_loopg [3, 9] W.length (fun g s3 s9 wr => ∃ k s : Nat, k ≤ W.length ∧ W.length - k ≤ g ∧ s3 = .int .i64 s ∧ s9 = .int .i64 k ∧ s ≤ 6 ∧ Hid (Ld.sumTo s (W.drop k) = Ld.sumTo 0 W) ∧ wr = (w.alloc (.cells #[.int .i64 f, .slice a1 n1 c1, .slice a2 n2 c2, .slice a3 W.length c3, .int .i64 d] 45)))
  case atStart => exact ⟨0, 0, Nat.zero_le _, by omega, rfl, rfl, by omega, rfl, rfl⟩
  case round =>
    obtain ⟨k, s, hk, hg, rfl, rfl, hs, H, rfl⟩ := hrel
    by_cases hlt : k < W.length
    · obtain ⟨rfl, hbw⟩ := HA.out (by omega)
      obtain ⟨u, hu, hI⟩ := HC.out k hlt
      obtain ⟨hlm, B2, b2, o2, c2', rfl, -, -, -⟩ := hI
      rw [← HB0.out.cell (p := ⟨b, _, none⟩) hbw] at hu
      have hd := dropL W [] k hlt
      have HN : Hid (6 < s + (W.getD k []).length → Ld.sumTo 0 W = s + (W.getD k []).length) := fun h => by rw [← H.out, hd, Ld.sumTo, if_pos h]
      have HM : Hid (¬ 6 < s + (W.getD k []).length → Ld.sumTo (s + (W.getD k []).length) (W.drop (k + 1)) = Ld.sumTo 0 W) := fun h => by
        have := H.out
        rw [hd, Ld.sumTo, if_neg h] at this
        exact this
      generalize (W.getD k []).length = m at hlm hu HN HM
      clear HA HC hd H
      by_cases h6 : 6 < s + m
      · have HE : Hid (Q = ((s + m : Nat) : Int)) := by rw [HS.out, HN.out h6]; rfl
        have h6' : (6 : Int) < s + m := by omega
        clear HN HM HS
        go_wp2
        go_ret
        exact ⟨by rw [HE.out]; go_num, HB0.out⟩
      · have HE : Hid (Ld.sumTo (s + m) (W.drop (k + 1)) = Ld.sumTo 0 W) := HM.out h6
        have h6' : decide ((6 : Int) < s + m) = false := decide_eq_false (by omega)
        clear HN HM
        go_wp2
        go_roundg (W.length - (k + 1))
        case measure => omega
        case rel => exact ⟨k + 1, s + m, by omega, by omega, by go_num, by go_num, by omega, HE, rfl⟩
    · have hk' : k = W.length := by omega
      have HE : Hid (Q = (s : Int)) := by
        have := H.out
        rw [hk', List.drop_length, Ld.sumTo] at this
        rw [HS.out, ← this]; rfl
      subst hk'
      clear hk hlt HA HC H HS
      go_wp2
      go_ret
      exact ⟨by rw [HE.out]; rfl, HB0.out⟩
def begE (f d : Int) : Int := if f = 1 ∧ Lk.within d 0 3 = true then 0 else 3
set_option maxHeartbeats 2000000 in
theorem begin_any (f d : Int) (a1 a2 a3 : Option Addr) (n1 c1 n2 c2 n3 c3 : Nat) (w : World) :
    Calls Tryz.prog 86 #[.agg #[.int .i64 f, .slice a1 n1 c1, .slice a2 n2 c2, .slice a3 n3 c3, .int .i64 d]] w fun e w' => e = .returned (.int .i64 (begE f d)) ∧ Below w.heap.size w w' := by
  have HB : Hid (∀ O, Below w.heap.size w (w.alloc O)) := fun O => (Below.refl _ w).alloc (Nat.le_refl _) O
  have HE : Hid ((f ≠ 1 ∨ d < 0 ∨ 3 < d) → begE f d = 3) := fun h => by unfold begE; rw [if_neg]; simp [Lk.within]; omega
  have HF : Hid (f = 1 → 0 ≤ d → d ≤ 3 → begE f d = 0) := fun h1 h2 h3 => by unfold begE; rw [if_pos]; simp [Lk.within, h1, h2, h3]
  generalize begE f d = Q at HE HF ⊢
  by_cases p1 : f = 1
  rotate_left
  · have HQ : Hid (Q = 3) := HE.out (by omega)
    have p1' : (f != 1) = true := by rw [bne_iff_ne]; exact p1
    clear HE HF p1
    go_enter Tryz.func86, Tryz.ntmps86
    go_wp2_with go_in
    go_ret
    exact ⟨by rw [HQ.out]; rfl, HB.out _⟩
  subst p1
  by_cases t1 : 0 ≤ d
  rotate_left
  · have HQ : Hid (Q = 3) := HE.out (by omega)
    have t1' : decide (0 ≤ d) = false := decide_eq_false t1
    have t1'' : d < 0 := by omega
    clear HE HF
    go_enter Tryz.func86, Tryz.ntmps86
    go_wp2_with go_in
    go_ret
    exact ⟨by rw [HQ.out]; rfl, HB.out _⟩
  by_cases t2 : d ≤ 3
  rotate_left
  · have HQ : Hid (Q = 3) := HE.out (by omega)
    have t2' : decide (d ≤ 3) = false := decide_eq_false t2
    clear HE HF
    go_enter Tryz.func86, Tryz.ntmps86
    go_wp2_with go_in
    go_ret
    exact ⟨by rw [HQ.out]; rfl, HB.out _⟩
  have HQ : Hid (Q = 0) := HF.out rfl t1 t2
  clear HE HF
  go_enter Tryz.func86, Tryz.ntmps86
  go_wp2_with go_in
  go_ret
  exact ⟨by rw [HQ.out]; rfl, HB.out _⟩
set_option maxHeartbeats 2000000 in
theorem kept_any (v u : Value) (l : List (Int × Int)) (r : List Rk.Rl) (w : World) (hP : PinsAt w v l) (hR : RulesAt w u r) :
    Calls Tryz.prog 87 #[v, u] w fun e w' => e = .returned (.int .i64 (Ld.ruled l r)) ∧ Below w.heap.size w w' := by
  have HC := broken_any v u l r w hP hR
  have HE : Hid (Ld.ruled l r = if Rk.brokenErr l r = 0 then (if 0 ≤ Rk.broken l r then 8 else 0) else Rk.brokenErr l r) := rfl
  obtain ⟨a1, c1, rfl⟩ := pins_slice hP
  obtain ⟨a2, c2, rfl⟩ := rules_slice hR
  clear hP hR
  generalize Ld.ruled l r = Q at HE ⊢
  generalize Rk.brokenErr l r = E at HE HC
  generalize Rk.broken l r = K at HE HC
  go_enter Tryz.func87, Tryz.ntmps87
  go_wp2_with fail
  refine HC.mono ?_
  rintro e w1 ⟨rfl, hb1⟩
  have HB : Hid (Below w.heap.size w w1) := hb1
  clear hb1 HC
  by_cases h1 : E = 0
  · subst h1
    by_cases h2 : 0 ≤ K
    · have HQ : Hid (Q = 8) := by rw [HE.out, if_pos rfl, if_pos h2]; rfl
      have h2' : decide (K ≥ 0) = true := decide_eq_true h2
      clear HE
      go_wp2
      go_ret
      exact ⟨by rw [HQ.out]; rfl, HB.out⟩
    · have HQ : Hid (Q = 0) := by rw [HE.out, if_pos rfl, if_neg h2]; rfl
      have h2' : decide (0 ≤ K) = false := decide_eq_false h2
      clear HE
      go_wp2
      go_ret
      exact ⟨by rw [HQ.out]; rfl, HB.out⟩
  · have HQ : Hid (Q = E) := by rw [HE.out, if_neg h1]; rfl
    have h1' : (E == 0) = false := by simpa using h1
    clear HE h1
    go_wp2
    go_ret
    exact ⟨by rw [HQ.out]; rfl, HB.out⟩
theorem orr_cf (f d : Int) (L : List (Int × Int)) (R : List Rk.Rl) (W : List (List Int)) : orr [Lk.chkRel f L, begE f d, Ld.ruled L R, Wv.chk W (Ld.agents ⟨f, L, R, W, d⟩)] = Ld.chkConfig ⟨f, L, R, W, d⟩ := by
  have e := Ld.agents_chk ⟨f, L, R, W, d⟩
  simp only at e
  rw [e]
  unfold Ld.chkConfig begE
  simp only [orr]
  by_cases h : Lk.chkRel f L = 0
  · rw [if_pos h, if_pos h]
    by_cases h2 : f = 1 ∧ Lk.within d 0 3 = true
    · rw [if_pos h2, if_pos h2, if_pos rfl]
      by_cases h3 : Ld.ruled L R = 0
      · rw [if_pos h3, if_pos h3]
        by_cases h4 : Wv.chk W (Ld.many ⟨f, L, R, W, d⟩) = 0
        · rw [if_pos h4, h4]
        · rw [if_neg h4]
      · rw [if_neg h3, if_neg h3]
    · rw [if_neg h2, if_neg h2, if_neg (by decide)]
  · rw [if_neg h, if_neg h]
theorem cells4 (w : World) (x y z u : Int) (t : TypeId) : ∀ j, j < [x, y, z, u].length → (w.alloc (.cells #[.int .i64 x, .int .i64 y, .int .i64 z, .int .i64 u] t)).cell? ⟨w.heap.size, j, none⟩ = some (.int .i64 ([x, y, z, u].getD j 0)) := by
  intro j hj
  rw [(blk_alloc w #[.int .i64 x, .int .i64 y, .int .i64 z, .int .i64 u] t).cell j]
  match j, hj with
  | 0, _ => rfl
  | 1, _ => rfl
  | 2, _ => rfl
  | 3, _ => rfl
  | n + 4, h => simp at h; omega
/-- cmp.Or at error numbers that were just laid -/
theorem orE2 (w : World) (x y : Int) :
    Calls Tryz.prog 20 #[.slice (some ⟨w.heap.size, 0, none⟩) 2 2] (w.alloc (.cells #[.int .i64 x, .int .i64 y] 28)) fun e w' => e = .returned (.int .i64 (orr [x, y])) ∧ Below (w.alloc (.cells #[.int .i64 x, .int .i64 y] 28)).heap.size (w.alloc (.cells #[.int .i64 x, .int .i64 y] 28)) w' :=
  or_any w.heap.size 2 [x, y] _ (by simp) (cells2 _ _ _ _)
theorem orE3 (w : World) (x y z : Int) :
    Calls Tryz.prog 20 #[.slice (some ⟨w.heap.size, 0, none⟩) 3 3] (w.alloc (.cells #[.int .i64 x, .int .i64 y, .int .i64 z] 28)) fun e w' => e = .returned (.int .i64 (orr [x, y, z])) ∧ Below (w.alloc (.cells #[.int .i64 x, .int .i64 y, .int .i64 z] 28)).heap.size (w.alloc (.cells #[.int .i64 x, .int .i64 y, .int .i64 z] 28)) w' :=
  or_any w.heap.size 3 [x, y, z] _ (by simp) (cells3 _ _ _ _ _)
theorem orE4 (w : World) (x y z u : Int) :
    Calls Tryz.prog 20 #[.slice (some ⟨w.heap.size, 0, none⟩) 4 4] (w.alloc (.cells #[.int .i64 x, .int .i64 y, .int .i64 z, .int .i64 u] 28)) fun e w' => e = .returned (.int .i64 (orr [x, y, z, u])) ∧ Below (w.alloc (.cells #[.int .i64 x, .int .i64 y, .int .i64 z, .int .i64 u] 28)).heap.size (w.alloc (.cells #[.int .i64 x, .int .i64 y, .int .i64 z, .int .i64 u] 28)) w' :=
  or_any w.heap.size 4 [x, y, z, u] _ (by simp) (cells4 _ _ _ _ _ _)
set_option maxHeartbeats 8000000 in
set_option maxRecDepth 100000 in
theorem config_any (cf : Ld.Config) (A B D : Value) (w : World) (hC : CfAt w cf A B D) :
    Calls Tryz.prog 62 #[cfV cf A B D] w fun e w' => e = .returned (.int .i64 (Ld.chkConfig cf)) ∧ Below w.heap.size w w' := by
  obtain ⟨f, L, R, W, d⟩ := cf
  obtain ⟨a1, c1, rfl⟩ := pins_slice hC.1
  obtain ⟨a2, c2, rfl⟩ := rules_slice hC.2.1
  obtain ⟨a3, c3, rfl⟩ := waves_slice hC.2.2
  have HO : Hid (orr [Lk.chkRel f L, begE f d, Ld.ruled L R, Wv.chk W (Ld.agents ⟨f, L, R, W, d⟩)] = Ld.chkConfig ⟨f, L, R, W, d⟩) := orr_cf f d L R W
  have H1 : Hid (∀ w', Below w.heap.size w w' → Calls Tryz.prog 42 #[.agg #[.int .i64 f, .slice a1 L.length c1]] w' fun e w'' => e = .returned (.int .i64 (Lk.chkRel f L)) ∧ Below w'.heap.size w' w'') := fun w' hb => release_any f _ L w' (hC.1.below hb)
  have H2 : Hid (∀ w', Calls Tryz.prog 86 #[.agg #[.int .i64 f, .slice a1 L.length c1, .slice a2 R.length c2, .slice a3 W.length c3, .int .i64 d]] w' fun e w'' => e = .returned (.int .i64 (begE f d)) ∧ Below w'.heap.size w' w'') := fun w' => begin_any f d a1 a2 a3 _ c1 _ c2 _ c3 w'
  have H3 : Hid (∀ w', Below w.heap.size w w' → Calls Tryz.prog 87 #[.slice a1 L.length c1, .slice a2 R.length c2] w' fun e w'' => e = .returned (.int .i64 (Ld.ruled L R)) ∧ Below w'.heap.size w' w'') := fun w' hb => kept_any _ _ L R w' (hC.1.below hb) (hC.2.1.below hb)
  have H4 : Hid (∀ w', Below w.heap.size w w' → Calls Tryz.prog 36 #[.agg #[.int .i64 f, .slice a1 L.length c1, .slice a2 R.length c2, .slice a3 W.length c3, .int .i64 d]] w' fun e w'' => e = .returned (.int .i64 (Ld.agents ⟨f, L, R, W, d⟩)) ∧ Below w'.heap.size w' w'') := fun w' hb => ldAgents_any ⟨f, L, R, W, d⟩ _ _ _ w' (hC.below hb)
  have H5 : Hid (∀ w', Below w.heap.size w w' → Calls Tryz.prog 88 #[.slice a3 W.length c3, .int .i64 (Ld.agents ⟨f, L, R, W, d⟩)] w' fun e w'' => e = .returned (.int .i64 (Wv.chk W (Ld.agents ⟨f, L, R, W, d⟩))) ∧ Below w'.heap.size w' w'') := fun w' hb => checkP_any _ W _ w' (hC.2.2.below hb)
  clear hC
  unfold cfV cfC
  simp only
  generalize Ld.chkConfig ⟨f, L, R, W, d⟩ = Q at HO ⊢
  generalize Wv.chk W (Ld.agents ⟨f, L, R, W, d⟩) = E4 at HO H5
  generalize Ld.agents ⟨f, L, R, W, d⟩ = M at H4 H5
  generalize Lk.chkRel f L = E1 at HO H1
  generalize begE f d = E2 at HO H2
  generalize Ld.ruled L R = E3 at HO H3
  generalize L.length = n1 at *
  generalize R.length = n2 at *
  generalize W.length = n3 at *
  have HBK := box1 w #[.int .i64 f, .slice a1 n1 c1, .slice a2 n2 c2, .slice a3 n3 c3, .int .i64 d] 45
  go_enter Tryz.func62, Tryz.ntmps62
  go_wp2_with fail
  generalize (w.alloc (.cells #[.int .i64 f, .slice a1 n1 c1, .slice a2 n2 c2, .slice a3 n3 c3, .int .i64 d] 45)) = V at HBK ⊢
  obtain ⟨hB0, hK0⟩ := HBK
  generalize hgb : w.heap.size = gb at hK0 ⊢
  have HB0 : Hid (Below w.heap.size w V) := by rw [hgb]; exact hgb ▸ hB0
  have S0 : Hid (V.drew.cell? ⟨gb, 0, none⟩ = some (.int .i64 f) ∧ V.drew.cell? ⟨gb, 1, none⟩ = some (.slice a1 n1 c1) ∧ V.drew.cell? ⟨gb, 2, none⟩ = some (.slice a2 n2 c2) ∧ V.drew.cell? ⟨gb, 3, none⟩ = some (.slice a3 n3 c3) ∧ V.drew.cell? ⟨gb, 4, none⟩ = some (.int .i64 d) ∧ Hid (Below V.heap.size V V.drew)) := ⟨hK0.cell 0, hK0.cell 1, hK0.cell 2, hK0.cell 3, hK0.cell 4, (Below.refl _ V).drew⟩
  have KP : Hid (∀ x y : World, Below x.heap.size x y → (x.cell? ⟨gb, 0, none⟩ = some (.int .i64 f) ∧ x.cell? ⟨gb, 1, none⟩ = some (.slice a1 n1 c1) ∧ x.cell? ⟨gb, 2, none⟩ = some (.slice a2 n2 c2) ∧ x.cell? ⟨gb, 3, none⟩ = some (.slice a3 n3 c3) ∧ x.cell? ⟨gb, 4, none⟩ = some (.int .i64 d) ∧ Hid (Below V.heap.size V x)) → (y.cell? ⟨gb, 0, none⟩ = some (.int .i64 f) ∧ y.cell? ⟨gb, 1, none⟩ = some (.slice a1 n1 c1) ∧ y.cell? ⟨gb, 2, none⟩ = some (.slice a2 n2 c2) ∧ y.cell? ⟨gb, 3, none⟩ = some (.slice a3 n3 c3) ∧ y.cell? ⟨gb, 4, none⟩ = some (.int .i64 d) ∧ Hid (Below V.heap.size V y))) := fun x y hb h => by
    obtain ⟨h1, h2, h3, h4, h5, hB⟩ := h
    have e : ∀ b o v, x.cell? ⟨b, o, none⟩ = some v → y.cell? ⟨b, o, none⟩ = some v := fun b o v hc => (hb.cell (p := ⟨b, o, none⟩) (World.block_lt_of_cell? x _ hc)).trans hc
    exact ⟨e _ _ _ h1, e _ _ _ h2, e _ _ _ h3, e _ _ _ h4, e _ _ _ h5, hB.out.trans (hb.mono hB.out.size)⟩
  have KA : Hid (∀ (x : World) O, Below x.heap.size x (x.alloc O)) := fun x O => (Below.refl _ x).alloc (Nat.le_refl _) O
  have SP : Hid (∀ x : World, (x.cell? ⟨gb, 0, none⟩ = some (.int .i64 f) ∧ x.cell? ⟨gb, 1, none⟩ = some (.slice a1 n1 c1) ∧ x.cell? ⟨gb, 2, none⟩ = some (.slice a2 n2 c2) ∧ x.cell? ⟨gb, 3, none⟩ = some (.slice a3 n3 c3) ∧ x.cell? ⟨gb, 4, none⟩ = some (.int .i64 d) ∧ Hid (Below V.heap.size V x)) → Below w.heap.size w x) := fun x h => HB0.out.trans (h.2.2.2.2.2.out.mono HB0.out.size)
  clear hK0 hB0
  go_region_held3 (fun w' => w'.cell? ⟨gb, 0, none⟩ = some (.int .i64 f) ∧ w'.cell? ⟨gb, 1, none⟩ = some (.slice a1 n1 c1) ∧ w'.cell? ⟨gb, 2, none⟩ = some (.slice a2 n2 c2) ∧ w'.cell? ⟨gb, 3, none⟩ = some (.slice a3 n3 c3) ∧ w'.cell? ⟨gb, 4, none⟩ = some (.int .i64 d) ∧ Hid (Below V.heap.size V w')) (first | exact KP.out _ _ (by assumption) (by assumption) | exact S0.out | exact KP.out _ _ (KA.out _ _) (by assumption))
    (first
      | (go_at_call 42; refine (H1.out _ (SP.out _ (by assumption))).mono ?_; rintro e y ⟨rfl, hby⟩)
      | (go_at_call 86; refine (H2.out _).mono ?_; rintro e y ⟨rfl, hby⟩)
      | (go_at_call 87; refine (H3.out _ (SP.out _ (by assumption))).mono ?_; rintro e y ⟨rfl, hby⟩)
      | (go_at_call 36; refine (H4.out _ (SP.out _ (by assumption))).mono ?_; rintro e y ⟨rfl, hby⟩)
      | (go_at_call 88; refine (H5.out _ (SP.out _ (by assumption))).mono ?_; rintro e y ⟨rfl, hby⟩)
      | (go_at_call 20; refine (orE4 _ _ _ _ _).mono ?_; rintro e y ⟨rfl, hby⟩))
  have HB5 : Hid (Below w.heap.size w y) := SP.out _ (by assumption)
  go_wp2
  go_ret
  exact ⟨by rw [HO.out]; rfl, hgb ▸ HB5.out⟩
end Go.Proofs.YtpenkhehceglfaaGreatDoor
/- The contracts of lead.checkReleases, checkNumbers, checkForm, checkKnown and checkAgents. -/
namespace Go.Proofs.YtpenkhehceglfaaGreatDoor
open Go.RowKit
def relE (R : List Rk.Rl) (rs : List (Int × List (Int × Int))) : Int := if 1 ≤ rs.length ∧ rs.length ≤ 6 then Ld.chkRels R 1 rs else 2
theorem dropRl (l : List (Int × List (Int × Int))) (k : Nat) (h : k < l.length) : l.drop k = l.getD k (0, []) :: l.drop (k + 1) := dropL l (0, []) k h
set_option maxHeartbeats 8000000 in
set_option maxRecDepth 100000 in
theorem checkRels_any (f d nw g nx : Int) (bk : Bool) (a1 a3 a5 : Option Addr) (n1 c1 n3 c3 n5 c5 : Nat) (R : List Rk.Rl) (rs : List (Int × List (Int × Int))) (B Q4 : Value) (w : World) (hR : RulesAt w B R) (hL : RelAt w Q4 rs) :
    Calls Tryz.prog 66 #[.agg #[.int .i64 f, .slice a1 n1 c1, B, .slice a3 n3 c3, .int .i64 d], .agg #[Q4, .int .i64 nw, .int .i64 g, .bool bk, .slice a5 n5 c5, .int .i64 nx]] w fun e w' => e = .returned (.int .i64 (relE R rs)) ∧ Below w.heap.size w w' := by
  obtain ⟨a2, c2, rfl⟩ := rules_slice hR
  obtain ⟨a4, c4, rfl⟩ := relA_slice hL
  have HR : Hid (RulesAt w (.slice a2 R.length c2) R) := hR
  have HL : Hid (RelAt w (.slice a4 rs.length c4) rs) := hL
  have HE : Hid (rs.length < 1 ∨ 6 < rs.length → relE R rs = 2) := fun h => by unfold relE; rw [if_neg]; omega
  have HF : Hid (1 ≤ rs.length → rs.length ≤ 6 → relE R rs = Ld.chkRels R 1 rs) := fun h1 h2 => by unfold relE; rw [if_pos ⟨h1, h2⟩]
  clear hR hL
  generalize relE R rs = Q at HE HF ⊢
  obtain ⟨hB0, hK0, hK1⟩ := box2 w #[.int .i64 f, .slice a1 n1 c1, .slice a2 R.length c2, .slice a3 n3 c3, .int .i64 d] #[.slice a4 rs.length c4, .int .i64 nw, .int .i64 g, .bool bk, .slice a5 n5 c5, .int .i64 nx] 45 49
  have k0 := hK1.cell 0
  simp only [List.getElem?_toArray, List.getElem?_cons_zero] at k0
  have HB0 : Hid (Below w.heap.size w _) := hB0
  have HK0 : Hid (Blk _ w.heap.size _ _) := hK0
  have HK1 : Hid (Blk _ (w.heap.size + 1) _ _) := hK1
  clear hB0 hK0 hK1
  generalize hn2 : R.length = n2 at *
  by_cases p1 : 1 ≤ rs.length
  rotate_left
  · have HQ : Hid (Q = 2) := HE.out (by omega)
    have p0 : rs.length = 0 := by omega
    rw [p0] at HB0 k0 ⊢
    clear HE HF HK0 HK1 HL
    go_enter Tryz.func66, Tryz.ntmps66
    go_wp2_with go_in
    go_ret
    exact ⟨by rw [HQ.out]; rfl, HB0.out⟩
  have p1' : (1 : Int) ≤ rs.length := by omega
  by_cases p2 : rs.length ≤ 6
  rotate_left
  · have HQ : Hid (Q = 2) := HE.out (by omega)
    have p2' : decide ((rs.length : Int) ≤ 6) = false := decide_eq_false (by omega)
    have p2'' : (6 : Int) < rs.length := by omega
    clear HE HF HK0 HK1 HL
    go_enter Tryz.func66, Tryz.ntmps66
    go_wp2_with go_in
    go_ret
    exact ⟨by rw [HQ.out]; rfl, HB0.out⟩
  have p2' : (rs.length : Int) ≤ 6 := by omega
  have HQ : Hid (Q = Ld.chkRels R 1 rs) := HF.out p1 p2
  clear HE HF
  go_enter Tryz.func66, Tryz.ntmps66
  go_wp2_with go_in
  go_loopg [16] rs.length (fun g s16 wr => ∃ k : Nat, k ≤ rs.length ∧ rs.length - k ≤ g ∧ s16 = .int .i64 k ∧ Hid (Ld.chkRels R ((k : Int) + 1) (rs.drop k) = Ld.chkRels R 1 rs) ∧ Hid (Blk wr w.heap.size #[.int .i64 f, .slice a1 n1 c1, .slice a2 n2 c2, .slice a3 n3 c3, .int .i64 d] 45) ∧ Hid (Below w.heap.size w wr))
  case atStart => exact ⟨0, Nat.zero_le _, by omega, rfl, rfl, HK0, HB0⟩
  case round =>
    obtain ⟨k, hk, hg, rfl, H, HK, HB⟩ := hrel
    clear k0 HB0 HK0 HK1
    by_cases hlt : k < rs.length
    · obtain ⟨b, o, v, rfl, hbw, g1, g2, hP⟩ := relA_at (HL.out.below HB.out) hlt
      obtain ⟨a, c, rfl⟩ := pins_slice hP
      have hd := dropRl rs k hlt
      have HKP : Hid (∀ w', Below wr.heap.size wr w' → Calls Tryz.prog 87 #[.slice a (rs.getD k (0, [])).2.length c, .slice a2 n2 c2] w' fun e w'' => e = .returned (.int .i64 (Ld.ruled (rs.getD k (0, [])).2 R)) ∧ Below w'.heap.size w' w'') := fun w' hb' => kept_any _ _ _ R w' (hP.below hb') (by have := HR.out.below (HB.out.trans (hb'.mono HB.out.size)); exact this)
      have H' := H.out
      rw [hd, Ld.chkRels] at H'
      have HX : Hid ((if Ld.ruled (rs.getD k (0, [])).2 R = 0 then (if (rs.getD k (0, [])).1 = (k : Int) + 1 then Ld.chkRels R ((k : Int) + 1 + 1) (rs.drop (k + 1)) else 4) else Ld.ruled (rs.getD k (0, [])).2 R) = Ld.chkRels R 1 rs) := H'
      clear hd H' H hP
      generalize rs.getD k (0, []) = p at g1 g2 HKP HX
      obtain ⟨i, l⟩ := p
      simp only at g1 g2
      simp only at HKP HX
      generalize Ld.ruled l R = E at HKP HX
      generalize l.length = n at g2 HKP
      have kr := HK.out.cell 2
      simp only [List.getElem?_toArray, List.getElem?_cons_zero, List.getElem?_cons_succ] at kr
      have hlb := HK.out.lt
      have hx := box1 wr #[.int .i64 i, .slice a n c] 24
      have HX0 : Hid (Below wr.heap.size wr (wr.alloc (.cells #[.int .i64 i, .slice a n c] 24)) ∧ Blk (wr.alloc (.cells #[.int .i64 i, .slice a n c] 24)) wr.heap.size #[.int .i64 i, .slice a n c] 24) := hx
      clear hx
      go_wp2_with fail
      refine (HKP.out _ HX0.out.1).mono ?_
      rintro e w1 ⟨rfl, hb1⟩
      have r0 := (HX0.out.2.below hb1).cell 0
      simp only [List.getElem?_toArray, List.getElem?_cons_zero] at r0
      have HB1 : Hid (Below w.heap.size w w1) := (HB.out.trans (HX0.out.1.mono HB.out.size)).trans (hb1.mono (Nat.le_trans HB.out.size HX0.out.1.size))
      have HK1 : Hid (Blk w1 w.heap.size #[.int .i64 f, .slice a1 n1 c1, .slice a2 n2 c2, .slice a3 n3 c3, .int .i64 d] 45) := (HK.out.below HX0.out.1).below hb1
      clear hb1 HX0 HB HK HKP kr
      by_cases e0 : E = 0
      · subst e0
        by_cases ei : i = (k : Int) + 1
        · have HN : Hid (Ld.chkRels R (((k + 1 : Nat) : Int) + 1) (rs.drop (k + 1)) = Ld.chkRels R 1 rs) := by
            have := HX.out
            rw [if_pos rfl, if_pos ei] at this
            exact this
          subst ei
          clear HX
          go_wp2
          go_roundg (rs.length - (k + 1))
          case measure => omega
          case rel => exact ⟨k + 1, by omega, by omega, by go_num, HN, HK1, HB1⟩
        · have HN : Hid (Q = 4) := by
            have := HX.out
            rw [if_pos rfl, if_neg ei] at this
            rw [HQ.out, ← this]; rfl
          have ei' : (i != (k : Int) + 1) = true := by rw [bne_iff_ne]; exact ei
          clear HX ei
          go_wp2
          go_ret
          exact ⟨by rw [HN.out]; rfl, HB1.out⟩
      · have HN : Hid (Q = E) := by
          have := HX.out
          rw [if_neg e0] at this
          rw [HQ.out, ← this]; rfl
        have e0' : (E != 0) = true := by rw [bne_iff_ne]; exact e0
        clear HX e0
        go_wp2
        go_ret
        exact ⟨by rw [HN.out]; rfl, HB1.out⟩
    · have hk' : k = rs.length := by omega
      have HN : Hid (Q = 0) := by
        have := H.out
        rw [hk', List.drop_length, Ld.chkRels] at this
        rw [HQ.out, ← this]; rfl
      subst hk'
      clear hk hlt H HK
      go_wp2
      go_ret
      exact ⟨by rw [HN.out]; rfl, HB.out⟩
def numL (n : Nat) (nw g nx : Int) : Int := if (Lk.within nw 1 n && Lk.within g 0 n && Lk.within nx 1 201) = true then 0 else 3
set_option maxHeartbeats 4000000 in
theorem numbersL_any (nw g nx : Int) (bk : Bool) (a4 a5 : Option Addr) (n4 c4 n5 c5 : Nat) (w : World) :
    Calls Tryz.prog 67 #[.agg #[.slice a4 n4 c4, .int .i64 nw, .int .i64 g, .bool bk, .slice a5 n5 c5, .int .i64 nx]] w fun e w' => e = .returned (.int .i64 (numL n4 nw g nx)) ∧ Below w.heap.size w w' := by
  have HB : Hid (∀ O, Below w.heap.size w (w.alloc O)) := fun O => (Below.refl _ w).alloc (Nat.le_refl _) O
  have HE : Hid ((nw < 1 ∨ (n4 : Int) < nw ∨ g < 0 ∨ (n4 : Int) < g ∨ nx < 1 ∨ 201 < nx) → numL n4 nw g nx = 3) := fun h => by unfold numL; rw [if_neg]; simp [Lk.within]; omega
  have HF : Hid (1 ≤ nw → nw ≤ n4 → 0 ≤ g → g ≤ n4 → 1 ≤ nx → nx ≤ 201 → numL n4 nw g nx = 0) := fun h1 h2 h3 h4 h5 h6 => by unfold numL; rw [if_pos]; simp [Lk.within, h1, h2, h3, h4, h5, h6]
  generalize numL n4 nw g nx = Q at HE HF ⊢
  by_cases p1 : 1 ≤ nw
  rotate_left
  · have HQ : Hid (Q = 3) := HE.out (by omega)
    have p1' : decide (1 ≤ nw) = false := decide_eq_false p1
    have p1'' : nw < 1 := by omega
    clear HE HF
    go_enter Tryz.func67, Tryz.ntmps67
    go_wp2_with go_in
    go_ret
    exact ⟨by rw [HQ.out]; rfl, HB.out _⟩
  by_cases p2 : nw ≤ n4
  rotate_left
  · have HQ : Hid (Q = 3) := HE.out (by omega)
    have p2' : decide (nw ≤ n4) = false := decide_eq_false p2
    have p2'' : (n4 : Int) < nw := by omega
    clear HE HF
    go_enter Tryz.func67, Tryz.ntmps67
    go_wp2_with go_in
    go_ret
    exact ⟨by rw [HQ.out]; rfl, HB.out _⟩
  by_cases p3 : 0 ≤ g
  rotate_left
  · have HQ : Hid (Q = 3) := HE.out (by omega)
    have p3' : decide (0 ≤ g) = false := decide_eq_false p3
    have p3'' : g < 0 := by omega
    clear HE HF
    go_enter Tryz.func67, Tryz.ntmps67
    go_wp2_with go_in
    go_ret
    exact ⟨by rw [HQ.out]; rfl, HB.out _⟩
  by_cases p4 : g ≤ n4
  rotate_left
  · have HQ : Hid (Q = 3) := HE.out (by omega)
    have p4' : decide (g ≤ n4) = false := decide_eq_false p4
    have p4'' : (n4 : Int) < g := by omega
    clear HE HF
    go_enter Tryz.func67, Tryz.ntmps67
    go_wp2_with go_in
    go_ret
    exact ⟨by rw [HQ.out]; rfl, HB.out _⟩
  by_cases p5 : 1 ≤ nx
  rotate_left
  · have HQ : Hid (Q = 3) := HE.out (by omega)
    have p5' : decide (1 ≤ nx) = false := decide_eq_false p5
    have p5'' : nx < 1 := by omega
    clear HE HF
    go_enter Tryz.func67, Tryz.ntmps67
    go_wp2_with go_in
    go_ret
    exact ⟨by rw [HQ.out]; rfl, HB.out _⟩
  by_cases p6 : nx ≤ 201
  rotate_left
  · have HQ : Hid (Q = 3) := HE.out (by omega)
    have p6' : decide (nx ≤ 201) = false := decide_eq_false p6
    have p6'' : 201 < nx := by omega
    clear HE HF
    go_enter Tryz.func67, Tryz.ntmps67
    go_wp2_with go_in
    go_ret
    exact ⟨by rw [HQ.out]; rfl, HB.out _⟩
  have HQ : Hid (Q = 0) := HF.out p1 p2 p3 p4 p5 p6
  clear HE HF
  go_enter Tryz.func67, Tryz.ntmps67
  go_wp2_with go_in
  go_ret
  exact ⟨by rw [HQ.out]; rfl, HB.out _⟩
set_option maxHeartbeats 8000000 in
theorem known_any (nw g nx : Int) (bk : Bool) (a4 a5 : Option Addr) (n4 c4 n5 c5 : Nat) (s t : Int) (bb : Bool) (w : World) :
    Calls Tryz.prog 96 #[.agg #[.slice a4 n4 c4, .int .i64 nw, .int .i64 g, .bool bk, .slice a5 n5 c5, .int .i64 nx], .agg #[.int .i64 s, .int .i64 t, .bool bb]] w fun e w' => e = .returned (.int .i64 (Ld.chkKnown g bk (wrap64 (nx - 1) + 1) ⟨s, t, bb⟩)) ∧ Below w.heap.size w w' := by
  have HB : Hid (∀ O O', Below w.heap.size w ((w.alloc O).alloc O')) := fun O O' => ((Below.refl _ w).alloc (Nat.le_refl _) O).alloc (by simp) O'
  have HE : Hid ((s < 0 ∨ 3 < s ∨ t < 0 ∨ wrap64 (nx - 1) < t) → Ld.chkKnown g bk (wrap64 (nx - 1) + 1) ⟨s, t, bb⟩ = 3) := fun h => by unfold Ld.chkKnown; rw [if_neg]; simp [Lk.within]; omega
  have HF : Hid (0 ≤ s → s ≤ 3 → 0 ≤ t → t ≤ wrap64 (nx - 1) → Ld.chkKnown g bk (wrap64 (nx - 1) + 1) ⟨s, t, bb⟩ = if (s ≠ 0 ∧ (g = 0 ∨ t = 0)) ∨ (bb = true ∧ (bk = false ∨ s = 0)) then 4 else 0) := fun h1 h2 h3 h4 => by unfold Ld.chkKnown; rw [if_pos]; simp [Lk.within, h1, h2, h3, h4]
  generalize Ld.chkKnown g bk (wrap64 (nx - 1) + 1) ⟨s, t, bb⟩ = Q at HE HF ⊢
  by_cases p1 : 0 ≤ s
  rotate_left
  · have HQ : Hid (Q = 3) := HE.out (by omega)
    have p1' : decide (0 ≤ s) = false := decide_eq_false p1
    have p1'' : s < 0 := by omega
    clear HE HF
    generalize hz : (s == 0) = z
    go_enter Tryz.func96, Tryz.ntmps96
    go_wp2_with go_in
    go_ret
    exact ⟨by rw [HQ.out]; rfl, HB.out _ _⟩
  by_cases p2 : s ≤ 3
  rotate_left
  · have HQ : Hid (Q = 3) := HE.out (by omega)
    have p2' : decide (s ≤ 3) = false := decide_eq_false p2
    have p2'' : 3 < s := by omega
    clear HE HF
    generalize hz : (s == 0) = z
    go_enter Tryz.func96, Tryz.ntmps96
    go_wp2_with go_in
    go_ret
    exact ⟨by rw [HQ.out]; rfl, HB.out _ _⟩
  by_cases p3 : 0 ≤ t
  rotate_left
  · have HQ : Hid (Q = 3) := HE.out (by omega)
    have p3' : decide (0 ≤ t) = false := decide_eq_false p3
    have p3'' : t < 0 := by omega
    clear HE HF
    generalize hz : (s == 0) = z
    go_enter Tryz.func96, Tryz.ntmps96
    go_wp2_with go_in
    go_ret
    exact ⟨by rw [HQ.out]; rfl, HB.out _ _⟩
  by_cases p4 : t ≤ wrap64 (nx - 1)
  rotate_left
  · have HQ : Hid (Q = 3) := HE.out (by omega)
    have p4' : decide (t ≤ wrap64 (nx - 1)) = false := decide_eq_false p4
    have p4'' : wrap64 (nx - 1) < t := by omega
    clear HE HF
    generalize hz : (s == 0) = z
    go_enter Tryz.func96, Tryz.ntmps96
    go_wp2_with go_in
    go_ret
    exact ⟨by rw [HQ.out]; rfl, HB.out _ _⟩
  have HQ := HF.out p1 p2 p3 p4
  clear HE HF
  by_cases z1 : s = 0
  · subst z1
    have h0 : Hid (Q = if bb = true then 4 else 0) := by rw [HQ]; show _ = _; simp
    clear HQ
    cases bb <;> cases bk
    all_goals
      go_enter Tryz.func96, Tryz.ntmps96
      go_wp2_with go_in
      go_ret
      exact ⟨by rw [h0.out]; rfl, HB.out _ _⟩
  · have z1' : (s == 0) = false := by simpa using z1
    by_cases z2 : g = 0
    · subst z2
      have h0 : Hid (Q = 4) := by rw [HQ]; show _ = _; simp [z1]
      clear HQ
      go_enter Tryz.func96, Tryz.ntmps96
      go_wp2_with go_in
      go_ret
      exact ⟨by rw [h0.out]; rfl, HB.out _ _⟩
    have z2' : (g == 0) = false := by simpa using z2
    by_cases z3 : t = 0
    · subst z3
      have h0 : Hid (Q = 4) := by rw [HQ]; show _ = _; simp [z1]
      clear HQ
      go_enter Tryz.func96, Tryz.ntmps96
      go_wp2_with go_in
      go_ret
      exact ⟨by rw [h0.out]; rfl, HB.out _ _⟩
    have z3' : (t == 0) = false := by simpa using z3
    have h0 : Hid (Q = if (bb && !bk) = true then 4 else 0) := by rw [HQ]; show _ = _; simp [z1, z2, z3]
    clear HQ z1 z2 z3
    cases bb <;> cases bk
    all_goals
      go_enter Tryz.func96, Tryz.ntmps96
      go_wp2_with go_in
      go_ret
      exact ⟨by rw [h0.out]; rfl, HB.out _ _⟩
end Go.Proofs.YtpenkhehceglfaaGreatDoor
/- The contracts of lead.checkForm, lead.checkAgents and lead.Check. -/
namespace Go.Proofs.YtpenkhehceglfaaGreatDoor
open Go.RowKit
def formE (f : Int) (L : List (Int × Int)) (m n : Nat) (rs : List (Int × List (Int × Int))) (nw g : Int) (bk : Bool) : Int :=
  if g = nw ∨ (g = 0 ∧ bk = true) ∨ n ≠ m ∨ Lk.alike (rs.headD (0, [])).1 (rs.headD (0, [])).2 f L = false then 4 else 0
theorem headRl {rs : List (Int × List (Int × Int))} : rs.getD 0 (0, []) = rs.headD (0, []) := by cases rs <;> rfl
set_option maxHeartbeats 8000000 in
set_option maxRecDepth 100000 in
theorem form_any (cf : Ld.Config) (A B D : Value) (ld : Ld.Leader) (Y Z : Value) (w : World) (hC : CfAt w cf A B D) (hL : LdAt w ld Y Z) (h1 : 1 ≤ ld.rels.length) :
    Calls Tryz.prog 68 #[cfV cf A B D, leV ld Y Z] w fun e w' => e = .returned (.int .i64 (formE cf.fid cf.flock (Ld.agents cf) ld.ags.length ld.rels ld.now ld.goal ld.back)) ∧ Below w.heap.size w w' := by
  obtain ⟨f, L, R, W, d⟩ := cf
  obtain ⟨a1, c1, rfl⟩ := pins_slice hC.1
  obtain ⟨a2, c2, rfl⟩ := rules_slice hC.2.1
  obtain ⟨a3, c3, rfl⟩ := waves_slice hC.2.2
  obtain ⟨rs, nw, g, bk, ks, nx⟩ := ld
  obtain ⟨a4, c4, rfl⟩ := relA_slice hL.1
  obtain ⟨a5, c5, rfl⟩ := knows_slice hL.2
  obtain ⟨b, o, v, rfl, hbw, g1, g2, hP⟩ := relA_at hL.1 (k := 0) h1
  obtain ⟨a, c, rfl⟩ := pins_slice hP
  rw [headRl] at g1 g2 hP
  rw [Nat.zero_mul, Nat.add_zero] at g1 g2
  have HE : Hid (formE f L (Ld.agents ⟨f, L, R, W, d⟩) ks.length rs nw g bk = if g = nw ∨ (g = 0 ∧ bk = true) ∨ ks.length ≠ Ld.agents ⟨f, L, R, W, d⟩ ∨ Lk.alike (rs.headD (0, [])).1 (rs.headD (0, [])).2 f L = false then 4 else 0) := rfl
  have H4 : Hid (∀ w', Below w.heap.size w w' → Calls Tryz.prog 36 #[.agg #[.int .i64 f, .slice a1 L.length c1, .slice a2 R.length c2, .slice a3 W.length c3, .int .i64 d]] w' fun e w'' => e = .returned (.int .i64 (Ld.agents ⟨f, L, R, W, d⟩)) ∧ Below w'.heap.size w' w'') := fun w' hb => ldAgents_any ⟨f, L, R, W, d⟩ _ _ _ w' (hC.below hb)
  have H5 : Hid (∀ w', Below w.heap.size w w' → Calls Tryz.prog 29 #[.agg #[.int .i64 (rs.headD (0, [])).1, .slice a (rs.headD (0, [])).2.length c], .agg #[.int .i64 f, .slice a1 L.length c1]] w' fun e w'' => e = .returned (.bool (Lk.alike (rs.headD (0, [])).1 (rs.headD (0, [])).2 f L)) ∧ Below w'.heap.size w' w'') := fun w' hb => alike_any _ f _ _ _ L w' (hP.below hb) (hC.1.below hb)
  clear hC hL hP
  unfold cfV cfC leV leC
  simp only
  simp only at h1
  generalize formE f L (Ld.agents ⟨f, L, R, W, d⟩) ks.length rs nw g bk = Q at HE ⊢
  generalize Ld.agents ⟨f, L, R, W, d⟩ = M at HE H4
  generalize Lk.alike (rs.headD (0, [])).1 (rs.headD (0, [])).2 f L = AL at HE H5
  generalize rs.headD (0, []) = p at g1 g2 H5
  obtain ⟨i, l⟩ := p
  simp only at g1 g2 H5
  generalize l.length = n at g2 H5
  have h1' : (0 : Int) < rs.length := by omega
  generalize rs.length = n4 at *
  generalize ks.length = n5 at *
  generalize L.length = n1 at *
  generalize R.length = n2 at *
  generalize W.length = n3 at *
  obtain ⟨hB0, hK0, hK1⟩ := box2 w #[.int .i64 f, .slice a1 n1 c1, .slice a2 n2 c2, .slice a3 n3 c3, .int .i64 d] #[.slice (some ⟨b, o, none⟩) n4 c4, .int .i64 nw, .int .i64 g, .bool bk, .slice a5 n5 c5, .int .i64 nx] 45 49
  have G1 := (hB0.cell (p := ⟨b, o, none⟩) hbw).trans g1
  have G2 := (hB0.cell (p := ⟨b, o + 1, none⟩) hbw).trans g2
  clear g1 g2
  by_cases p1 : g = nw
  · have HQ : Hid (Q = 4) := by rw [HE.out, if_pos (.inl p1)]; rfl
    have p1' : (g == nw) = true := by simpa using p1
    clear HE H4 H5 p1
    go_enter Tryz.func68, Tryz.ntmps68
    go_wp2_with fail
    generalize ((w.alloc (.cells #[.int .i64 f, .slice a1 n1 c1, .slice a2 n2 c2, .slice a3 n3 c3, .int .i64 d] 45)).alloc (.cells #[.slice (some ⟨b, o, none⟩) n4 c4, .int .i64 nw, .int .i64 g, .bool bk, .slice a5 n5 c5, .int .i64 nx] 49)) = V at hB0 hK0 hK1 G1 G2 ⊢
    have kc0 := cell_regrown (show _ = some _ from hK0.cell 0)
    have kc1 := cell_regrown (show _ = some _ from hK0.cell 1)
    have kc2 := cell_regrown (show _ = some _ from hK0.cell 2)
    have kc3 := cell_regrown (show _ = some _ from hK0.cell 3)
    have kc4 := cell_regrown (show _ = some _ from hK0.cell 4)
    have kl0 := cell_regrown (show _ = some _ from hK1.cell 0)
    have kl1 := cell_regrown (show _ = some _ from hK1.cell 1)
    have kl2 := cell_regrown (show _ = some _ from hK1.cell 2)
    have kl3 := cell_regrown (show _ = some _ from hK1.cell 3)
    have kl4 := cell_regrown (show _ = some _ from hK1.cell 4)
    have kl5 := cell_regrown (show _ = some _ from hK1.cell 5)
    have r0 := cell_regrown G1
    have r1 := cell_regrown G2
    have HB0 : Hid (Below w.heap.size w V) := hB0
    clear hK0 hK1 hB0 G1 G2
    refine wp_region_quiet_below (by kernel_rfl) (by kernel_rfl) ?_
    repeat (go_big_quiet_step (first | fail))
    refine wpQuiet_nil ?_
    intro _ hw'
    obtain ⟨⟨dq, osq⟩, hw''⟩ := hw'
    subst hw''
    have hbq := below_regrown V dq osq
    have HB5 : Hid (Below w.heap.size w (Sort.grow (redrawn V dq) osq)) := HB0.out.trans (hbq.mono HB0.out.size)
    clear hbq
    go_wp2
    go_ret
    exact ⟨by rw [HQ.out]; rfl, HB5.out⟩
  have p1' : (g == nw) = false := by simpa using p1
  by_cases p2 : g = 0 ∧ bk = true
  · have HQ : Hid (Q = 4) := by rw [HE.out, if_pos (.inr (.inl p2))]; rfl
    have p2' : (g == 0) = true := by simpa using p2.1
    obtain ⟨-, rfl⟩ := p2
    clear HE H4 H5 p1
    go_enter Tryz.func68, Tryz.ntmps68
    go_wp2_with fail
    generalize ((w.alloc (.cells #[.int .i64 f, .slice a1 n1 c1, .slice a2 n2 c2, .slice a3 n3 c3, .int .i64 d] 45)).alloc (.cells #[.slice (some ⟨b, o, none⟩) n4 c4, .int .i64 nw, .int .i64 g, .bool true, .slice a5 n5 c5, .int .i64 nx] 49)) = V at hB0 hK0 hK1 G1 G2 ⊢
    have kc0 := cell_regrown (show _ = some _ from hK0.cell 0)
    have kc1 := cell_regrown (show _ = some _ from hK0.cell 1)
    have kc2 := cell_regrown (show _ = some _ from hK0.cell 2)
    have kc3 := cell_regrown (show _ = some _ from hK0.cell 3)
    have kc4 := cell_regrown (show _ = some _ from hK0.cell 4)
    have kl0 := cell_regrown (show _ = some _ from hK1.cell 0)
    have kl1 := cell_regrown (show _ = some _ from hK1.cell 1)
    have kl2 := cell_regrown (show _ = some _ from hK1.cell 2)
    have kl3 := cell_regrown (show _ = some _ from hK1.cell 3)
    have kl4 := cell_regrown (show _ = some _ from hK1.cell 4)
    have kl5 := cell_regrown (show _ = some _ from hK1.cell 5)
    have r0 := cell_regrown G1
    have r1 := cell_regrown G2
    have HB0 : Hid (Below w.heap.size w V) := hB0
    clear hK0 hK1 hB0 G1 G2
    refine wp_region_quiet_below (by kernel_rfl) (by kernel_rfl) ?_
    repeat (go_big_quiet_step (first | fail))
    refine wpQuiet_nil ?_
    intro _ hw'
    obtain ⟨⟨dq, osq⟩, hw''⟩ := hw'
    subst hw''
    have hbq := below_regrown V dq osq
    have HB5 : Hid (Below w.heap.size w (Sort.grow (redrawn V dq) osq)) := HB0.out.trans (hbq.mono HB0.out.size)
    clear hbq
    go_wp2
    go_ret
    exact ⟨by rw [HQ.out]; rfl, HB5.out⟩
  by_cases p3 : n5 = M
  rotate_left
  · have HQ : Hid (Q = 4) := by rw [HE.out, if_pos (.inr (.inr (.inl p3)))]; rfl
    have p3' : ((n5 : Int) != M) = true := by rw [bne_iff_ne]; omega
    have p4 : (g == 0) = false ∨ ((g == 0) = true ∧ bk = false) := by
      by_cases e : g = 0
      · refine .inr ⟨by simpa using e, ?_⟩
        cases hb : bk with
        | false => rfl
        | true => exact absurd ⟨e, hb⟩ p2
      · exact .inl (by simpa using e)
    clear HE H5 p1 p2 p3
    rcases p4 with p4 | ⟨p4, rfl⟩
    · skip
      go_enter Tryz.func68, Tryz.ntmps68
      go_wp2_with fail
      generalize ((w.alloc (.cells #[.int .i64 f, .slice a1 n1 c1, .slice a2 n2 c2, .slice a3 n3 c3, .int .i64 d] 45)).alloc (.cells #[.slice (some ⟨b, o, none⟩) n4 c4, .int .i64 nw, .int .i64 g, .bool bk, .slice a5 n5 c5, .int .i64 nx] 49)) = V at hB0 hK0 hK1 G1 G2 ⊢
      have kc0 := cell_regrown (show _ = some _ from hK0.cell 0)
      have kc1 := cell_regrown (show _ = some _ from hK0.cell 1)
      have kc2 := cell_regrown (show _ = some _ from hK0.cell 2)
      have kc3 := cell_regrown (show _ = some _ from hK0.cell 3)
      have kc4 := cell_regrown (show _ = some _ from hK0.cell 4)
      have kl0 := cell_regrown (show _ = some _ from hK1.cell 0)
      have kl1 := cell_regrown (show _ = some _ from hK1.cell 1)
      have kl2 := cell_regrown (show _ = some _ from hK1.cell 2)
      have kl3 := cell_regrown (show _ = some _ from hK1.cell 3)
      have kl4 := cell_regrown (show _ = some _ from hK1.cell 4)
      have kl5 := cell_regrown (show _ = some _ from hK1.cell 5)
      have r0 := cell_regrown G1
      have r1 := cell_regrown G2
      have c4 := fun (d' : Nat) (os : Array Obj) => Calls.regrown_of (H4.out (Sort.grow (redrawn V d') os) (hB0.trans ((below_regrown V d' os).mono hB0.size)))
      have HB0 : Hid (Below w.heap.size w V) := hB0
      clear hK0 hK1 hB0 G1 G2
      refine wp_region_quiet_below (by kernel_rfl) (by kernel_rfl) ?_
      repeat (go_big_quiet_step (first | exact c4 _ _))
      refine wpQuiet_nil ?_
      intro _ hw'
      obtain ⟨⟨dq, osq⟩, hw''⟩ := hw'
      subst hw''
      have hbq := below_regrown V dq osq
      have HB5 : Hid (Below w.heap.size w (Sort.grow (redrawn V dq) osq)) := HB0.out.trans (hbq.mono HB0.out.size)
      clear hbq
      go_wp2
      go_ret
      exact ⟨by rw [HQ.out]; rfl, HB5.out⟩
    · skip
      go_enter Tryz.func68, Tryz.ntmps68
      go_wp2_with fail
      generalize ((w.alloc (.cells #[.int .i64 f, .slice a1 n1 c1, .slice a2 n2 c2, .slice a3 n3 c3, .int .i64 d] 45)).alloc (.cells #[.slice (some ⟨b, o, none⟩) n4 c4, .int .i64 nw, .int .i64 g, .bool false, .slice a5 n5 c5, .int .i64 nx] 49)) = V at hB0 hK0 hK1 G1 G2 ⊢
      have kc0 := cell_regrown (show _ = some _ from hK0.cell 0)
      have kc1 := cell_regrown (show _ = some _ from hK0.cell 1)
      have kc2 := cell_regrown (show _ = some _ from hK0.cell 2)
      have kc3 := cell_regrown (show _ = some _ from hK0.cell 3)
      have kc4 := cell_regrown (show _ = some _ from hK0.cell 4)
      have kl0 := cell_regrown (show _ = some _ from hK1.cell 0)
      have kl1 := cell_regrown (show _ = some _ from hK1.cell 1)
      have kl2 := cell_regrown (show _ = some _ from hK1.cell 2)
      have kl3 := cell_regrown (show _ = some _ from hK1.cell 3)
      have kl4 := cell_regrown (show _ = some _ from hK1.cell 4)
      have kl5 := cell_regrown (show _ = some _ from hK1.cell 5)
      have r0 := cell_regrown G1
      have r1 := cell_regrown G2
      have c4 := fun (d' : Nat) (os : Array Obj) => Calls.regrown_of (H4.out (Sort.grow (redrawn V d') os) (hB0.trans ((below_regrown V d' os).mono hB0.size)))
      have HB0 : Hid (Below w.heap.size w V) := hB0
      clear hK0 hK1 hB0 G1 G2
      refine wp_region_quiet_below (by kernel_rfl) (by kernel_rfl) ?_
      repeat (go_big_quiet_step (first | exact c4 _ _))
      refine wpQuiet_nil ?_
      intro _ hw'
      obtain ⟨⟨dq, osq⟩, hw''⟩ := hw'
      subst hw''
      have hbq := below_regrown V dq osq
      have HB5 : Hid (Below w.heap.size w (Sort.grow (redrawn V dq) osq)) := HB0.out.trans (hbq.mono HB0.out.size)
      clear hbq
      go_wp2
      go_ret
      exact ⟨by rw [HQ.out]; rfl, HB5.out⟩
  subst p3
  have p4 : (g == 0) = false ∨ ((g == 0) = true ∧ bk = false) := by
    by_cases e : g = 0
    · refine .inr ⟨by simpa using e, ?_⟩
      cases hb : bk with
      | false => rfl
      | true => exact absurd ⟨e, hb⟩ p2
    · exact .inl (by simpa using e)
  have HQ : Hid (Q = if AL = false then 4 else 0) := by
    have := HE.out
    rw [this]
    show _ = _
    congr 1
    rw [eq_iff_iff]
    constructor
    · rintro (e | e | e | e)
      · exact absurd e p1
      · exact absurd e p2
      · exact absurd rfl e
      · exact e
    · exact fun e => .inr (.inr (.inr e))
  clear HE p1 p2
  rcases p4 with p4 | ⟨p4, rfl⟩
  · cases AL
    all_goals
      go_enter Tryz.func68, Tryz.ntmps68
      go_wp2_with fail
      generalize ((w.alloc (.cells #[.int .i64 f, .slice a1 n1 c1, .slice a2 n2 c2, .slice a3 n3 c3, .int .i64 d] 45)).alloc (.cells #[.slice (some ⟨b, o, none⟩) n4 c4, .int .i64 nw, .int .i64 g, .bool bk, .slice a5 n5 c5, .int .i64 nx] 49)) = V at hB0 hK0 hK1 G1 G2 ⊢
      have kc0 := cell_regrown (show _ = some _ from hK0.cell 0)
      have kc1 := cell_regrown (show _ = some _ from hK0.cell 1)
      have kc2 := cell_regrown (show _ = some _ from hK0.cell 2)
      have kc3 := cell_regrown (show _ = some _ from hK0.cell 3)
      have kc4 := cell_regrown (show _ = some _ from hK0.cell 4)
      have kl0 := cell_regrown (show _ = some _ from hK1.cell 0)
      have kl1 := cell_regrown (show _ = some _ from hK1.cell 1)
      have kl2 := cell_regrown (show _ = some _ from hK1.cell 2)
      have kl3 := cell_regrown (show _ = some _ from hK1.cell 3)
      have kl4 := cell_regrown (show _ = some _ from hK1.cell 4)
      have kl5 := cell_regrown (show _ = some _ from hK1.cell 5)
      have r0 := cell_regrown G1
      have r1 := cell_regrown G2
      have c4 := fun (d' : Nat) (os : Array Obj) => Calls.regrown_of (H4.out (Sort.grow (redrawn V d') os) (hB0.trans ((below_regrown V d' os).mono hB0.size)))
      have c5 := fun (d' : Nat) (os : Array Obj) => Calls.regrown_of (H5.out (Sort.grow (redrawn V d') os) (hB0.trans ((below_regrown V d' os).mono hB0.size)))
      have HB0 : Hid (Below w.heap.size w V) := hB0
      clear hK0 hK1 hB0 G1 G2
      refine wp_region_quiet_below (by kernel_rfl) (by kernel_rfl) ?_
      repeat (go_big_quiet_step (first | exact c4 _ _ | exact c5 _ _))
      refine wpQuiet_nil ?_
      intro _ hw'
      obtain ⟨⟨dq, osq⟩, hw''⟩ := hw'
      subst hw''
      have hbq := below_regrown V dq osq
      have HB5 : Hid (Below w.heap.size w (Sort.grow (redrawn V dq) osq)) := HB0.out.trans (hbq.mono HB0.out.size)
      clear hbq
      go_wp2
      go_ret
      exact ⟨by rw [HQ.out]; rfl, HB5.out⟩
  · cases AL
    all_goals
      go_enter Tryz.func68, Tryz.ntmps68
      go_wp2_with fail
      generalize ((w.alloc (.cells #[.int .i64 f, .slice a1 n1 c1, .slice a2 n2 c2, .slice a3 n3 c3, .int .i64 d] 45)).alloc (.cells #[.slice (some ⟨b, o, none⟩) n4 c4, .int .i64 nw, .int .i64 g, .bool false, .slice a5 n5 c5, .int .i64 nx] 49)) = V at hB0 hK0 hK1 G1 G2 ⊢
      have kc0 := cell_regrown (show _ = some _ from hK0.cell 0)
      have kc1 := cell_regrown (show _ = some _ from hK0.cell 1)
      have kc2 := cell_regrown (show _ = some _ from hK0.cell 2)
      have kc3 := cell_regrown (show _ = some _ from hK0.cell 3)
      have kc4 := cell_regrown (show _ = some _ from hK0.cell 4)
      have kl0 := cell_regrown (show _ = some _ from hK1.cell 0)
      have kl1 := cell_regrown (show _ = some _ from hK1.cell 1)
      have kl2 := cell_regrown (show _ = some _ from hK1.cell 2)
      have kl3 := cell_regrown (show _ = some _ from hK1.cell 3)
      have kl4 := cell_regrown (show _ = some _ from hK1.cell 4)
      have kl5 := cell_regrown (show _ = some _ from hK1.cell 5)
      have r0 := cell_regrown G1
      have r1 := cell_regrown G2
      have c4 := fun (d' : Nat) (os : Array Obj) => Calls.regrown_of (H4.out (Sort.grow (redrawn V d') os) (hB0.trans ((below_regrown V d' os).mono hB0.size)))
      have c5 := fun (d' : Nat) (os : Array Obj) => Calls.regrown_of (H5.out (Sort.grow (redrawn V d') os) (hB0.trans ((below_regrown V d' os).mono hB0.size)))
      have HB0 : Hid (Below w.heap.size w V) := hB0
      clear hK0 hK1 hB0 G1 G2
      refine wp_region_quiet_below (by kernel_rfl) (by kernel_rfl) ?_
      repeat (go_big_quiet_step (first | exact c4 _ _ | exact c5 _ _))
      refine wpQuiet_nil ?_
      intro _ hw'
      obtain ⟨⟨dq, osq⟩, hw''⟩ := hw'
      subst hw''
      have hbq := below_regrown V dq osq
      have HB5 : Hid (Below w.heap.size w (Sort.grow (redrawn V dq) osq)) := HB0.out.trans (hbq.mono HB0.out.size)
      clear hbq
      go_wp2
      go_ret
      exact ⟨by rw [HQ.out]; rfl, HB5.out⟩
theorem dropKn (l : List Ld.Known) (k : Nat) (h : k < l.length) : l.drop k = l.getD k ⟨0, 0, false⟩ :: l.drop (k + 1) := dropL l ⟨0, 0, false⟩ k h
set_option maxHeartbeats 8000000 in
theorem checkAgs_any (nw g nx : Int) (bk : Bool) (a4 : Option Addr) (n4 c4 : Nat) (ks : List Ld.Known) (Z : Value) (w : World) (hL : KnowsAt w Z ks) :
    Calls Tryz.prog 69 #[.agg #[.slice a4 n4 c4, .int .i64 nw, .int .i64 g, .bool bk, Z, .int .i64 nx]] w fun e w' => e = .returned (.int .i64 (Ld.chkKnowns g bk (wrap64 (nx - 1) + 1) ks)) ∧ Below w.heap.size w w' := by
  obtain ⟨a5, c5, rfl⟩ := knows_slice hL
  have HL : Hid (KnowsAt w (.slice a5 ks.length c5) ks) := hL
  have hlen := hL.1
  clear hL
  obtain ⟨hB0, hK0⟩ := box1 w #[.slice a4 n4 c4, .int .i64 nw, .int .i64 g, .bool bk, .slice a5 ks.length c5, .int .i64 nx] 49
  have k4 := hK0.cell 4
  simp only [List.getElem?_toArray, List.getElem?_cons_zero, List.getElem?_cons_succ] at k4
  have HB0 : Hid (Below w.heap.size w _) := hB0
  have HK0 : Hid (Blk _ w.heap.size _ _) := hK0
  clear hB0 hK0
  go_enter Tryz.func69, Tryz.ntmps69
  go_wp2
  go_loopg [9] ks.length (fun g' s9 wr => ∃ k : Nat, k ≤ ks.length ∧ ks.length - k ≤ g' ∧ s9 = .int .i64 k ∧ Hid (Ld.chkKnowns g bk (wrap64 (nx - 1) + 1) (ks.drop k) = Ld.chkKnowns g bk (wrap64 (nx - 1) + 1) ks) ∧ Hid (Blk wr w.heap.size #[.slice a4 n4 c4, .int .i64 nw, .int .i64 g, .bool bk, .slice a5 ks.length c5, .int .i64 nx] 49) ∧ Hid (Below w.heap.size w wr))
  case atStart => exact ⟨0, Nat.zero_le _, by omega, rfl, rfl, HK0, HB0⟩
  case round =>
    obtain ⟨k, hk, hg, rfl, H, HK, HB⟩ := hrel
    clear k4 HB0 HK0
    by_cases hlt : k < ks.length
    · obtain ⟨b, o, rfl, hbw, g1, g2, g3⟩ := knows_at (HL.out.below HB.out) hlt
      have H' := H.out
      rw [dropKn ks k hlt, Ld.chkKnowns] at H'
      have HX : Hid ((if Ld.chkKnown g bk (wrap64 (nx - 1) + 1) (ks.getD k ⟨0, 0, false⟩) = 0 then Ld.chkKnowns g bk (wrap64 (nx - 1) + 1) (ks.drop (k + 1)) else Ld.chkKnown g bk (wrap64 (nx - 1) + 1) (ks.getD k ⟨0, 0, false⟩)) = Ld.chkKnowns g bk (wrap64 (nx - 1) + 1) ks) := H'
      clear H' H
      generalize ks.getD k ⟨0, 0, false⟩ = p at g1 g2 g3 HX
      obtain ⟨s, t, bb⟩ := p
      simp only at g1 g2 g3
      have HKP : Hid (∀ w', Calls Tryz.prog 96 #[.agg #[.slice a4 n4 c4, .int .i64 nw, .int .i64 g, .bool bk, .slice (some ⟨b, o, none⟩) ks.length c5, .int .i64 nx], .agg #[.int .i64 s, .int .i64 t, .bool bb]] w' fun e w'' => e = .returned (.int .i64 (Ld.chkKnown g bk (wrap64 (nx - 1) + 1) ⟨s, t, bb⟩)) ∧ Below w'.heap.size w' w'') := fun w' => known_any nw g nx bk _ _ _ _ _ _ s t bb w'
      generalize Ld.chkKnown g bk (wrap64 (nx - 1) + 1) ⟨s, t, bb⟩ = E at HKP HX
      have kr0 := HK.out.cell 0
      have kr1 := HK.out.cell 1
      have kr2 := HK.out.cell 2
      have kr3 := HK.out.cell 3
      have kr4 := HK.out.cell 4
      have kr5 := HK.out.cell 5
      simp only [List.getElem?_toArray, List.getElem?_cons_zero, List.getElem?_cons_succ] at kr0 kr1 kr2 kr3 kr4 kr5
      have hlb := HK.out.lt
      have hx := box1 wr #[.int .i64 s, .int .i64 t, .bool bb] 98
      have HX0 : Hid (Below wr.heap.size wr (wr.alloc (.cells #[.int .i64 s, .int .i64 t, .bool bb] 98))) := hx.1
      clear hx
      go_wp2_with fail
      refine (HKP.out _).mono ?_
      rintro e w1 ⟨rfl, hb1⟩
      have HB1 : Hid (Below w.heap.size w w1) := (HB.out.trans (HX0.out.mono HB.out.size)).trans (hb1.mono (Nat.le_trans HB.out.size HX0.out.size))
      have HK1 : Hid (Blk w1 w.heap.size #[.slice a4 n4 c4, .int .i64 nw, .int .i64 g, .bool bk, .slice (some ⟨b, o, none⟩) ks.length c5, .int .i64 nx] 49) := (HK.out.below HX0.out).below hb1
      clear hb1 HX0 HB HK HKP kr0 kr1 kr2 kr3 kr4 kr5
      by_cases e0 : E = 0
      · subst e0
        have HN : Hid (Ld.chkKnowns g bk (wrap64 (nx - 1) + 1) (ks.drop (k + 1)) = Ld.chkKnowns g bk (wrap64 (nx - 1) + 1) ks) := by
          have := HX.out
          rw [if_pos rfl] at this
          exact this
        clear HX
        go_wp2
        go_roundg (ks.length - (k + 1))
        case measure => omega
        case rel => exact ⟨k + 1, by omega, by omega, by go_num, HN, HK1, HB1⟩
      · have HN : Hid (Ld.chkKnowns g bk (wrap64 (nx - 1) + 1) ks = E) := by
          have := HX.out
          rw [if_neg e0] at this
          exact this.symm
        have e0' : (E != 0) = true := by rw [bne_iff_ne]; exact e0
        clear HX e0
        go_wp2
        go_ret
        exact ⟨by rw [HN.out]; rfl, HB1.out⟩
    · have hk' : k = ks.length := by omega
      have HN : Hid (Ld.chkKnowns g bk (wrap64 (nx - 1) + 1) ks = 0) := by
        have := H.out
        rw [hk', List.drop_length, Ld.chkKnowns] at this
        exact this.symm
      subst hk'
      clear hk hlt H HK
      go_wp2
      go_ret
      exact ⟨by rw [HN.out]; rfl, HB.out⟩
theorem orr_ld1 (cf : Ld.Config) (l : Ld.Leader) (h : ¬ orr [Ld.chkConfig cf, relE cf.rules l.rels] = 0) : orr [Ld.chkConfig cf, relE cf.rules l.rels] = Ld.chkLeader cf l := by
  rw [orr2] at h ⊢
  unfold Ld.chkLeader relE at *
  by_cases h1 : Ld.chkConfig cf = 0
  · rw [if_pos h1] at h ⊢
    rw [if_pos h1]
    by_cases h2 : 1 ≤ l.rels.length ∧ l.rels.length ≤ 6
    · rw [if_pos h2] at h ⊢
      rw [if_pos h2, if_neg h]
    · rw [if_neg h2, if_neg h2]
  · rw [if_neg h1, if_neg h1]
theorem orr_ld2 (cf : Ld.Config) (l : Ld.Leader) (h : orr [Ld.chkConfig cf, relE cf.rules l.rels] = 0) : 1 ≤ l.rels.length ∧ orr [numL l.rels.length l.now l.goal l.next, formE cf.fid cf.flock (Ld.agents cf) l.ags.length l.rels l.now l.goal l.back, Ld.chkKnowns l.goal l.back (wrap64 (l.next - 1) + 1) l.ags] = Ld.chkLeader cf l := by
  rw [orr2] at h
  by_cases h1 : Ld.chkConfig cf = 0
  rotate_left
  · rw [if_neg h1] at h; exact absurd h h1
  rw [if_pos h1] at h
  unfold relE at h
  by_cases h2 : 1 ≤ l.rels.length ∧ l.rels.length ≤ 6
  rotate_left
  · rw [if_neg h2] at h; exact absurd h (by decide)
  rw [if_pos h2] at h
  refine ⟨h2.1, ?_⟩
  unfold Ld.chkLeader numL formE
  rw [if_pos h1, if_pos h2, if_pos h, (Ld.agents_ok h1).1]
  simp only [orr]
  by_cases h3 : (Lk.within l.now 1 l.rels.length && Lk.within l.goal 0 l.rels.length && Lk.within l.next 1 201) = true
  · rw [if_pos h3, if_pos rfl, if_pos h3]
    by_cases h4 : l.goal = l.now ∨ (l.goal = 0 ∧ l.back = true) ∨ l.ags.length ≠ Ld.many cf ∨ Lk.alike (l.rels.headD (0, [])).1 (l.rels.headD (0, [])).2 cf.fid cf.flock = false
    · rw [if_pos h4, if_neg (by decide), if_pos h4]
    · rw [if_neg h4, if_pos rfl, if_neg h4]
      have hn : 1 ≤ l.next ∧ l.next ≤ 201 := by simp [Lk.within] at h3; omega
      have hw : wrap64 (l.next - 1) + 1 = l.next := by
        have : wrap64 (l.next - 1) = l.next - 1 := by unfold wrap64; omega
        omega
      rw [hw]
      by_cases h5 : Ld.chkKnowns l.goal l.back l.next l.ags = 0
      · rw [if_pos h5, h5]
      · rw [if_neg h5]
  · rw [if_neg h3, if_neg (by decide), if_neg h3]
set_option maxHeartbeats 8000000 in
set_option maxRecDepth 100000 in
theorem ldCheck_any (cf : Ld.Config) (A B D : Value) (ld : Ld.Leader) (Y Z : Value) (w : World) (hC : CfAt w cf A B D) (hL : LdAt w ld Y Z) :
    Calls Tryz.prog 37 #[cfV cf A B D, leV ld Y Z] w fun e w' => e = .returned (.int .i64 (Ld.chkLeader cf ld)) ∧ Below w.heap.size w w' := by
  have E1 := orr_ld1 cf ld
  have E2 := orr_ld2 cf ld
  obtain ⟨f, L, R, W, d⟩ := cf
  obtain ⟨a1, c1, rfl⟩ := pins_slice hC.1
  obtain ⟨a2, c2, rfl⟩ := rules_slice hC.2.1
  obtain ⟨a3, c3, rfl⟩ := waves_slice hC.2.2
  obtain ⟨rs, nw, g, bk, ks, nx⟩ := ld
  obtain ⟨a4, c4, rfl⟩ := relA_slice hL.1
  obtain ⟨a5, c5, rfl⟩ := knows_slice hL.2
  have H1 : Hid (∀ w', Below w.heap.size w w' → Calls Tryz.prog 62 #[.agg #[.int .i64 f, .slice a1 L.length c1, .slice a2 R.length c2, .slice a3 W.length c3, .int .i64 d]] w' fun e w'' => e = .returned (.int .i64 (Ld.chkConfig ⟨f, L, R, W, d⟩)) ∧ Below w'.heap.size w' w'') := fun w' hb => config_any ⟨f, L, R, W, d⟩ _ _ _ w' (hC.below hb)
  have H2 : Hid (∀ w', Below w.heap.size w w' → Calls Tryz.prog 66 #[.agg #[.int .i64 f, .slice a1 L.length c1, .slice a2 R.length c2, .slice a3 W.length c3, .int .i64 d], .agg #[.slice a4 rs.length c4, .int .i64 nw, .int .i64 g, .bool bk, .slice a5 ks.length c5, .int .i64 nx]] w' fun e w'' => e = .returned (.int .i64 (relE R rs)) ∧ Below w'.heap.size w' w'') := fun w' hb => checkRels_any f d nw g nx bk a1 a3 a5 _ _ _ _ _ _ R rs _ _ w' (hC.2.1.below hb) (hL.1.below hb)
  have H3 : Hid (∀ w', Calls Tryz.prog 67 #[.agg #[.slice a4 rs.length c4, .int .i64 nw, .int .i64 g, .bool bk, .slice a5 ks.length c5, .int .i64 nx]] w' fun e w'' => e = .returned (.int .i64 (numL rs.length nw g nx)) ∧ Below w'.heap.size w' w'') := fun w' => numbersL_any nw g nx bk a4 a5 _ _ _ _ w'
  have H4 : Hid (1 ≤ rs.length → ∀ w', Below w.heap.size w w' → Calls Tryz.prog 68 #[.agg #[.int .i64 f, .slice a1 L.length c1, .slice a2 R.length c2, .slice a3 W.length c3, .int .i64 d], .agg #[.slice a4 rs.length c4, .int .i64 nw, .int .i64 g, .bool bk, .slice a5 ks.length c5, .int .i64 nx]] w' fun e w'' => e = .returned (.int .i64 (formE f L (Ld.agents ⟨f, L, R, W, d⟩) ks.length rs nw g bk)) ∧ Below w'.heap.size w' w'') := fun h w' hb => form_any ⟨f, L, R, W, d⟩ _ _ _ ⟨rs, nw, g, bk, ks, nx⟩ _ _ w' (hC.below hb) (hL.below hb) h
  have H5 : Hid (∀ w', Below w.heap.size w w' → Calls Tryz.prog 69 #[.agg #[.slice a4 rs.length c4, .int .i64 nw, .int .i64 g, .bool bk, .slice a5 ks.length c5, .int .i64 nx]] w' fun e w'' => e = .returned (.int .i64 (Ld.chkKnowns g bk (wrap64 (nx - 1) + 1) ks)) ∧ Below w'.heap.size w' w'') := fun w' hb => checkAgs_any nw g nx bk a4 _ _ ks _ w' (hL.2.below hb)
  simp only at E1 E2
  have F1 : Hid (¬ orr [Ld.chkConfig ⟨f, L, R, W, d⟩, relE R rs] = 0 → orr [Ld.chkConfig ⟨f, L, R, W, d⟩, relE R rs] = Ld.chkLeader ⟨f, L, R, W, d⟩ ⟨rs, nw, g, bk, ks, nx⟩) := E1
  have F2 : Hid (orr [Ld.chkConfig ⟨f, L, R, W, d⟩, relE R rs] = 0 → 1 ≤ rs.length ∧ orr [numL rs.length nw g nx, formE f L (Ld.agents ⟨f, L, R, W, d⟩) ks.length rs nw g bk, Ld.chkKnowns g bk (wrap64 (nx - 1) + 1) ks] = Ld.chkLeader ⟨f, L, R, W, d⟩ ⟨rs, nw, g, bk, ks, nx⟩) := E2
  clear E1 E2 hC hL
  unfold cfV cfC leV leC
  simp only
  generalize Ld.chkLeader ⟨f, L, R, W, d⟩ ⟨rs, nw, g, bk, ks, nx⟩ = Q at F1 F2 ⊢
  generalize Ld.chkKnowns g bk (wrap64 (nx - 1) + 1) ks = X5 at F2 H5
  generalize formE f L (Ld.agents ⟨f, L, R, W, d⟩) ks.length rs nw g bk = X4 at F2 H4
  generalize numL rs.length nw g nx = X3 at F2 H3
  generalize relE R rs = X2 at F1 F2 H2
  generalize Ld.chkConfig ⟨f, L, R, W, d⟩ = X1 at F1 F2 H1
  generalize rs.length = n4 at *
  generalize ks.length = n5 at *
  generalize L.length = n1 at *
  generalize R.length = n2 at *
  generalize W.length = n3 at *
  obtain ⟨hB0, hK0, hK1⟩ := box2 w #[.int .i64 f, .slice a1 n1 c1, .slice a2 n2 c2, .slice a3 n3 c3, .int .i64 d] #[.slice a4 n4 c4, .int .i64 nw, .int .i64 g, .bool bk, .slice a5 n5 c5, .int .i64 nx] 45 49
  go_enter Tryz.func37, Tryz.ntmps37
  go_wp2_with fail
  generalize ((w.alloc (.cells #[.int .i64 f, .slice a1 n1 c1, .slice a2 n2 c2, .slice a3 n3 c3, .int .i64 d] 45)).alloc (.cells #[.slice a4 n4 c4, .int .i64 nw, .int .i64 g, .bool bk, .slice a5 n5 c5, .int .i64 nx] 49)) = V at hB0 hK0 hK1 ⊢
  generalize hgb : w.heap.size = gb at hK0 hK1 ⊢
  have HB0 : Hid (Below w.heap.size w V) := hB0
  have S0 : Hid (V.drew.cell? ⟨gb, 0, none⟩ = some (.int .i64 f) ∧ V.drew.cell? ⟨gb, 1, none⟩ = some (.slice a1 n1 c1) ∧ V.drew.cell? ⟨gb, 2, none⟩ = some (.slice a2 n2 c2) ∧ V.drew.cell? ⟨gb, 3, none⟩ = some (.slice a3 n3 c3) ∧ V.drew.cell? ⟨gb, 4, none⟩ = some (.int .i64 d) ∧ V.drew.cell? ⟨gb + 1, 0, none⟩ = some (.slice a4 n4 c4) ∧ V.drew.cell? ⟨gb + 1, 1, none⟩ = some (.int .i64 nw) ∧ V.drew.cell? ⟨gb + 1, 2, none⟩ = some (.int .i64 g) ∧ V.drew.cell? ⟨gb + 1, 3, none⟩ = some (.bool bk) ∧ V.drew.cell? ⟨gb + 1, 4, none⟩ = some (.slice a5 n5 c5) ∧ V.drew.cell? ⟨gb + 1, 5, none⟩ = some (.int .i64 nx) ∧ Hid (Below V.heap.size V V.drew)) := ⟨hK0.cell 0, hK0.cell 1, hK0.cell 2, hK0.cell 3, hK0.cell 4, hK1.cell 0, hK1.cell 1, hK1.cell 2, hK1.cell 3, hK1.cell 4, hK1.cell 5, (Below.refl _ V).drew⟩
  have KP : Hid (∀ x y : World, Below x.heap.size x y → (x.cell? ⟨gb, 0, none⟩ = some (.int .i64 f) ∧ x.cell? ⟨gb, 1, none⟩ = some (.slice a1 n1 c1) ∧ x.cell? ⟨gb, 2, none⟩ = some (.slice a2 n2 c2) ∧ x.cell? ⟨gb, 3, none⟩ = some (.slice a3 n3 c3) ∧ x.cell? ⟨gb, 4, none⟩ = some (.int .i64 d) ∧ x.cell? ⟨gb + 1, 0, none⟩ = some (.slice a4 n4 c4) ∧ x.cell? ⟨gb + 1, 1, none⟩ = some (.int .i64 nw) ∧ x.cell? ⟨gb + 1, 2, none⟩ = some (.int .i64 g) ∧ x.cell? ⟨gb + 1, 3, none⟩ = some (.bool bk) ∧ x.cell? ⟨gb + 1, 4, none⟩ = some (.slice a5 n5 c5) ∧ x.cell? ⟨gb + 1, 5, none⟩ = some (.int .i64 nx) ∧ Hid (Below V.heap.size V x)) → (y.cell? ⟨gb, 0, none⟩ = some (.int .i64 f) ∧ y.cell? ⟨gb, 1, none⟩ = some (.slice a1 n1 c1) ∧ y.cell? ⟨gb, 2, none⟩ = some (.slice a2 n2 c2) ∧ y.cell? ⟨gb, 3, none⟩ = some (.slice a3 n3 c3) ∧ y.cell? ⟨gb, 4, none⟩ = some (.int .i64 d) ∧ y.cell? ⟨gb + 1, 0, none⟩ = some (.slice a4 n4 c4) ∧ y.cell? ⟨gb + 1, 1, none⟩ = some (.int .i64 nw) ∧ y.cell? ⟨gb + 1, 2, none⟩ = some (.int .i64 g) ∧ y.cell? ⟨gb + 1, 3, none⟩ = some (.bool bk) ∧ y.cell? ⟨gb + 1, 4, none⟩ = some (.slice a5 n5 c5) ∧ y.cell? ⟨gb + 1, 5, none⟩ = some (.int .i64 nx) ∧ Hid (Below V.heap.size V y))) := fun x y hb h => by
    obtain ⟨h1, h2, h3, h4, h5, h6, h7, h8, h9, h10, h11, hB⟩ := h
    have e : ∀ b o v, x.cell? ⟨b, o, none⟩ = some v → y.cell? ⟨b, o, none⟩ = some v := fun b o v hc => (hb.cell (p := ⟨b, o, none⟩) (World.block_lt_of_cell? x _ hc)).trans hc
    exact ⟨e _ _ _ h1, e _ _ _ h2, e _ _ _ h3, e _ _ _ h4, e _ _ _ h5, e _ _ _ h6, e _ _ _ h7, e _ _ _ h8, e _ _ _ h9, e _ _ _ h10, e _ _ _ h11, hB.out.trans (hb.mono hB.out.size)⟩
  have KA : Hid (∀ (x : World) O, Below x.heap.size x (x.alloc O)) := fun x O => (Below.refl _ x).alloc (Nat.le_refl _) O
  have SP : Hid (∀ x : World, (x.cell? ⟨gb, 0, none⟩ = some (.int .i64 f) ∧ x.cell? ⟨gb, 1, none⟩ = some (.slice a1 n1 c1) ∧ x.cell? ⟨gb, 2, none⟩ = some (.slice a2 n2 c2) ∧ x.cell? ⟨gb, 3, none⟩ = some (.slice a3 n3 c3) ∧ x.cell? ⟨gb, 4, none⟩ = some (.int .i64 d) ∧ x.cell? ⟨gb + 1, 0, none⟩ = some (.slice a4 n4 c4) ∧ x.cell? ⟨gb + 1, 1, none⟩ = some (.int .i64 nw) ∧ x.cell? ⟨gb + 1, 2, none⟩ = some (.int .i64 g) ∧ x.cell? ⟨gb + 1, 3, none⟩ = some (.bool bk) ∧ x.cell? ⟨gb + 1, 4, none⟩ = some (.slice a5 n5 c5) ∧ x.cell? ⟨gb + 1, 5, none⟩ = some (.int .i64 nx) ∧ Hid (Below V.heap.size V x)) → Below w.heap.size w x) := fun x h => HB0.out.trans (h.2.2.2.2.2.2.2.2.2.2.2.out.mono HB0.out.size)
  have HK0 : Hid (Blk V gb _ _) := hK0
  have HK1 : Hid (Blk V (gb + 1) _ _) := hK1
  clear hK0 hK1 hB0
  go_region_held3 (fun w' => w'.cell? ⟨gb, 0, none⟩ = some (.int .i64 f) ∧ w'.cell? ⟨gb, 1, none⟩ = some (.slice a1 n1 c1) ∧ w'.cell? ⟨gb, 2, none⟩ = some (.slice a2 n2 c2) ∧ w'.cell? ⟨gb, 3, none⟩ = some (.slice a3 n3 c3) ∧ w'.cell? ⟨gb, 4, none⟩ = some (.int .i64 d) ∧ w'.cell? ⟨gb + 1, 0, none⟩ = some (.slice a4 n4 c4) ∧ w'.cell? ⟨gb + 1, 1, none⟩ = some (.int .i64 nw) ∧ w'.cell? ⟨gb + 1, 2, none⟩ = some (.int .i64 g) ∧ w'.cell? ⟨gb + 1, 3, none⟩ = some (.bool bk) ∧ w'.cell? ⟨gb + 1, 4, none⟩ = some (.slice a5 n5 c5) ∧ w'.cell? ⟨gb + 1, 5, none⟩ = some (.int .i64 nx) ∧ Hid (Below V.heap.size V w')) (first | exact KP.out _ _ (by assumption) (by assumption) | exact S0.out | exact KP.out _ _ (KA.out _ _) (by assumption))
    (first
      | (go_at_call 62; refine (H1.out _ (SP.out _ (by assumption))).mono ?_; rintro e y ⟨rfl, hby⟩)
      | (go_at_call 66; refine (H2.out _ (SP.out _ (by assumption))).mono ?_; rintro e y ⟨rfl, hby⟩)
      | (go_at_call 20; refine (orE2 _ _ _).mono ?_; rintro e y ⟨rfl, hby⟩))
  rename_i hSy
  have HSy : Hid (y.cell? ⟨gb, 0, none⟩ = some (.int .i64 f) ∧ y.cell? ⟨gb, 1, none⟩ = some (.slice a1 n1 c1) ∧ y.cell? ⟨gb, 2, none⟩ = some (.slice a2 n2 c2) ∧ y.cell? ⟨gb, 3, none⟩ = some (.slice a3 n3 c3) ∧ y.cell? ⟨gb, 4, none⟩ = some (.int .i64 d) ∧ y.cell? ⟨gb + 1, 0, none⟩ = some (.slice a4 n4 c4) ∧ y.cell? ⟨gb + 1, 1, none⟩ = some (.int .i64 nw) ∧ y.cell? ⟨gb + 1, 2, none⟩ = some (.int .i64 g) ∧ y.cell? ⟨gb + 1, 3, none⟩ = some (.bool bk) ∧ y.cell? ⟨gb + 1, 4, none⟩ = some (.slice a5 n5 c5) ∧ y.cell? ⟨gb + 1, 5, none⟩ = some (.int .i64 nx) ∧ Hid (Below V.heap.size V y)) := hSy
  clear hSy S0
  generalize hX : orr [X1, X2] = X at F1 F2 ⊢
  by_cases x0 : X = 0
  rotate_left
  · have HQ : Hid (Q = X) := (F1.out x0).symm
    have x0' : (X != 0) = true := by rw [bne_iff_ne]; exact x0
    have HB5 : Hid (Below w.heap.size w y) := SP.out _ HSy.out
    clear F1 F2 x0 hX
    go_wp2
    go_ret
    exact ⟨by rw [HQ.out]; rfl, hgb ▸ HB5.out⟩
  obtain ⟨hr, hq⟩ := F2.out x0
  have HQ : Hid (orr [X3, X4, X5] = Q) := hq
  have H4' := H4.out hr
  have H4'' : Hid (∀ w', Below w.heap.size w w' → Calls Tryz.prog 68 #[.agg #[.int .i64 f, .slice a1 n1 c1, .slice a2 n2 c2, .slice a3 n3 c3, .int .i64 d], .agg #[.slice a4 n4 c4, .int .i64 nw, .int .i64 g, .bool bk, .slice a5 n5 c5, .int .i64 nx]] w' fun e w'' => e = .returned (.int .i64 X4) ∧ Below w'.heap.size w' w'') := H4'
  have SD : Hid (y.drew.cell? ⟨gb, 0, none⟩ = some (.int .i64 f) ∧ y.drew.cell? ⟨gb, 1, none⟩ = some (.slice a1 n1 c1) ∧ y.drew.cell? ⟨gb, 2, none⟩ = some (.slice a2 n2 c2) ∧ y.drew.cell? ⟨gb, 3, none⟩ = some (.slice a3 n3 c3) ∧ y.drew.cell? ⟨gb, 4, none⟩ = some (.int .i64 d) ∧ y.drew.cell? ⟨gb + 1, 0, none⟩ = some (.slice a4 n4 c4) ∧ y.drew.cell? ⟨gb + 1, 1, none⟩ = some (.int .i64 nw) ∧ y.drew.cell? ⟨gb + 1, 2, none⟩ = some (.int .i64 g) ∧ y.drew.cell? ⟨gb + 1, 3, none⟩ = some (.bool bk) ∧ y.drew.cell? ⟨gb + 1, 4, none⟩ = some (.slice a5 n5 c5) ∧ y.drew.cell? ⟨gb + 1, 5, none⟩ = some (.int .i64 nx) ∧ Hid (Below V.heap.size V y.drew)) := KP.out y y.drew (Below.refl _ y).drew HSy.out
  subst x0
  clear F1 F2 hX H4 H4' H1 H2 hq HSy
  go_wp2_with fail
  go_region_held3 (fun w' => w'.cell? ⟨gb, 0, none⟩ = some (.int .i64 f) ∧ w'.cell? ⟨gb, 1, none⟩ = some (.slice a1 n1 c1) ∧ w'.cell? ⟨gb, 2, none⟩ = some (.slice a2 n2 c2) ∧ w'.cell? ⟨gb, 3, none⟩ = some (.slice a3 n3 c3) ∧ w'.cell? ⟨gb, 4, none⟩ = some (.int .i64 d) ∧ w'.cell? ⟨gb + 1, 0, none⟩ = some (.slice a4 n4 c4) ∧ w'.cell? ⟨gb + 1, 1, none⟩ = some (.int .i64 nw) ∧ w'.cell? ⟨gb + 1, 2, none⟩ = some (.int .i64 g) ∧ w'.cell? ⟨gb + 1, 3, none⟩ = some (.bool bk) ∧ w'.cell? ⟨gb + 1, 4, none⟩ = some (.slice a5 n5 c5) ∧ w'.cell? ⟨gb + 1, 5, none⟩ = some (.int .i64 nx) ∧ Hid (Below V.heap.size V w')) (first | exact KP.out _ _ (by assumption) (by assumption) | exact SD.out | exact KP.out _ _ (KA.out _ _) (by assumption))
    (first
      | (go_at_call 67; refine (H3.out _).mono ?_; rintro e z ⟨rfl, hby⟩)
      | (go_at_call 68; refine (H4''.out _ (SP.out _ (by assumption))).mono ?_; rintro e z ⟨rfl, hby⟩)
      | (go_at_call 69; refine (H5.out _ (SP.out _ (by assumption))).mono ?_; rintro e z ⟨rfl, hby⟩)
      | (go_at_call 20; refine (orE3 _ _ _ _).mono ?_; rintro e z ⟨rfl, hby⟩))
  have HB6 : Hid (Below w.heap.size w z) := SP.out _ (by assumption)
  go_wp2
  go_ret
  exact ⟨by rw [HQ.out]; rfl, hgb ▸ HB6.out⟩
end Go.Proofs.YtpenkhehceglfaaGreatDoor
