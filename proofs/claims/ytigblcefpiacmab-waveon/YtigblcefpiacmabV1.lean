/- Slices of numbers, of truths, of waves; the contract of the document's WaveOf. -/
import Derived.Test.YtigblcefpiacmabProg
import Derived.Test.YtigblcefpiacmabWMath
import Derived.WalkKit
import Derived.Deep.LoopGhost
import Derived.WalkLawsBesides
import Derived.WalkSpells
import Derived.Outline
namespace Go.Proofs.Ytigblcefpiacmab
open Go.RowKit
/-- a slice of numbers, the empty and the nil one too -/
def IntsAt (w : World) (v : Value) (l : List Int) : Prop :=
  l.length ≤ 70368744177664 ∧ ∃ A b o c, v = .slice A l.length c ∧ l.length ≤ c ∧ (0 < l.length → A = some ⟨b, o, none⟩ ∧ b < w.heap.size) ∧ ∀ j, j < l.length → w.cell? ⟨b, o + j, none⟩ = some (.int .i64 (l.getD j 0))
theorem IntsAt.below {w w' : World} {v : Value} {l : List Int} (h : IntsAt w v l) (hb : Below w.heap.size w w') : IntsAt w' v l := by
  obtain ⟨hl, A, b, o, c, h1, h2, h3, h4⟩ := h
  exact ⟨hl, A, b, o, c, h1, h2, fun h => ⟨(h3 h).1, Nat.lt_of_lt_of_le (h3 h).2 hb.size⟩, fun j hj => (hb.cell (p := ⟨b, o + j, none⟩) (h3 (by omega)).2).trans (h4 j hj)⟩
/-- a slice of truths -/
def BoolsAt (w : World) (v : Value) (l : List Bool) : Prop :=
  l.length ≤ 140737488355328 ∧ ∃ A b o c, v = .slice A l.length c ∧ l.length ≤ c ∧ (0 < l.length → A = some ⟨b, o, none⟩ ∧ b < w.heap.size) ∧ ∀ j, j < l.length → w.cell? ⟨b, o + j, none⟩ = some (.bool (l.getD j true))
theorem BoolsAt.below {w w' : World} {v : Value} {l : List Bool} (h : BoolsAt w v l) (hb : Below w.heap.size w w') : BoolsAt w' v l := by
  obtain ⟨hl, A, b, o, c, h1, h2, h3, h4⟩ := h
  exact ⟨hl, A, b, o, c, h1, h2, fun h => ⟨(h3 h).1, Nat.lt_of_lt_of_le (h3 h).2 hb.size⟩, fun j hj => (hb.cell (p := ⟨b, o + j, none⟩) (h3 (by omega)).2).trans (h4 j hj)⟩
/-- a slice of waves -/
def WavesAt (w : World) (v : Value) (l : List (List Int)) : Prop :=
  l.length ≤ 70368744177664 ∧ ∃ A b o c, v = .slice A l.length c ∧ l.length ≤ c ∧ (0 < l.length → A = some ⟨b, o, none⟩ ∧ b < w.heap.size) ∧ ∀ j, j < l.length → ∃ u, w.cell? ⟨b, o + j, none⟩ = some u ∧ IntsAt w u (l.getD j [])
theorem WavesAt.below {w w' : World} {v : Value} {l : List (List Int)} (h : WavesAt w v l) (hb : Below w.heap.size w w') : WavesAt w' v l := by
  obtain ⟨hl, A, b, o, c, h1, h2, h3, h4⟩ := h
  refine ⟨hl, A, b, o, c, h1, h2, fun h => ⟨(h3 h).1, Nat.lt_of_lt_of_le (h3 h).2 hb.size⟩, fun j hj => ?_⟩
  obtain ⟨u, e1, e2⟩ := h4 j hj
  exact ⟨u, (hb.cell (p := ⟨b, o + j, none⟩) (h3 (by omega)).2).trans e1, e2.below hb⟩
theorem dropL {α : Type} (l : List α) (d : α) (k : Nat) (h : k < l.length) : l.drop k = l.getD k d :: l.drop (k + 1) := by
  rw [List.drop_eq_getElem_cons h, List.getD_eq_getElem?_getD, List.getElem?_eq_getElem h]; rfl
theorem ofFrom_hit {a : Int} {l : List (List Int)} {k : Nat} (hk : k < l.length) (H : Wv.ofFrom a (l.drop k) k = Wv.of l a) (h : a ∈ l.getD k []) : Wv.of l a = k := by
  rw [← H, dropL l [] k hk, Wv.ofFrom, if_pos h]
theorem ofFrom_next {a : Int} {l : List (List Int)} {k : Nat} (hk : k < l.length) (H : Wv.ofFrom a (l.drop k) k = Wv.of l a) (h : a ∉ l.getD k []) : Wv.ofFrom a (l.drop (k + 1)) ((k + 1 : Nat) : Int) = Wv.of l a := by
  rw [← H, dropL l [] k hk, Wv.ofFrom, if_neg h]; rfl
theorem mem_getDI {l : List Int} {k : Nat} (h : k < l.length) : l.getD k 0 ∈ l := by
  rw [List.getD_eq_getElem?_getD, List.getElem?_eq_getElem h]; exact List.getElem_mem h
set_option maxHeartbeats 4000000 in
theorem waveOfR_any (v : Value) (l : List (List Int)) (a : Int) (w : World) (hL : WavesAt w v l) :
    Calls Try.prog 25 #[v, .int .i64 a] w fun e w' => e = .returned (.int .i64 (Wv.of l a)) ∧ w' = w := by
  obtain ⟨hll, A, b, o, c, rfl, -, hA, hC⟩ := hL
  have HA : Hid (0 < l.length → A = some ⟨b, o, none⟩ ∧ b < w.heap.size) := hA
  have HC : Hid (∀ j, j < l.length → ∃ u, w.cell? ⟨b, o + j, none⟩ = some u ∧ IntsAt w u (l.getD j [])) := hC
  clear hA hC
  go_enter Try.func25, Try.ntmps25
  go_wp2
  go_loopg [11] l.length (fun g s11 wr => ∃ k : Nat, k ≤ l.length ∧ l.length - k ≤ g ∧ s11 = .int .i64 k ∧ Hid (Wv.ofFrom a (l.drop k) k = Wv.of l a) ∧ wr = w)
  case atStart => exact ⟨0, Nat.zero_le _, by omega, rfl, rfl, rfl⟩
  case round =>
    obtain ⟨k, hk, hg, rfl, H, rfl⟩ := hrel
    by_cases hlt : k < l.length
    · obtain ⟨rfl, hbw⟩ := HA.out (by omega)
      obtain ⟨u, hu, hI⟩ := HC.out k hlt
      obtain ⟨hlm, B, b2, o2, c2, rfl, -, hB, hC2⟩ := hI
      have HB : Hid (0 < (l.getD k []).length → B = some ⟨b2, o2, none⟩ ∧ b2 < wr.heap.size) := hB
      have HC2 : Hid (∀ j, j < (l.getD k []).length → wr.cell? ⟨b2, o2 + j, none⟩ = some (.int .i64 ((l.getD k []).getD j 0))) := hC2
      have HHIT : Hid (a ∈ l.getD k [] → Wv.of l a = k) := ofFrom_hit hlt H.out
      have HNXT : Hid (a ∉ l.getD k [] → Wv.ofFrom a (l.drop (k + 1)) ((k + 1 : Nat) : Int) = Wv.of l a) := ofFrom_next hlt H.out
      generalize l.getD k [] = m at HB HC2 HHIT HNXT hu hlm
      clear HA HC hB hC2 H
      go_wp2_with fail
      go_loopg [18] m.length (fun g s18 wq => ∃ i : Nat, i ≤ m.length ∧ m.length - i ≤ g ∧ s18 = .int .i64 i ∧ Hid (∀ j, j < i → m.getD j 0 ≠ a) ∧ wq = wr)
      case atStart => exact ⟨0, Nat.zero_le _, by omega, rfl, (fun j hj => absurd hj (by omega)), rfl⟩
      case round =>
        obtain ⟨i, hi, hgi, rfl, HNE, rfl⟩ := hrel
        by_cases hlti : i < m.length
        · obtain ⟨rfl, hb2⟩ := HB.out (by omega)
          have g1 := HC2.out i hlti
          clear HB HC2
          by_cases hx : m.getD i 0 = a
          · have HR : Hid (Wv.of l a = k) := HHIT.out (by rw [← hx]; exact mem_getDI hlti)
            generalize m.getD i 0 = x at g1 hx
            have hx' : (x == a) = true := by simpa using hx
            clear hx
            go_wp2
            go_ret
            exact ⟨by rw [HR.out]; rfl, rfl⟩
          · have HN1 : Hid (∀ j, j < i + 1 → m.getD j 0 ≠ a) := fun j hj => by
              by_cases e : j = i
              · rw [e]; exact hx
              · exact HNE.out j (by omega)
            generalize m.getD i 0 = x at g1 hx
            have hx' : (x == a) = false := by simpa using hx
            clear hx
            go_wp2
            go_roundg (m.length - (i + 1))
            case measure => omega
            case rel => exact ⟨i + 1, by omega, by omega, by go_num, HN1, rfl⟩
        · have HN2 : Hid (Wv.ofFrom a (l.drop (k + 1)) ((k + 1 : Nat) : Int) = Wv.of l a) := HNXT.out (fun hm => by
            obtain ⟨j, hj, e⟩ := List.getElem_of_mem hm
            refine HNE.out j (by omega) ?_
            rw [List.getD_eq_getElem?_getD, List.getElem?_eq_getElem hj]
            exact e)
          have hi' : i = m.length := by omega
          subst hi'
          clear hlti hi HNE HNXT HHIT
          go_wp2
          go_roundg (l.length - (k + 1))
          case measure => omega
          case rel => exact ⟨k + 1, by omega, by omega, by go_num, HN2, rfl⟩
    · have hk' : k = l.length := by omega
      have HB : Hid (Wv.of l a = -1) := by rw [← H.out, hk', List.drop_length]; rfl
      subst hk'
      clear hk hlt
      go_wp2
      go_ret
      exact ⟨by rw [HB.out]; rfl, rfl⟩
end Go.Proofs.Ytigblcefpiacmab
