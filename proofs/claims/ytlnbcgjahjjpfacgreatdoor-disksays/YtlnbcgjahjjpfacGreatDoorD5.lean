/- Contracts of bytes.Equal, bytes.Clone, bytes.Cut at a line feed, of '[]byte(s)'. -/
import Derived.Test.YtlnbcgjahjjpfacGreatDoorD4
namespace Go.Proofs.YtlnbcgjahjjpfacGreatDoor
open Go.RowKit
def numsB (l : List UInt8) : List Int := l.map fun b => (b.toNat : Int)
theorem numsB_len (l : List UInt8) : (numsB l).length = l.length := by simp [numsB]
theorem numsB_getD (l : List UInt8) (i : Nat) : (numsB l).getD i 0 = ((l.getD i 0).toNat : Int) := by
  unfold numsB
  by_cases h : i < l.length
  · simp [List.getD_eq_getElem?_getD, List.getElem?_eq_getElem h]
  · simp [List.getD_eq_getElem?_getD, List.getElem?_eq_none (Nat.le_of_not_lt h)]
theorem numsB_range (l : List UInt8) : ∀ x ∈ numsB l, 0 ≤ x ∧ x < 256 := by
  intro x hx
  obtain ⟨b, _, rfl⟩ := List.mem_map.1 hx
  have := b.toNat_lt
  omega
theorem bytesOf_nums (l : List UInt8) : Lib.bytesOf (numsB l) = l := by
  unfold Lib.bytesOf numsB
  rw [List.map_map]
  have : ((fun n : Int => UInt8.ofNat n.toNat) ∘ fun b : UInt8 => (b.toNat : Int)) = id := by funext b; simp
  rw [this, List.map_id]
/-- a slice of bytes, in the shelf's own words -/
theorem bytes_in {w : World} {v : Value} {l : List UInt8} (h : BytesAt w v l) : ∃ p c, v = .slice p l.length c ∧ l.length ≤ c ∧ (p = none → c = 0) ∧ Lib.BytesIn w p l.length (numsB l) := by
  obtain ⟨_, c, hc, ⟨rfl, a, rfl, ha⟩ | ⟨b, o, rfl, _, h3⟩⟩ := h
  · exact ⟨a, c, rfl, hc, ha, Lib.BytesIn.nil w a _⟩
  · exact ⟨_, c, rfl, hc, (fun e => by cases e), Lib.BytesIn.of_cells (a := ⟨b, o, none⟩) (fun i hi => by rw [WideShapes.add_plain, numsB_getD]; exact h3 i hi)⟩
theorem equalP_any (v u : Value) (l m : List UInt8) (w : World) (hP : BytesAt w v l) (hQ : BytesAt w u m) :
    Calls Tryz.prog 32 #[v, u] w fun e w' => e = .returned (.bool (sameB l m)) ∧ Below w.heap.size w w' := by
  obtain ⟨p, c, rfl, _, _, h1⟩ := bytes_in hP
  obtain ⟨q, d, rfl, _, _, h2⟩ := bytes_in hQ
  refine (Tryz.bytes_Equal_all p q l.length c m.length d (numsB l) (numsB m) w (numsB_len l) (numsB_len m) h1 h2).mono ?_
  rintro e w' ⟨rfl, rfl⟩
  refine ⟨?_, Below.refl _ _⟩
  rw [bytesOf_nums, bytesOf_nums]
  congr 2
  by_cases h : l = m
  · subst h; simp [sameB]
  · simp [sameB, h]
/-- a slice of bytes that lies nowhere old -/
def NewBytes (N : Nat) (w : World) (v : Value) (l : List UInt8) : Prop := BytesAt w v l ∧ FreshS N v
theorem NewBytes.below {N : Nat} {w w' : World} {v : Value} {l : List UInt8} (h : NewBytes N w v l) (hb : Below w.heap.size w w') : NewBytes N w' v l := ⟨h.1.below hb, h.2⟩
theorem bytes_owns {w : World} {B e : Nat} {v : Value} {l : List UInt8} {n : Nat} (hn : n = l.length) (hl : l.length ≤ 140737488355328) (h : w.ownsRow B e 1 v n ((numsB l).map (Value.int .u8))) : NewBytes B w v l := by
  subst hn
  refine ⟨?_, fresh_of_owns h⟩
  have h0 := h
  rcases h.2 with ⟨h1, h2⟩ | ⟨g, cap, cur, h1, h2, h3, h4⟩
  · have : l = [] := List.length_eq_zero_iff.1 h2
    subst this
    exact ⟨by simp, 0, by simp, .inl ⟨rfl, none, h1, fun _ => rfl⟩⟩
  · subst h1
    refine ⟨hl, cap, h4.1, .inr ⟨g, 0, rfl, ?_, fun j hj => ?_⟩⟩
    · rcases Nat.lt_or_ge g w.heap.size with h | h
      · exact h
      · rw [Array.getElem?_eq_none h] at h3; cases h3
    · rw [Nat.zero_add]
      refine (h0.cellAt j (show j < l.length * 1 by omega)).trans ?_
      unfold numsB
      simp [List.getElem?_eq_getElem hj]
theorem clone_any (v : Value) (l : List UInt8) (w : World) (hP : BytesAt w v l) :
    Calls Tryz.prog 26 #[v] w fun e w' => (∃ u, e = .returned u ∧ NewBytes w.heap.size w' u l) ∧ Below w.heap.size w w' := by
  obtain ⟨p, c, rfl, hc, hp, h1⟩ := bytes_in hP
  cases p with
  | none =>
    have hc0 := hp rfl
    subst hc0
    have h0 : l = [] := List.length_eq_zero_iff.1 (by omega)
    subst h0
    refine (Tryz.bytes_Clone_nil 0 0 w).mono ?_
    rintro e w' ⟨rfl, rfl⟩
    exact ⟨⟨_, rfl, bytes_none _, fresh_none _ _ _⟩, Below.refl _ _⟩
  | some a =>
    refine (Tryz.bytes_Clone_at a l.length c (numsB l) w (numsB_len l) hP.1 (fun i hi => ?_)).mono ?_
    · obtain ⟨b, o, e, hcell⟩ := h1.at (by omega)
      cases e
      rw [WideShapes.add_plain]; exact hcell i hi
    · rintro e w' ⟨u, rfl, hu, _, hb⟩
      exact ⟨⟨u, rfl, bytes_owns rfl hP.1 hu⟩, hb⟩
theorem bytes_take {w : World} {p : Option Addr} {n c : Nat} {l : List UInt8} (h : BytesAt w (.slice p n c) l) (k : Nat) (hk : k ≤ l.length) : BytesAt w (.slice p k c) (l.take k) := by
  obtain ⟨hl, c', hc, ⟨rfl, a, e, ha⟩ | ⟨b, o, e, hb, h3⟩⟩ := h
  · obtain rfl : k = 0 := by simpa using hk
    simp only [Value.slice.injEq] at e
    obtain ⟨rfl, rfl, rfl⟩ := e
    exact ⟨by simp, c, by simp, .inl ⟨rfl, p, rfl, ha⟩⟩
  · simp only [Value.slice.injEq] at e
    obtain ⟨rfl, rfl, rfl⟩ := e
    refine ⟨by rw [List.length_take]; omega, c, by rw [List.length_take]; omega, .inr ⟨b, o, by rw [List.length_take, Nat.min_eq_left hk], hb, fun j hj => ?_⟩⟩
    rw [List.length_take] at hj
    rw [h3 j (by omega)]
    congr 3
    simp [List.getD_eq_getElem?_getD, show j < k by omega]
theorem bytes_from {w : World} {p : Option Addr} {c : Nat} {l : List UInt8} (h : BytesAt w (.slice p l.length c) l) (k : Nat) (hk : k ≤ l.length) : BytesAt w (Lib.fromV p l.length c k) (l.drop k) := by
  unfold Lib.fromV
  have hlen : (l.drop k).length = l.length - k := by simp
  obtain ⟨hl, c', hc, ⟨rfl, a, e, ha⟩ | ⟨b, o, e, hb, h3⟩⟩ := h
  · obtain rfl : k = 0 := by simpa using hk
    simp only [Value.slice.injEq] at e
    obtain ⟨rfl, _, rfl⟩ := e
    refine ⟨by simp, c - 0, by simp, .inl ⟨by simp, _, rfl, fun e => ?_⟩⟩
    cases p with
    | none => simpa using ha rfl
    | some ad => split at e <;> cases e
  · simp only [Value.slice.injEq] at e
    obtain ⟨rfl, _, rfl⟩ := e
    by_cases hck : c = k
    · subst hck
      have h0 : l.drop c = [] := List.drop_eq_nil_of_le hc
      rw [if_pos rfl, h0, show l.length - c = 0 from by omega, Nat.sub_self]
      exact ⟨by simp, 0, by simp, .inl ⟨rfl, _, rfl, fun _ => rfl⟩⟩
    · rw [if_neg hck]
      refine ⟨by omega, c - k, by omega, .inr ⟨b, o + k, ?_, hb, fun j hj => ?_⟩⟩
      · rw [hlen, Option.map_some, WideShapes.add_plain]
      · rw [hlen] at hj
        rw [Nat.add_assoc, h3 (k + j) (by omega)]
        congr 3
        simp [List.getD_eq_getElem?_getD, List.getElem?_drop]
/-- bytes.Cut at a line feed -/
theorem cut_torn (v sv : Value) (l : List UInt8) (w : World) (hE : Env w) (hP : BytesAt w v l) (hS : BytesAt w sv [10]) (hl : l.length ≤ 60000) (hn : 10 ∉ l) :
    Calls Tryz.prog 44 #[v, sv] w fun e w' => e = .returned (.tuple #[v, .slice none 0 0, .bool false]) ∧ Below w.heap.size w w' := by
  obtain ⟨m, hm⟩ := hE.mx
  obtain ⟨p, c, rfl, hc, hp, h1⟩ := bytes_in hP
  obtain ⟨q, d, rfl, _, _, h2⟩ := bytes_in hS
  refine (Tryz.bytes_Cut_all p q l.length c 1 d (numsB l) (numsB [10]) m w (numsB_len l) rfl (numsB_range l) (numsB_range _) h1 h2 hp hc (by omega) (by decide) hm).mono ?_
  rintro e w' ⟨rfl, k, rfl⟩
  refine ⟨?_, below_drewN (Below.refl _ _) _⟩
  rw [bytesOf_nums, bytesOf_nums, Lib.index_one, Lk.index_not 10 l hn]
  rfl
theorem cut_line (v sv : Value) (t s : List UInt8) (w : World) (hE : Env w) (hP : BytesAt w v (t ++ 10 :: s)) (hS : BytesAt w sv [10]) (hl : (t ++ 10 :: s).length ≤ 60000) (hn : 10 ∉ t) :
    Calls Tryz.prog 44 #[v, sv] w fun e w' => (∃ u x, e = .returned (.tuple #[u, x, .bool true]) ∧ ∀ W, BytesAt W v (t ++ 10 :: s) → BytesAt W u t ∧ BytesAt W x s) ∧ Below w.heap.size w w' := by
  obtain ⟨m, hm⟩ := hE.mx
  obtain ⟨p, c, rfl, hc, hp, h1⟩ := bytes_in hP
  obtain ⟨q, d, rfl, _, _, h2⟩ := bytes_in hS
  refine (Tryz.bytes_Cut_all p q _ c 1 d (numsB (t ++ 10 :: s)) (numsB [10]) m w (numsB_len _) rfl (numsB_range _) (numsB_range _) h1 h2 hp hc (by omega) (by decide) hm).mono ?_
  rintro e w' ⟨rfl, k, rfl⟩
  have hb : Below w.heap.size w (w.drewN k) := below_drewN (Below.refl _ _) _
  refine ⟨⟨.slice p t.length c, Lib.fromV p (t ++ 10 :: s).length c (t.length + 1), ?_, fun W hW => ⟨?_, ?_⟩⟩, hb⟩
  · rw [bytesOf_nums, bytesOf_nums, Lib.index_one, Lk.index_app 10 t s hn]
    unfold Lib.cutV
    rw [if_pos (by omega)]
    simp
  · have := bytes_take hW t.length (by simp)
    simpa using this
  · have := bytes_from hW (t.length + 1) (by simp)
    have e : (t ++ 10 :: s).drop (t.length + 1) = s := by rw [List.drop_append]; simp
    rwa [e] at this
end Go.Proofs.YtlnbcgjahjjpfacGreatDoor
