/- The contract of lock.readPins. -/
import Derived.Test.YtlnbcgjahjjpfacGreatDoorW5
import Derived.Test.YtlnbcgjahjjpfacGreatDoorWords
namespace Go.Proofs.YtlnbcgjahjjpfacGreatDoor
open Go.RowKit
theorem Tryz.info91 : (Tryz.prog.info? 91).map (fun i => (i.zero, i.size, i.bytes)) = some (some (.agg #[.int .i64 0, .int .i64 0]), 2, 16) := by kernel_rfl
/-- the cells of pins, one after the other -/
def flat : List (Int × Int) → List Value
  | [] => []
  | p :: r => .int .i64 p.1 :: .int .i64 p.2 :: flat r
theorem flat_len (l : List (Int × Int)) : (flat l).length = l.length * 2 := by
  induction l with
  | nil => rfl
  | cons p r ih => simp [flat, ih]; omega
theorem flat_append (l m : List (Int × Int)) : flat (l ++ m) = flat l ++ flat m := by
  induction l with
  | nil => rfl
  | cons p r ih => simp [flat, ih]
theorem flat_get (l : List (Int × Int)) : ∀ j, j < l.length → (flat l)[j * 2]? = some (.int .i64 (l.getD j (0, 0)).1) ∧ (flat l)[j * 2 + 1]? = some (.int .i64 (l.getD j (0, 0)).2) := by
  induction l with
  | nil => intro j h; simp at h
  | cons p r ih =>
    intro j hj
    cases j with
    | zero => simp [flat]
    | succ j =>
      have := ih j (by simpa using hj)
      rw [show (j + 1) * 2 = j * 2 + 1 + 1 from by omega]
      simpa [flat] using this
theorem owns_below {w w' : World} {base e size : Nat} {v : Value} {n : Nat} {xs : List Value} (h : w.ownsRow base e size v n xs) (hb : Below w.heap.size w w') : w'.ownsRow base e size v n xs := by
  refine ⟨h.1, ?_⟩
  rcases h.2 with h2 | ⟨g, cap, cur, h1, h2, h3, h4⟩
  · exact .inl h2
  · have hg : g < w.heap.size := by
      rcases Nat.lt_or_ge g w.heap.size with h | h
      · exact h
      · rw [Array.getElem?_eq_none h] at h3; cases h3
    exact .inr ⟨g, cap, cur, h1, h2, (hb.block g hg).trans h3, h4⟩
theorem pins_of_owns {w : World} {base : Nat} {v : Value} {l : List (Int × Int)} (h : w.ownsRow base 91 2 v l.length (flat l)) (hl : l.length ≤ 70368744177664) : PinsAt w v l := by
  refine ⟨hl, ?_⟩
  have h0 := h
  rcases h.2 with ⟨h1, h2⟩ | ⟨g, cap, cur, h1, h2, h3, h4⟩
  · exact ⟨0, .inl ⟨List.length_eq_zero_iff.1 h2, none, h1⟩⟩
  · refine ⟨cap, .inr ⟨g, 0, h1, ?_, ?_⟩⟩
    · rcases Nat.lt_or_ge g w.heap.size with h | h
      · exact h
      · rw [Array.getElem?_eq_none h] at h3; cases h3
    · intro j hj
      subst h1
      obtain ⟨e1, e2⟩ := flat_get l j hj
      rw [Nat.zero_add]
      exact ⟨(h0.cellAt (j * 2) (by omega)).trans e1, (h0.cellAt (j * 2 + 1) (by omega)).trans e2⟩
theorem pins_none (w : World) : PinsAt w (.slice none 0 0) [] := ⟨by simp, 0, .inl ⟨rfl, none, rfl⟩⟩
/-- it lies nowhere below N -/
def FreshS (N : Nat) (v : Value) : Prop := ∀ b o n c, v = .slice (some ⟨b, o, none⟩) n c → N ≤ b
def NewPins (N : Nat) (w : World) (v : Value) (l : List (Int × Int)) : Prop := PinsAt w v l ∧ FreshS N v
theorem FreshS.mono {N M : Nat} {v : Value} (h : FreshS N v) (hm : M ≤ N) : FreshS M v := fun b o n c e => Nat.le_trans hm (h b o n c e)
theorem fresh_none (N n c : Nat) : FreshS N (.slice none n c) := fun b o n' c' e => by simp at e
theorem new_none (N : Nat) (w : World) : NewPins N w (.slice none 0 0) [] := ⟨pins_none w, fresh_none _ _ _⟩
theorem NewPins.below {N : Nat} {w w' : World} {v : Value} {l : List (Int × Int)} (h : NewPins N w v l) (hb : Below w.heap.size w w') : NewPins N w' v l := ⟨h.1.below hb, h.2⟩
theorem NewPins.less {N M : Nat} {w : World} {v : Value} {l : List (Int × Int)} (h : NewPins N w v l) (hm : M ≤ N) : NewPins M w v l := ⟨h.1, h.2.mono hm⟩
theorem fresh_of_owns {w : World} {base e size n : Nat} {v : Value} {xs : List Value} (h : w.ownsRow base e size v n xs) : FreshS base v := by
  rcases h.2 with ⟨h1, _⟩ | ⟨g, cap, cur, h1, h2, _, _⟩
  · rw [h1]; exact fresh_none _ _ _
  · intro b o n' c' e'
    rw [h1] at e'
    simp only [Value.slice.injEq, Option.some.injEq, Addr.mk.injEq] at e'
    obtain ⟨⟨rfl, _⟩, _⟩ := e'
    exact h2
theorem split_any (s : ByteArray) (hs : s.size ≤ 60000) (w : World) (hE : Env w) :
    Calls Tryz.prog 69 #[.string s, .string ⟨#[44]⟩] w fun e w' => e = .returned (.slice (some ⟨w.heap.size, 0, none⟩) (Lk.ws s).length (Lk.ws s).length) ∧ (∀ j x, (Lk.ws s)[j]? = some x → w'.cell? ⟨w.heap.size, j, none⟩ = some (.string x)) ∧ w'.heap.size = w.heap.size + 1 ∧ Below w.heap.size w w' := by
  obtain ⟨m, hm⟩ := hE.mx
  refine (Tryz.strings_Split s Lk.comma m w (by omega) hm (by decide)).mono ?_
  rintro e w' ⟨rfl, rfl⟩
  refine ⟨by rw [Lk.ws_len], ?_, by simp, (Below.refl _ w).alloc (Nat.le_refl _) _⟩
  intro j x hx
  rw [World.cell?_alloc_new]
  show ((Lk.ws s).map Value.string).toArray[j]? = _
  simp [hx]
theorem bytes_nil (s : ByteArray) (h : s.size = 0) : s = ⟨#[]⟩ := by
  obtain ⟨d⟩ := s
  have : d.size = 0 := h
  rw [Array.eq_empty_of_size_eq_zero this]
theorem bytes_ne (s : ByteArray) (h : s.size ≠ 0) : s.toList.isEmpty = false := by
  rw [toList_eq]
  obtain ⟨⟨l⟩⟩ := s
  cases l with
  | nil => exact absurd rfl h
  | cons _ _ => rfl
set_option maxHeartbeats 400000 in
theorem readPins_nil (s : ByteArray) (h0 : s.size = 0) (w : World) :
    Calls Tryz.prog 88 #[.string s] w fun e w' => e = .returned (.tuple #[.slice none 0 0, .bool true]) ∧ Below w.heap.size w w' := by
  have e : s = ⟨#[]⟩ := bytes_nil s h0
  subst e
  go_enter Tryz.func88, Tryz.ntmps88
  go_wp2
  go_ret2
  exact ⟨rfl, Below.refl _ _⟩

set_option maxHeartbeats 2000000 in
theorem readPins_full (s : ByteArray) (hs : s.size ≤ 60000) (h0 : s.size ≠ 0) (w : World) (hE : Env w) :
    Calls Tryz.prog 88 #[.string s] w fun e w' => (∃ v, e = .returned (.tuple #[v, .bool (Lk.pins s).isSome]) ∧ (Lk.pins s = none → v = .slice none 0 0) ∧ ∀ l, Lk.pins s = some l → NewPins w.heap.size w' v l) ∧ Below w.heap.size w w' := by
  have hne := bytes_ne s h0
  have H0 : Hid (s.size ≠ 0) := h0
  have HE : Hid (Env w) := hE
  have HWL : Hid (∀ x ∈ Lk.ws s, x.size ≤ 60000) := fun x hx => Nat.le_trans (Lk.ws_le s x hx) hs
  have hwl : (Lk.ws s).length ≤ 60001 := by rw [Lk.ws_len]; have := Lk.count_le s; omega
  clear h0 hE
  obtain ⟨i0, hi, hz0, hz1, hz2⟩ := info_parts Tryz.info91
  go_enter Tryz.func88, Tryz.ntmps88
  go_wp2_with fail
  refine (split_any s hs _ HE.out).mono ?_
  rintro e w1 ⟨rfl, hcell, hsz, hb1⟩
  have HC : Hid (∀ j x, (Lk.ws s)[j]? = some x → w1.cell? ⟨w.heap.size, j, none⟩ = some (.string x)) := hcell
  have HSZ : Hid (w1.heap.size = w.heap.size + 1) := hsz
  have HE1 : Hid (Env w1) := HE.out.below hb1
  clear hcell hsz HE
  have HB1 : Hid (Below w.heap.size w w1) := hb1
  clear hb1
  go_wp2_with fail
  go_loopg [4, 14] (Lk.ws s).length (fun g s4 s14 wr => ∃ k : Nat, ∃ l : List (Int × Int), k ≤ (Lk.ws s).length ∧ (Lk.ws s).length - k ≤ g ∧ s14 = .int .i64 k ∧ Hid (wr.ownsRow w1.heap.size 91 2 s4 l.length (flat l)) ∧ Hid (Lk.readTo s k l) ∧ Below w1.heap.size w1 wr)
  case atStart => exact ⟨0, [], Nat.zero_le _, by omega, rfl, World.ownsRow_nil _ _ _ _, Lk.readTo_zero s, Below.refl _ _⟩
  case round =>
    obtain ⟨k, l, hk, hg, rfl, HO, HR, hb⟩ := hrel
    by_cases hlt : k < (Lk.ws s).length
    · obtain ⟨x, hx⟩ : ∃ x, (Lk.ws s)[k]? = some x := ⟨_, List.getElem?_eq_getElem hlt⟩
      have HX : Hid ((Lk.ws s)[k]? = some x) := hx
      have hxs : x.size ≤ 60000 := HWL.out x (List.mem_of_getElem? hx)
      have c1 : wr.cell? ⟨w.heap.size, k, none⟩ = some (.string x) := (hb.cell (p := ⟨w.heap.size, k, none⟩) (by rw [HSZ.out]; show w.heap.size < _; omega)).trans (HC.out k x hx)
      have HEr : Hid (Env wr) := HE1.out.below hb
      clear hx
      go_wp2_with fail
      refine (readPin_any x hxs _ HEr.out).mono ?_
      rintro e w2 ⟨⟨p1, p2, rfl, hp⟩, hb2⟩
      have HP : Hid (∀ p, Lk.pinOf x.data.toList = some p → p = (p1, p2)) := hp
      clear hp c1
      have HB2 : Hid (Below wr.heap.size wr w2) := hb2
      have HBr : Hid (Below w1.heap.size w1 wr) := hb
      clear hb2 hb
      cases hps : Lk.pinOf x.data.toList with
      | none =>
        have HN : Hid (Lk.pins s = none) := Lk.readTo_bad H0.out HX.out hps
        clear hps
        go_wp2
        go_ret2
        exact ⟨⟨_, by rw [HN.out]; rfl, fun _ => rfl, fun l hl => by rw [HN.out] at hl; cases hl⟩, (HB1.out.trans (HBr.out.mono HB1.out.size)).trans ((HB2.out.mono (Nat.le_trans HB1.out.size HBr.out.size)).alloc (Nat.le_trans (Nat.le_trans HB1.out.size HBr.out.size) HB2.out.size) _)⟩
      | some p =>
        have HPS : Hid (Lk.pinOf x.data.toList = some (p1, p2)) := by rw [hps, HP.out p hps]; rfl
        clear hps
        have hll : l.length ≤ 60001 := by rw [Lk.readTo_len HR.out hk]; omega
        have HO2 := owns_below HO.out HB2.out
        have hw1 : w1.heap.size ≤ w2.heap.size := Nat.le_trans HBr.out.size HB2.out.size
        go_wp2_with (at_builtin; refine wpList_append_own _ rfl _ _ 25 rfl w1.heap.size 91 i0 (.agg #[.int .i64 0, .int .i64 0]) 2 16 Tryz.underlying25 hi hz0 hz1 hz2 rfl (by decide) _ l.length (flat l) rfl ((HO2.alloc _).alloc _) ⟨w2.heap.size + 1, 0, none⟩ 1 1 [.int .i64 p1, .int .i64 p2] rfl rfl ?c1 ?c2 ?c3 ?c4 ?c5 ?_)
        case c1 =>
          intro j u hj
          rcases j with _ | _ | j
          · simp at hj; subst hj; simp [go_sem, Addr.add]
          · simp at hj; subst hj; simp [go_sem, Addr.add]
          · simp at hj
        case c2 =>
          intro u hu
          simp only [List.mem_cons, List.not_mem_nil, or_false] at hu
          rcases hu with rfl | rfl <;> rfl
        case c3 => unfold maxLen; omega
        case c4 => omega
        case c5 => simp; omega
        intro v' w3 hown hgrow _
        have HO3 : Hid (w3.ownsRow w1.heap.size 91 2 v' (l ++ [(p1, p2)]).length (flat (l ++ [(p1, p2)]))) := by
          rw [flat_append, List.length_append]; exact hown
        have hb3 : Below w1.heap.size w1 w3 := (((HBr.out.trans (HB2.out.mono HBr.out.size)).alloc hw1 _).alloc (by simp; omega) _).grown hgrow (by simp; omega) (fun q hq => (HO.out.lt q hq).1)
        have HR3 : Hid (Lk.readTo s (k + 1) (l ++ [(p1, p2)])) := Lk.readTo_next HR.out HX.out HPS.out
        clear hown hgrow HO2 HO HR HPS
        go_wp2
        go_roundg ((Lk.ws s).length - (k + 1))
        case measure => omega
        case rel => exact ⟨k + 1, l ++ [(p1, p2)], by omega, by omega, by go_num, HO3, HR3, hb3⟩
    · have hk' : k = (Lk.ws s).length := by omega
      subst hk'
      have HA : Hid (Lk.pins s = some l) := Lk.readTo_all H0.out HR.out
      have HBr : Hid (Below w1.heap.size w1 wr) := hb
      have hll : l.length ≤ 60001 := by rw [Lk.readTo_len HR.out hk]; exact hwl
      have HPA : Hid (NewPins w.heap.size wr u4 l) := ⟨pins_of_owns HO.out (by omega), (fresh_of_owns HO.out).mono HB1.out.size⟩
      clear hk hlt hb HR hg hll
      go_wp2
      go_ret2
      exact ⟨⟨_, by rw [HA.out]; rfl, (fun h => by rw [HA.out] at h; cases h), (fun m hm => by rw [HA.out] at hm; cases hm; exact HPA.out)⟩, HB1.out.trans (HBr.out.mono HB1.out.size)⟩
theorem readPins_any (s : ByteArray) (hs : s.size ≤ 60000) (w : World) (hE : Env w) :
    Calls Tryz.prog 88 #[.string s] w fun e w' => (∃ v, e = .returned (.tuple #[v, .bool (Lk.pins s).isSome]) ∧ (Lk.pins s = none → v = .slice none 0 0) ∧ ∀ l, Lk.pins s = some l → NewPins w.heap.size w' v l) ∧ Below w.heap.size w w' := by
  by_cases h0 : s.size = 0
  · refine (readPins_nil s h0 w).mono ?_
    rintro e w' ⟨rfl, hb⟩
    rw [Lk.pins_nil h0]
    exact ⟨⟨_, rfl, (fun h => by cases h), (fun l hl => by cases hl; exact new_none _ _)⟩, hb⟩
  · exact readPins_full s hs h0 w hE
end Go.Proofs.YtlnbcgjahjjpfacGreatDoor
