import Derived.Test.YtpenkhehceglfaaGreatDoorW4
import Derived.Test.YtpenkhehceglfaaGreatDoorMA
import Derived.Test.YtpenkhehceglfaaGreatDoorMH
import Derived.BigQuiet
import Derived.Deep.QuietTactic
import Derived.Deep.RegionWith
/- The contract of lock.readPin. -/
namespace Go.Proofs.YtpenkhehceglfaaGreatDoor
open Go.RowKit
theorem cut_any (s : ByteArray) (hs : s.size ≤ 60000) (w : World) (hE : Env w) :
    Calls Tryz.prog 127 #[.string s, .string ⟨#[64]⟩] w fun e w' => (∃ a b : ByteArray, e = .returned (.tuple #[.string a, .string b, .bool (Lib.cut s.data.toList [64]).2.2]) ∧ a.data.toList = (Lib.cut s.data.toList [64]).1 ∧ b.data.toList = (Lib.cut s.data.toList [64]).2.1 ∧ a.size ≤ 60000 ∧ b.size ≤ 60000) ∧ Below w.heap.size w w' := by
  obtain ⟨m, hm⟩ := hE.mx
  refine (Tryz.strings_Cut s ⟨#[64]⟩ m w (by omega) hm).mono ?_
  rintro e w' ⟨rfl, n, rfl⟩
  refine ⟨⟨_, _, rfl, rfl, rfl, ?_, ?_⟩, below_drewN (Below.refl _ _) n⟩
  · show (Lib.cut s.data.toList [64]).1.toArray.size ≤ 60000
    have hl : s.data.toList.length ≤ 60000 := hs
    unfold Lib.cut; split <;> simp <;> omega
  · show (Lib.cut s.data.toList [64]).2.1.toArray.size ≤ 60000
    have hl : s.data.toList.length ≤ 60000 := hs
    unfold Lib.cut; split <;> simp <;> omega
theorem bcell {W w1 : World} (hb : Below W.heap.size W w1) : (∀ b o, b < W.heap.size → w1.cell? ⟨b, o, none⟩ = W.cell? ⟨b, o, none⟩) ∧ (∀ b o, b < W.heap.size → w1.frozen? ⟨b, o, none⟩ = W.frozen? ⟨b, o, none⟩) :=
  ⟨fun b o h => hb.cell (p := ⟨b, o, none⟩) h, fun b o h => hb.frozen (p := ⟨b, o, none⟩) h⟩
theorem pinOf_no (s : List UInt8) (h : (Lib.cut s [64]).2.2 = false ∨ (Lk.numOf (Lib.cut s [64]).1).isSome = false ∨ (Lk.numOf (Lib.cut s [64]).2.1).isSome = false) : Lk.pinOf s = none := by
  unfold Lk.pinOf
  rcases h with h | h | h
  · rw [if_neg (by rw [h]; decide)]
  · split
    · cases e : Lk.numOf (Lib.cut s [64]).1 with
      | none => rfl
      | some v => rw [e] at h; simp at h
    · rfl
  · split
    · cases e : Lk.numOf (Lib.cut s [64]).2.1 with
      | none => cases Lk.numOf (Lib.cut s [64]).1 <;> rfl
      | some v => rw [e] at h; simp at h
    · rfl
theorem pinOf_yes (s : List UInt8) (x y : Int) (h : (Lib.cut s [64]).2.2 = true) (h1 : (Lk.numOf (Lib.cut s [64]).1).isSome = true) (h2 : (Lk.numOf (Lib.cut s [64]).2.1).isSome = true)
    (hx : ∀ v, Lk.numOf (Lib.cut s [64]).1 = some v → x = v) (hy : ∀ v, Lk.numOf (Lib.cut s [64]).2.1 = some v → y = v) : Lk.pinOf s = some (x, y) := by
  unfold Lk.pinOf
  rw [if_pos h]
  cases e : Lk.numOf (Lib.cut s [64]).1 with
  | none => rw [e] at h1; simp at h1
  | some u =>
    cases e' : Lk.numOf (Lib.cut s [64]).2.1 with
    | none => rw [e'] at h2; simp at h2
    | some v => rw [hx u e, hy v e']
set_option maxHeartbeats 2000000 in
theorem readPin_any (s : ByteArray) (hs : s.size ≤ 60000) (w : World) (hE : Env w) :
    Calls Tryz.prog 149 #[.string s] w fun e w' => (∃ x y : Int, e = .returned (.tuple #[.agg #[.int .i64 x, .int .i64 y], .bool (Lk.pinOf s.data.toList).isSome]) ∧ ∀ p, Lk.pinOf s.data.toList = some p → p = (x, y)) ∧ Below w.heap.size w w' := by
  have HE : Hid (Env w) := hE
  clear hE
  go_enter Tryz.func149, Tryz.ntmps149
  go_wp2_with fail
  have hb0 : Below w.heap.size w (w.alloc (.cells #[.int .i64 0, .int .i64 0] 57)) := (Below.refl _ w).alloc (Nat.le_refl _) _
  have HE0 : Hid (Env (w.alloc (.cells #[.int .i64 0, .int .i64 0] 57))) := HE.out.below hb0
  refine (cut_any s hs _ HE0.out).mono ?_
  rintro e w1 ⟨⟨a, b, rfl, ha, hb, hsa, hsb⟩, hb1⟩
  have HA : Hid (a.data.toList = (Lib.cut s.data.toList [64]).1) := ha
  have HB : Hid (b.data.toList = (Lib.cut s.data.toList [64]).2.1) := hb
  have HE1 : Hid (Env w1) := HE0.out.below hb1
  clear ha hb
  go_wp2_with fail
  refine (readNumber_any a hsa _ HE1.out).mono ?_
  rintro e w2 ⟨⟨n1, rfl, hn1⟩, hb2⟩
  have HE2 : Hid (Env w2) := HE1.out.below hb2
  have HN1 : Hid (∀ v, Lk.numOf a.data.toList = some v → n1 = v) := hn1
  clear hn1
  go_wp2_with fail
  refine (readNumber_any b hsb _ HE2.out).mono ?_
  rintro e w3 ⟨⟨n2, rfl, hn2⟩, hb3⟩
  have HN2 : Hid (∀ v, Lk.numOf b.data.toList = some v → n2 = v) := hn2
  clear hn2
  rw [HA.out] at HN1
  rw [HB.out] at HN2
  rw [HA.out, HB.out]
  have HF : Hid (∀ c o1 o2 : Bool, (Lib.cut s.data.toList [64]).2.2 = c → (Lk.numOf (Lib.cut s.data.toList [64]).1).isSome = o1 → (Lk.numOf (Lib.cut s.data.toList [64]).2.1).isSome = o2 → (c = false ∨ o1 = false ∨ o2 = false) → Lk.pinOf s.data.toList = none) := fun c o1 o2 h0 h1 h2 h => pinOf_no _ (by subst h0 h1 h2; exact h)
  have HY : Hid (∀ c o1 o2 : Bool, (Lib.cut s.data.toList [64]).2.2 = c → (Lk.numOf (Lib.cut s.data.toList [64]).1).isSome = o1 → (Lk.numOf (Lib.cut s.data.toList [64]).2.1).isSome = o2 → c = true → o1 = true → o2 = true → Lk.pinOf s.data.toList = some (n1, n2)) := fun c o1 o2 h0 h1 h2 e0 e1 e2 => pinOf_yes _ _ _ (h0.trans e0) (h1.trans e1) (h2.trans e2) HN1.out HN2.out
  generalize h0 : (Lib.cut s.data.toList [64]).2.2 = c
  generalize h1 : (Lk.numOf (Lib.cut s.data.toList [64]).1).isSome = o1
  generalize h2 : (Lk.numOf (Lib.cut s.data.toList [64]).2.1).isSome = o2
  have HNo : Hid ((c = false ∨ o1 = false ∨ o2 = false) → Lk.pinOf s.data.toList = none) := HF.out c o1 o2 h0 h1 h2
  have HYes : Hid (c = true → o1 = true → o2 = true → Lk.pinOf s.data.toList = some (n1, n2)) := HY.out c o1 o2 h0 h1 h2
  clear HF HY h0 h1 h2 HN1 HN2 HA HB HE HE0 HE1 HE2
  have hB1 : Below (w.alloc (.cells #[.int .i64 0, .int .i64 0] 57)).heap.size (w.alloc (.cells #[.int .i64 0, .int .i64 0] 57)) w3 := (hb1.trans (hb2.mono hb1.size)).trans (hb3.mono (Nat.le_trans hb1.size hb2.size))
  have hBw : Below w.heap.size w w3 := hb0.trans (hB1.mono hb0.size)
  have c0 : w3.cell? ⟨w.heap.size, 0, none⟩ = some (.int .i64 0) := (hB1.cell (p := ⟨w.heap.size, 0, none⟩) (by simp)).trans (by simp [go_sem])
  have c1 : w3.cell? ⟨w.heap.size, 1, none⟩ = some (.int .i64 0) := (hB1.cell (p := ⟨w.heap.size, 1, none⟩) (by simp)).trans (by simp [go_sem])
  have f0 : w3.frozen? ⟨w.heap.size, 0, none⟩ = false := (hB1.frozen (p := ⟨w.heap.size, 0, none⟩) (by simp)).trans (by simp [go_sem])
  have f1 : w3.frozen? ⟨w.heap.size, 1, none⟩ = false := (hB1.frozen (p := ⟨w.heap.size, 1, none⟩) (by simp)).trans (by simp [go_sem])
  clear hb1 hb2 hb3 hb0 hB1
  have HBw : Hid (Below w.heap.size w w3) := hBw
  clear hBw
  cases c <;> cases o1 <;> cases o2
  all_goals go_wp2
  iterate 7
    · have hp := HNo.out (by simp)
      refine bodyPost_ret (v := .tuple #[.agg #[.int .i64 0, .int .i64 0], .bool false]) (by simp [results, Tryz.results149, go_sem, c0, c1]) rfl ⟨⟨0, 0, by rw [hp]; rfl, fun p e => by rw [hp] at e; cases e⟩, ?_⟩
      exact (HBw.out.setCell (Nat.le_refl _) _).setCell (Nat.le_refl _) _
  have hp := HYes.out (by simp) (by simp) (by simp)
  refine bodyPost_ret (v := .tuple #[.agg #[.int .i64 n1, .int .i64 n2], .bool true]) (by simp [results, Tryz.results149, go_sem, c0, c1]) rfl ⟨⟨n1, n2, by rw [hp]; rfl, fun p e => by rw [hp] at e; exact (Option.some.inj e).symm⟩, ?_⟩
  exact (HBw.out.setCell (Nat.le_refl _) _).setCell (Nat.le_refl _) _
end Go.Proofs.YtpenkhehceglfaaGreatDoor
/- The contract of lock.readPins. -/
namespace Go.Proofs.YtpenkhehceglfaaGreatDoor
open Go.RowKit
/-- it lies nowhere below N -/
def FreshS (N : Nat) (v : Value) : Prop := ∀ b o n c, v = .slice (some ⟨b, o, none⟩) n c → N ≤ b
def NewPins (N : Nat) (w : World) (v : Value) (l : List (Int × Int)) : Prop := PinsAt w v l ∧ FreshS N v
theorem FreshS.mono {N M : Nat} {v : Value} (h : FreshS N v) (hm : M ≤ N) : FreshS M v := fun b o n c e => Nat.le_trans hm (h b o n c e)
theorem fresh_none (N n c : Nat) : FreshS N (.slice none n c) := fun b o n' c' e => by simp at e
theorem new_none (N : Nat) (w : World) : NewPins N w (.slice none 0 0) [] := ⟨pins_none w, fresh_none _ _ _⟩
theorem NewPins.below {N : Nat} {w w' : World} {v : Value} {l : List (Int × Int)} (h : NewPins N w v l) (hb : Below w.heap.size w w') : NewPins N w' v l := ⟨h.1.below hb, h.2⟩
theorem NewPins.less {N M : Nat} {w : World} {v : Value} {l : List (Int × Int)} (h : NewPins N w v l) (hm : M ≤ N) : NewPins M w v l := ⟨h.1, h.2.mono hm⟩
theorem fresh_of_owns {w : World} {base e size n : Nat} {v : Value} {xs : List Value} (h : w.ownsRow base e size v n xs) : FreshS base v := by
  rcases h.2 with ⟨h1, _⟩ | ⟨g, cap, cur, h1, h2, _, _⟩
  · rw [h1]; exact fresh_none _ _ _
  · intro b o n' c' e'
    rw [h1] at e'
    simp only [Value.slice.injEq, Option.some.injEq, Addr.mk.injEq] at e'
    obtain ⟨⟨rfl, _⟩, _⟩ := e'
    exact h2
theorem split_any (s : ByteArray) (hs : s.size ≤ 60000) (w : World) (hE : Env w) :
    Calls Tryz.prog 148 #[.string s, .string ⟨#[44]⟩] w fun e w' => e = .returned (.slice (some ⟨w.heap.size, 0, none⟩) (Lk.ws s).length (Lk.ws s).length) ∧ (∀ j x, (Lk.ws s)[j]? = some x → w'.cell? ⟨w.heap.size, j, none⟩ = some (.string x)) ∧ w'.heap.size = w.heap.size + 1 ∧ Below w.heap.size w w' := by
  obtain ⟨m, hm⟩ := hE.mx
  refine (Tryz.strings_Split s Lk.comma m w (by omega) hm (by decide)).mono ?_
  rintro e w' ⟨rfl, rfl⟩
  refine ⟨by rw [Lk.ws_len], ?_, by simp, (Below.refl _ w).alloc (Nat.le_refl _) _⟩
  intro j x hx
  rw [World.cell?_alloc_new]
  show ((Lk.ws s).map Value.string).toArray[j]? = _
  simp [hx]
theorem bytes_nil (s : ByteArray) (h : s.size = 0) : s = ⟨#[]⟩ := by
  obtain ⟨d⟩ := s
  have : d.size = 0 := h
  rw [Array.eq_empty_of_size_eq_zero this]
theorem bytes_ne (s : ByteArray) (h : s.size ≠ 0) : s.toList.isEmpty = false := by
  rw [toList_eq]
  obtain ⟨⟨l⟩⟩ := s
  cases l with
  | nil => exact absurd rfl h
  | cons _ _ => rfl
set_option maxHeartbeats 400000 in
theorem readPins_nil (s : ByteArray) (h0 : s.size = 0) (w : World) :
    Calls Tryz.prog 130 #[.string s] w fun e w' => e = .returned (.tuple #[.slice none 0 0, .bool true]) ∧ Below w.heap.size w w' := by
  have e : s = ⟨#[]⟩ := bytes_nil s h0
  subst e
  go_enter Tryz.func130, Tryz.ntmps130
  go_wp2
  go_ret2
  exact ⟨rfl, Below.refl _ _⟩

set_option maxHeartbeats 2000000 in
theorem readPins_full (s : ByteArray) (hs : s.size ≤ 60000) (h0 : s.size ≠ 0) (w : World) (hE : Env w) :
    Calls Tryz.prog 130 #[.string s] w fun e w' => (∃ v, e = .returned (.tuple #[v, .bool (Lk.pins s).isSome]) ∧ (Lk.pins s = none → v = .slice none 0 0) ∧ ∀ l, Lk.pins s = some l → NewPins w.heap.size w' v l) ∧ Below w.heap.size w w' := by
  have hne := bytes_ne s h0
  have H0 : Hid (s.size ≠ 0) := h0
  have HE : Hid (Env w) := hE
  have HWL : Hid (∀ x ∈ Lk.ws s, x.size ≤ 60000) := fun x hx => Nat.le_trans (Lk.ws_le s x hx) hs
  have hwl : (Lk.ws s).length ≤ 60001 := by rw [Lk.ws_len]; have := Lk.count_le s; omega
  clear h0 hE
  obtain ⟨i0, hi, hz0, hz1, hz2⟩ := info_parts Tryz.info57
  go_enter Tryz.func130, Tryz.ntmps130
  go_wp2_with fail
  refine (split_any s hs _ HE.out).mono ?_
  rintro e w1 ⟨rfl, hcell, hsz, hb1⟩
  have HC : Hid (∀ j x, (Lk.ws s)[j]? = some x → w1.cell? ⟨w.heap.size, j, none⟩ = some (.string x)) := hcell
  have HSZ : Hid (w1.heap.size = w.heap.size + 1) := hsz
  have HE1 : Hid (Env w1) := HE.out.below hb1
  clear hcell hsz HE
  have HB1 : Hid (Below w.heap.size w w1) := hb1
  clear hb1
  go_wp2_with fail
  go_loopg [4, 14] (Lk.ws s).length (fun g s4 s14 wr => ∃ k : Nat, ∃ l : List (Int × Int), k ≤ (Lk.ws s).length ∧ (Lk.ws s).length - k ≤ g ∧ s14 = .int .i64 k ∧ Hid (wr.ownsRow w1.heap.size 57 2 s4 l.length (flat l)) ∧ Hid (Lk.readTo s k l) ∧ Below w1.heap.size w1 wr)
  case atStart => exact ⟨0, [], Nat.zero_le _, by omega, rfl, World.ownsRow_nil _ _ _ _, Lk.readTo_zero s, Below.refl _ _⟩
  case round =>
    obtain ⟨k, l, hk, hg, rfl, HO, HR, hb⟩ := hrel
    by_cases hlt : k < (Lk.ws s).length
    · obtain ⟨x, hx⟩ : ∃ x, (Lk.ws s)[k]? = some x := ⟨_, List.getElem?_eq_getElem hlt⟩
      have HX : Hid ((Lk.ws s)[k]? = some x) := hx
      have hxs : x.size ≤ 60000 := HWL.out x (List.mem_of_getElem? hx)
      have c1 : wr.cell? ⟨w.heap.size, k, none⟩ = some (.string x) := (hb.cell (p := ⟨w.heap.size, k, none⟩) (by rw [HSZ.out]; show w.heap.size < _; omega)).trans (HC.out k x hx)
      have HEr : Hid (Env wr) := HE1.out.below hb
      clear hx
      go_wp2_with fail
      refine (readPin_any x hxs _ HEr.out).mono ?_
      rintro e w2 ⟨⟨p1, p2, rfl, hp⟩, hb2⟩
      have HP : Hid (∀ p, Lk.pinOf x.data.toList = some p → p = (p1, p2)) := hp
      clear hp c1
      have HB2 : Hid (Below wr.heap.size wr w2) := hb2
      have HBr : Hid (Below w1.heap.size w1 wr) := hb
      clear hb2 hb
      cases hps : Lk.pinOf x.data.toList with
      | none =>
        have HN : Hid (Lk.pins s = none) := Lk.readTo_bad H0.out HX.out hps
        clear hps
        go_wp2
        go_ret2
        exact ⟨⟨_, by rw [HN.out]; rfl, fun _ => rfl, fun l hl => by rw [HN.out] at hl; cases hl⟩, (HB1.out.trans (HBr.out.mono HB1.out.size)).trans ((HB2.out.mono (Nat.le_trans HB1.out.size HBr.out.size)).alloc (Nat.le_trans (Nat.le_trans HB1.out.size HBr.out.size) HB2.out.size) _)⟩
      | some p =>
        have HPS : Hid (Lk.pinOf x.data.toList = some (p1, p2)) := by rw [hps, HP.out p hps]; rfl
        clear hps
        have hll : l.length ≤ 60001 := by rw [Lk.readTo_len HR.out hk]; omega
        have HO2 := owns_below HO.out HB2.out
        have hw1 : w1.heap.size ≤ w2.heap.size := Nat.le_trans HBr.out.size HB2.out.size
        go_wp2_with (at_builtin; refine wpList_append_own _ rfl _ _ 22 rfl w1.heap.size 57 i0 (.agg #[.int .i64 0, .int .i64 0]) 2 16 Tryz.underlying22 hi hz0 hz1 hz2 rfl (by decide) _ l.length (flat l) rfl ((HO2.alloc _).alloc _) ⟨w2.heap.size + 1, 0, none⟩ 1 1 [.int .i64 p1, .int .i64 p2] rfl rfl ?c1 ?c2 ?c3 ?c4 ?c5 ?_)
        case c1 =>
          intro j u hj
          rcases j with _ | _ | j
          · simp at hj; subst hj; simp [go_sem, Addr.add]
          · simp at hj; subst hj; simp [go_sem, Addr.add]
          · simp at hj
        case c2 =>
          intro u hu
          simp only [List.mem_cons, List.not_mem_nil, or_false] at hu
          rcases hu with rfl | rfl <;> rfl
        case c3 => unfold maxLen; omega
        case c4 => omega
        case c5 => simp; omega
        intro v' w3 hown hgrow _
        have HO3 : Hid (w3.ownsRow w1.heap.size 57 2 v' (l ++ [(p1, p2)]).length (flat (l ++ [(p1, p2)]))) := by
          rw [flat_append, List.length_append]; exact hown
        have hb3 : Below w1.heap.size w1 w3 := (((HBr.out.trans (HB2.out.mono HBr.out.size)).alloc hw1 _).alloc (by simp; omega) _).grown hgrow (by simp; omega) (fun q hq => (HO.out.lt q hq).1)
        have HR3 : Hid (Lk.readTo s (k + 1) (l ++ [(p1, p2)])) := Lk.readTo_next HR.out HX.out HPS.out
        clear hown hgrow HO2 HO HR HPS
        go_wp2
        go_roundg ((Lk.ws s).length - (k + 1))
        case measure => omega
        case rel => exact ⟨k + 1, l ++ [(p1, p2)], by omega, by omega, by go_num, HO3, HR3, hb3⟩
    · have hk' : k = (Lk.ws s).length := by omega
      subst hk'
      have HA : Hid (Lk.pins s = some l) := Lk.readTo_all H0.out HR.out
      have HBr : Hid (Below w1.heap.size w1 wr) := hb
      have hll : l.length ≤ 60001 := by rw [Lk.readTo_len HR.out hk]; exact hwl
      have HPA : Hid (NewPins w.heap.size wr u4 l) := ⟨pins_of_owns HO.out (by omega), (fresh_of_owns HO.out).mono HB1.out.size⟩
      clear hk hlt hb HR hg hll
      go_wp2
      go_ret2
      exact ⟨⟨_, by rw [HA.out]; rfl, (fun h => by rw [HA.out] at h; cases h), (fun m hm => by rw [HA.out] at hm; cases hm; exact HPA.out)⟩, HB1.out.trans (HBr.out.mono HB1.out.size)⟩
theorem readPins_any (s : ByteArray) (hs : s.size ≤ 60000) (w : World) (hE : Env w) :
    Calls Tryz.prog 130 #[.string s] w fun e w' => (∃ v, e = .returned (.tuple #[v, .bool (Lk.pins s).isSome]) ∧ (Lk.pins s = none → v = .slice none 0 0) ∧ ∀ l, Lk.pins s = some l → NewPins w.heap.size w' v l) ∧ Below w.heap.size w w' := by
  by_cases h0 : s.size = 0
  · refine (readPins_nil s h0 w).mono ?_
    rintro e w' ⟨rfl, hb⟩
    rw [Lk.pins_nil h0]
    exact ⟨⟨_, rfl, (fun h => by cases h), (fun l hl => by cases hl; exact new_none _ _)⟩, hb⟩
  · exact readPins_full s hs h0 w hE
end Go.Proofs.YtpenkhehceglfaaGreatDoor
/- Contracts of lock.Parse and of the document's LockRead. -/
namespace Go.Proofs.YtpenkhehceglfaaGreatDoor
open Go.RowKit
theorem readAs_none {s : ByteArray} (h : Lk.pins s = none) : Lk.readAs s = ([], 1) := by unfold Lk.readAs; rw [h]
theorem readAs_good {s : ByteArray} {l : List (Int × Int)} (h : Lk.pins s = some l) (hc : Lk.chk l = 0) : Lk.readAs s = (l, 0) := by unfold Lk.readAs; rw [h]; exact if_pos hc
theorem readAs_bad {s : ByteArray} {l : List (Int × Int)} (h : Lk.pins s = some l) (hc : ¬ Lk.chk l = 0) : Lk.readAs s = ([], Lk.chk l) := by unfold Lk.readAs; rw [h]; exact if_neg hc
set_option maxHeartbeats 400000 in
theorem parse_long (s : ByteArray) (hs : 60000 < s.size) (w : World) :
    Calls Tryz.prog 108 #[.string s] w fun e w' => e = .returned (.tuple #[.slice none 0 0, .int .i64 2]) ∧ Below w.heap.size w w' := by
  have hs' : (60000 : Int) < (s.size : Int) := by omega
  go_enter Tryz.func108, Tryz.ntmps108
  go_wp2
  go_ret2
  exact ⟨rfl, Below.refl _ _⟩
set_option maxHeartbeats 1000000 in
theorem parse_new (s : ByteArray) (hs : s.size ≤ 60000) (w : World) (hE : Env w) :
    Calls Tryz.prog 108 #[.string s] w fun e w' => (∃ v, e = .returned (.tuple #[v, .int .i64 (Lk.readAs s).2]) ∧ NewPins w.heap.size w' v (Lk.readAs s).1) ∧ Below w.heap.size w w' := by
  have HE : Hid (Env w) := hE
  clear hE
  go_enter Tryz.func108, Tryz.ntmps108
  go_wp2_with fail
  refine (readPins_any s hs _ HE.out).mono ?_
  rintro e w1 ⟨⟨v, rfl, hn, hl⟩, hb⟩
  have HN : Hid (Lk.pins s = none → v = .slice none 0 0) := hn
  have HL : Hid (∀ l, Lk.pins s = some l → NewPins w.heap.size w1 v l) := hl
  clear hn hl
  have HB : Hid (Below w.heap.size w w1) := hb
  clear hb
  cases hp : Lk.pins s with
  | none =>
    have HR : Hid (Lk.readAs s = ([], 1)) := readAs_none hp
    clear hp
    go_wp2
    go_ret2
    exact ⟨⟨_, by rw [HR.out]; rfl, by rw [HR.out]; exact new_none _ _⟩, HB.out⟩
  | some l =>
    have HP : Hid (NewPins w.heap.size w1 v l) := HL.out l hp
    have HS : Hid (Lk.pins s = some l) := hp
    clear hp
    go_wp2_with fail
    refine (check_any v l _ HP.out.1).mono ?_
    rintro e w2 ⟨rfl, hb2⟩
    by_cases hc : Lk.chk l = 0
    · have HR : Hid (Lk.readAs s = (l, 0)) := readAs_good HS.out hc
      have HP2 : Hid (NewPins w.heap.size w2 v l) := HP.out.below hb2
      rw [hc]
      clear hc
      go_wp2
      go_ret2
      exact ⟨⟨_, by rw [HR.out]; rfl, by rw [HR.out]; exact HP2.out⟩, HB.out.trans (hb2.mono HB.out.size)⟩
    · have HR : Hid (Lk.readAs s = ([], Lk.chk l)) := readAs_bad HS.out hc
      generalize Lk.chk l = c at hc HR
      have hc' : (c != 0) = true := by simpa using hc
      clear hc
      go_wp2
      go_ret2
      exact ⟨⟨_, by rw [HR.out]; rfl, by rw [HR.out]; exact new_none _ _⟩, HB.out.trans (hb2.mono HB.out.size)⟩
theorem parse_any (s : ByteArray) (hs : s.size ≤ 60000) (w : World) (hE : Env w) :
    Calls Tryz.prog 108 #[.string s] w fun e w' => (∃ v, e = .returned (.tuple #[v, .int .i64 (Lk.readAs s).2]) ∧ PinsAt w' v (Lk.readAs s).1) ∧ Below w.heap.size w w' := by
  refine (parse_new s hs w hE).mono ?_
  rintro e w' ⟨⟨v, he, h⟩, hb⟩
  exact ⟨⟨v, he, h.1⟩, hb⟩
end Go.Proofs.YtpenkhehceglfaaGreatDoor
/- The contract of the document's LockRead. -/
namespace Go.Proofs.YtpenkhehceglfaaGreatDoor
open Go.RowKit
theorem ext_take (x : ByteArray) (n : Nat) : (x.extract 0 n).data.toList = x.data.toList.take n := by
  rw [Lib.extract_data]; simp
theorem ext_drop (x : ByteArray) (n : Nat) : (x.extract n x.size).data.toList = x.data.toList.drop n := by
  rw [Lib.extract_to_end]
theorem index_any (x : ByteArray) (w : World) :
    Calls Tryz.prog 175 #[.string x, .string ⟨#[64]⟩] w fun e w' => e = .returned (.int .i64 (Lib.indexByte x.data.toList 64)) ∧ w' = w :=
  Tryz.strings_Index_one x 64 w
theorem index_lt (l : List UInt8) (k : Nat) (h : Lib.indexByte l 64 = k) : k < l.length := by
  have := (Lib.indexByte_some h).1
  exact (List.getElem?_eq_some_iff.1 this).1
end Go.Proofs.YtpenkhehceglfaaGreatDoor
/- The contract of the document's LockText. -/
namespace Go.Proofs.YtpenkhehceglfaaGreatDoor
open Go.RowKit
theorem chkFrom_ok (l : List (Int × Int)) (last : Int) (h : Lk.chkFrom last l = 0) : ∀ p ∈ l, (1 ≤ p.1 ∧ p.1 ≤ 20) ∧ (1 ≤ p.2 ∧ p.2 ≤ 99) := by
  induction l generalizing last with
  | nil => intro p hp; cases hp
  | cons q r ih =>
    rw [Lk.chkFrom] at h
    by_cases hq : Lk.okPin q = true
    · rw [if_pos hq] at h
      by_cases h6 : q.1 ≤ last
      · rw [if_pos h6] at h; cases h
      · rw [if_neg h6] at h
        intro p hp
        rcases List.mem_cons.1 hp with rfl | hp
        · simpa [Lk.okPin, and_assoc] using hq
        · exact ih _ h p hp
    · rw [if_neg hq] at h; cases h
theorem chk_ok {l : List (Int × Int)} (h : Lk.chk l = 0) : l.length ≤ 12 ∧ ∀ p ∈ l, (1 ≤ p.1 ∧ p.1 ≤ 20) ∧ (1 ≤ p.2 ∧ p.2 ≤ 99) := by
  unfold Lk.chk at h
  by_cases hl : 12 < l.length
  · rw [if_pos hl] at h; cases h
  · rw [if_neg hl] at h
    exact ⟨by omega, chkFrom_ok l 0 h⟩
theorem dec_len (n : Nat) (h : n < 100) : (Lib.decDigits n).length ≤ 2 := by
  by_cases h1 : n < 10
  · rw [Lib.decDigits_one h1]; simp
  · rw [Lib.decDigits_two h1 h]; simp
/-- the text of the first k pins -/
def textTo (l : List (Int × Int)) (k : Nat) : List UInt8 := Lib.join ((l.take k).map Lk.pinText) [44]
theorem textTo_zero (l : List (Int × Int)) : textTo l 0 = [] := by simp [textTo, Lib.join]
theorem inter_snoc (sep : List UInt8) (a : List (List UInt8)) (x : List UInt8) (h : a ≠ []) : sep.intercalate (a ++ [x]) = sep.intercalate a ++ sep ++ x := by
  induction a with
  | nil => exact absurd rfl h
  | cons y r ih =>
    cases r with
    | nil => simp [List.intercalate, List.intersperse]
    | cons z r =>
      have := ih (by simp)
      simp only [List.cons_append, List.intercalate, List.intersperse, List.flatten_cons] at this ⊢
      rw [this]
      simp
theorem textTo_first (l : List (Int × Int)) (p : Int × Int) (h : l[0]? = some p) : textTo l 1 = Lk.pinText p := by
  unfold textTo
  rw [List.take_add_one, h]
  simp [Lib.join, List.intercalate]
theorem textTo_next (l : List (Int × Int)) (k : Nat) (hk : 0 < k) (p : Int × Int) (h : l[k]? = some p) : textTo l (k + 1) = textTo l k ++ [44] ++ Lk.pinText p := by
  unfold textTo
  rw [List.take_add_one, h]
  simp only [Option.toList, List.map_append, List.map_cons, List.map_nil, Lib.join]
  refine inter_snoc _ _ _ ?_
  intro e
  have hl := congrArg List.length e
  simp at hl
  have : k < l.length := (List.getElem?_eq_some_iff.1 h).1
  rcases hl with h | h
  · omega
  · subst h; simp at this
theorem textTo_all (l : List (Int × Int)) : textTo l l.length = Lk.text l := by unfold textTo Lk.text; rw [List.take_length]
theorem str_more (t a b : List UInt8) : (⟨t.toArray⟩ : ByteArray) ++ ⟨#[44]⟩ ++ (⟨a.toArray⟩ ++ ⟨#[64]⟩ ++ ⟨b.toArray⟩) = ⟨(t ++ [44] ++ (a ++ 64 :: b)).toArray⟩ := by
  apply WideShapes.bytes_inj; simp
theorem str_first (a b : List UInt8) : (⟨#[]⟩ : ByteArray) ++ (⟨a.toArray⟩ ++ ⟨#[64]⟩ ++ ⟨b.toArray⟩) = ⟨(a ++ 64 :: b).toArray⟩ := by
  apply WideShapes.bytes_inj; simp
end Go.Proofs.YtpenkhehceglfaaGreatDoor
/- The contract of lock.Print. -/
namespace Go.Proofs.YtpenkhehceglfaaGreatDoor
open Go.RowKit
theorem Tryz.info9 : (Tryz.prog.info? 9).map (fun i => (i.zero, i.size, i.bytes)) = some (some (.string ⟨#[]⟩), 1, 16) := by kernel_rfl
/-- the words written so far, and the empty ones behind them -/
def wordsTo (l : List (Int × Int)) (k : Nat) : List Value := (l.take k).map (fun p => Value.string ⟨(Lk.pinText p).toArray⟩) ++ List.replicate (l.length - k) (.string ⟨#[]⟩)
theorem wordsTo_zero (l : List (Int × Int)) : wordsTo l 0 = List.replicate l.length (.string ⟨#[]⟩) := by simp [wordsTo]
theorem wordsTo_len (l : List (Int × Int)) (k : Nat) (h : k ≤ l.length) : (wordsTo l k).length = l.length := by simp [wordsTo]; omega
theorem wordsTo_at (l : List (Int × Int)) (k : Nat) (h : k < l.length) : (wordsTo l k)[k]? = some (.string ⟨#[]⟩) := by
  unfold wordsTo
  have e2 : min k l.length = k := by omega
  rw [List.getElem?_append_right (by simp; omega)]
  simp [e2, List.getElem?_replicate]; omega
theorem wordsTo_next (l : List (Int × Int)) (k : Nat) (p : Int × Int) (h : l[k]? = some p) : (wordsTo l k).set k (.string ⟨(Lk.pinText p).toArray⟩) = wordsTo l (k + 1) := by
  have hk : k < l.length := (List.getElem?_eq_some_iff.1 h).1
  unfold wordsTo
  rw [List.set_append_right _ _ (by simp; omega), List.take_add_one, h]
  have e : l.length - k = (l.length - (k + 1)) + 1 := by omega
  have e2 : min k l.length = k := by omega
  rw [e, List.replicate_succ]
  simp [e2]
theorem wordsTo_all (l : List (Int × Int)) : wordsTo l l.length = l.map (fun p => Value.string ⟨(Lk.pinText p).toArray⟩) := by simp [wordsTo]
theorem made_words (n : Nat) : (madeCells #[Value.string ⟨#[]⟩] n).toList = List.replicate n (.string ⟨#[]⟩) := by
  have h : ∀ x : Nat, [Value.string ⟨#[]⟩][x % 1]?.getD default = Value.string ⟨#[]⟩ := fun x => by rw [Nat.mod_one]; rfl
  simp [madeCells, h, List.map_const']
theorem pin_len (p : Int × Int) (h : (1 ≤ p.1 ∧ p.1 ≤ 20) ∧ (1 ≤ p.2 ∧ p.2 ≤ 99)) : (Lk.pinText p).length ≤ 5 := by
  have h1 := dec_len p.1.toNat (by omega)
  have h2 := dec_len p.2.toNat (by omega)
  simp [Lk.pinText]; omega
theorem inter_len (a : List (List UInt8)) (h : ∀ x ∈ a, x.length ≤ 5) : (([44] : List UInt8).intercalate a).length ≤ 6 * a.length := by
  induction a with
  | nil => simp [List.intercalate]
  | cons x r ih =>
    have hx := h x (by simp)
    have hr := ih (fun y hy => h y (by simp [hy]))
    cases r with
    | nil => simp [List.intercalate]; omega
    | cons z r =>
      simp only [List.intercalate, List.intersperse, List.flatten_cons, List.length_append, List.length_cons, List.length_nil] at hr ⊢
      omega
theorem text_len (l : List (Int × Int)) (hr : ∀ p ∈ l, (1 ≤ p.1 ∧ p.1 ≤ 20) ∧ (1 ≤ p.2 ∧ p.2 ≤ 99)) : (Lk.text l).length ≤ 6 * l.length := by
  have := inter_len (l.map Lk.pinText) (fun x hx => by obtain ⟨p, hp, rfl⟩ := List.mem_map.1 hx; exact pin_len p (hr p hp))
  simpa [Lk.text, Lib.join] using this
theorem join_any (g : Nat) (l : List (Int × Int)) (w : World) (hO : w.ownsRow g 9 1 (.slice (some ⟨g, 0, none⟩) l.length l.length) l.length (l.map fun p => Value.string ⟨(Lk.pinText p).toArray⟩)) (hl : l.length ≤ 12)
    (hr : ∀ p ∈ l, (1 ≤ p.1 ∧ p.1 ≤ 20) ∧ (1 ≤ p.2 ∧ p.2 ≤ 99)) :
    Calls Tryz.prog 83 #[.slice (some ⟨g, 0, none⟩) l.length l.length, .string ⟨#[44]⟩] w fun e w' => e = .returned (.string ⟨(Lk.text l).toArray⟩) ∧ Below w.heap.size w w' := by
  have e : ((l.map fun p => (⟨(Lk.pinText p).toArray⟩ : ByteArray)).map (·.data.toList)) = l.map Lk.pinText := by
    rw [List.map_map]; exact List.map_congr_left (fun p _ => by simp)
  have hj := Tryz.strings_Join g 0 l.length (l.map fun p => (⟨(Lk.pinText p).toArray⟩ : ByteArray)) ⟨#[44]⟩ w (fun j x hx => by
      have hj : j < l.length := by have := (List.getElem?_eq_some_iff.1 hx).1; simpa using this
      rw [Nat.zero_add, hO.cellAt j (by omega)]
      rw [List.getElem?_map] at hx ⊢
      cases hq : l[j]? with
      | none => rw [hq] at hx; simp at hx
      | some q => rw [hq] at hx; simp at hx; subst hx; rfl) (hO.lt _ rfl).2 (by simp; omega) (by simp) (by
      rw [e]
      have := text_len l hr
      unfold Lk.text at this
      exact Nat.le_trans this (by omega))
  rw [List.length_map, e] at hj
  exact hj
theorem str_pin (n m : Nat) : (⟨(Lib.decDigits n).toArray⟩ : ByteArray) ++ ⟨#[64]⟩ ++ ⟨(Lib.decDigits m).toArray⟩ = ⟨(Lk.pinText ((n : Int), (m : Int))).toArray⟩ := by
  apply WideShapes.bytes_inj; simp [Lk.pinText]
set_option maxHeartbeats 4000000 in
set_option maxRecDepth 100000 in
theorem print_full (v : Value) (l : List (Int × Int)) (w : World) (hP : PinsAt w v l) (hc : Lk.chk l = 0) :
    Calls Tryz.prog 81 #[v] w fun e w' => e = .returned (.tuple #[.string ⟨(Lk.text l).toArray⟩, .int .i64 0]) ∧ Below w.heap.size w w' := by
  obtain ⟨hl, hr⟩ := chk_ok hc
  have HRg : Hid (∀ p ∈ l, (1 ≤ p.1 ∧ p.1 ≤ 20) ∧ (1 ≤ p.2 ∧ p.2 ≤ 99)) := hr
  have HP : Hid (PinsAt w v l) := hP
  obtain ⟨a, c, hv⟩ : ∃ a c, v = .slice a l.length c := by
    obtain ⟨_, c, ⟨rfl, a, rfl⟩ | ⟨b, o, rfl, _⟩⟩ := hP
    · exact ⟨a, c, rfl⟩
    · exact ⟨_, c, rfl⟩
  subst hv
  clear hr hP
  obtain ⟨i0, hi, hz0, hz1, hz2⟩ := info_parts Tryz.info9
  go_enter Tryz.func81, Tryz.ntmps81
  go_wp2_with fail
  refine (check_any _ l _ HP.out).mono ?_
  rintro e w1 ⟨rfl, hb1⟩
  rw [hc]
  clear hc
  have hbb : i0.bytes * l.length ≤ 281474976710656 := by rw [hz2]; omega
  go_wp2_with (at_make; refine wpList_make_full _ rfl (.tmp 14) (.tmp 14) 148 rfl w1.heap.size 9 i0 (.string ⟨#[]⟩) 1 Tryz.underlying148 hi hz0 hz1 .i64 .i64 _ _ l.length rfl rfl rfl rfl hbb (by unfold maxLen; omega) (Nat.le_refl _) ?_)
  intro w2 hown hgrow
  rw [made_words, ← wordsTo_zero] at hown
  have HOw : Hid (w2.ownsRow w1.heap.size 9 1 (.slice (some ⟨w1.heap.size, 0, none⟩) l.length l.length) l.length (wordsTo l 0)) := hown
  have HB2 : Hid (Below w1.heap.size w1 w2) := (Below.refl _ _).grown hgrow (Nat.le_refl _) (fun k hk => by cases hk)
  have HB1 : Hid (Below w.heap.size w w1) := hb1
  clear hown hgrow hb1 hbb
  go_wp2_with fail
  go_loopg [18] l.length (fun g s18 wr => ∃ k : Nat, k ≤ l.length ∧ l.length - k ≤ g ∧ s18 = .int .i64 k ∧ Hid (wr.ownsRow w1.heap.size 9 1 (.slice (some ⟨w1.heap.size, 0, none⟩) l.length l.length) l.length (wordsTo l k)) ∧ Hid (Below w1.heap.size w1 wr))
  case atStart => exact ⟨0, Nat.zero_le _, by omega, rfl, HOw, HB2⟩
  case round =>
    obtain ⟨k, hk, hg, rfl, HO, HBr⟩ := hrel
    by_cases hlt : k < l.length
    · obtain ⟨b, o, hab, hPc⟩ : ∃ b o, a = some ⟨b, o, none⟩ ∧ PinCells w b o l := by
        obtain ⟨_, c', ⟨e, _⟩ | ⟨b, o, e, h⟩⟩ := HP.out
        · rw [e] at hlt; simp at hlt
        · simp only [Value.slice.injEq] at e; exact ⟨b, o, e.1, h⟩
      subst hab
      obtain ⟨g1, g2⟩ := ((hPc.below HB1.out).below HBr.out).2 k hlt
      obtain ⟨p, hp⟩ : ∃ p, l[k]? = some p := ⟨_, List.getElem?_eq_getElem hlt⟩
      have HPk : Hid (l[k]? = some p) := hp
      have hrg := HRg.out p (List.mem_of_getElem? hp)
      rw [List.getD_eq_getElem?_getD, hp] at g1 g2
      simp only [Option.getD_some] at g1 g2
      clear hp hPc
      obtain ⟨x, y⟩ := p
      obtain ⟨⟨hx1, hx2⟩, hy1, hy2⟩ := hrg
      simp only at g1 g2 hx1 hx2 hy1 hy2
      obtain ⟨n, rfl⟩ := Int.eq_ofNat_of_zero_le (show 0 ≤ x by omega)
      obtain ⟨m, rfl⟩ := Int.eq_ofNat_of_zero_le (show 0 ≤ y by omega)
      have hn := dec_len n (by omega)
      have hm := dec_len m (by omega)
      have hgs : w1.heap.size < wr.heap.size := (HO.out.lt _ rfl).2
      have k1 : wr.cell? ⟨w1.heap.size, k, none⟩ = some (.string ⟨#[]⟩) := (HO.out.cellAt k (by omega)).trans (wordsTo_at l k hlt)
      have k2 : wr.frozen? ⟨w1.heap.size, k, none⟩ = false := HO.out.frozenAt k
      have HS : Hid (∀ ob, ((wr.setCell ⟨w1.heap.size, k, none⟩ (.string (⟨(Lib.decDigits n).toArray⟩ ++ ⟨#[64]⟩ ++ ⟨(Lib.decDigits m).toArray⟩))).alloc ob).drew.ownsRow w1.heap.size 9 1 (.slice (some ⟨w1.heap.size, 0, none⟩) l.length l.length) l.length (wordsTo l (k + 1))) := fun ob => by
        rw [← wordsTo_next l k _ HPk.out, str_pin]
        exact ((HO.out.stored k _).1.alloc ob).drew
      have HBS : Hid (∀ ob u, Below w1.heap.size w1 ((wr.setCell ⟨w1.heap.size, k, none⟩ u).alloc ob).drew) := fun ob u => ((HBr.out.setCell (p := ⟨w1.heap.size, k, none⟩) (Nat.le_refl _) u).alloc (by simp [World.setCell]; omega) ob).drew
      clear HO HBr
      go_wp2_with fail
      go_region_with (first | (go_at_call_of 82 (Value.int IntKind.i64 (n : Int)); refine (Tryz.strconv_Itoa_small n (by omega) _).mono ?_; rintro e w' ⟨rfl, rfl⟩) | (go_at_call_of 82 (Value.int IntKind.i64 (m : Int)); refine (Tryz.strconv_Itoa_small m (by omega) _).mono ?_; rintro e w' ⟨rfl, rfl⟩))
      all_goals
        go_wp2
        go_roundg (l.length - (k + 1))
        case measure => omega
        case rel => exact ⟨k + 1, by omega, by omega, by go_num, HS.out _, HBS.out _ _⟩
    · have hk' : k = l.length := by omega
      subst hk'
      rw [wordsTo_all] at HO
      clear hk hlt hg
      have HB3 : Hid (Below w.heap.size w wr) := HB1.out.trans (HBr.out.mono HB1.out.size)
      go_wp2_with fail
      refine (join_any _ l _ HO.out hl HRg.out).mono ?_
      rintro e w3 ⟨rfl, hb3⟩
      go_wp2
      go_ret2
      exact ⟨rfl, HB3.out.trans (hb3.mono HB3.out.size)⟩
set_option maxHeartbeats 1000000 in
theorem print_bad (v : Value) (l : List (Int × Int)) (w : World) (hP : PinsAt w v l) (hc : ¬ Lk.chk l = 0) :
    Calls Tryz.prog 81 #[v] w fun e w' => e = .returned (.tuple #[.string ⟨#[]⟩, .int .i64 (Lk.chk l)]) ∧ Below w.heap.size w w' := by
  have HP : Hid (PinsAt w v l) := hP
  have HC : Hid (¬ Lk.chk l = 0) := hc
  clear hP hc
  go_enter Tryz.func81, Tryz.ntmps81
  go_wp2_with fail
  refine (check_any _ l _ HP.out).mono ?_
  rintro e w1 ⟨rfl, hb1⟩
  have hc' : (Lk.chk l != 0) = true := by rw [bne_iff_ne]; exact HC.out
  generalize hq : Lk.chk l = c at hc'
  have HQ : Hid (Lk.chk l = c) := hq
  clear hq HC
  go_wp2
  go_ret2
  exact ⟨by rw [HQ.out]; rfl, hb1⟩
/-- what Print answers: the text, and what is wrong -/
def printed (l : List (Int × Int)) : List UInt8 := if Lk.chk l = 0 then Lk.text l else []
theorem print_any (v : Value) (l : List (Int × Int)) (w : World) (hP : PinsAt w v l) :
    Calls Tryz.prog 81 #[v] w fun e w' => e = .returned (.tuple #[.string ⟨(printed l).toArray⟩, .int .i64 (Lk.chk l)]) ∧ Below w.heap.size w w' := by
  by_cases hc : Lk.chk l = 0
  · rw [show printed l = Lk.text l from if_pos hc, hc]
    exact print_full v l w hP hc
  · rw [show printed l = [] from if_neg hc]
    exact print_bad v l w hP hc
end Go.Proofs.YtpenkhehceglfaaGreatDoor
