/- The contract of the document's LockRead. -/
import Derived.Test.YtlnbcgjahjjpfacGreatDoorW7
namespace Go.Proofs.YtlnbcgjahjjpfacGreatDoor
open Go.RowKit
theorem ext_take (x : ByteArray) (n : Nat) : (x.extract 0 n).data.toList = x.data.toList.take n := by
  rw [Lib.extract_data]; simp
theorem ext_drop (x : ByteArray) (n : Nat) : (x.extract n x.size).data.toList = x.data.toList.drop n := by
  rw [Lib.extract_to_end]
theorem index_any (x : ByteArray) (w : World) :
    Calls Tryz.prog 91 #[.string x, .string ⟨#[64]⟩] w fun e w' => e = .returned (.int .i64 (Lib.indexByte x.data.toList 64)) ∧ w' = w :=
  Tryz.strings_Index_one x 64 w
theorem index_lt (l : List UInt8) (k : Nat) (h : Lib.indexByte l 64 = k) : k < l.length := by
  have := (Lib.indexByte_some h).1
  exact (List.getElem?_eq_some_iff.1 this).1
set_option maxHeartbeats 1000000 in
theorem lockRead_nil (s : ByteArray) (h0 : s.size = 0) (w : World) :
    Calls Tryz.prog 73 #[.string s] w fun e w' => (∃ v, e = .returned (.tuple #[v, .int .i64 (Lk.readAs s).2]) ∧ NewPins w.heap.size w' v (Lk.readAs s).1) ∧ Below w.heap.size w w' := by
  have HR : Hid (Lk.readAs s = ([], 0)) := readAs_good (Lk.pins_nil h0) rfl
  have e : s = ⟨#[]⟩ := bytes_nil s h0
  subst e
  clear h0
  go_enter Tryz.func73, Tryz.ntmps73
  go_wp2_with fail
  refine (checkR_any _ [] _ (pins_none _)).mono ?_
  rintro e w2 ⟨rfl, hb2⟩
  rw [show Lk.chk [] = 0 from rfl]
  go_wp2
  go_ret2
  exact ⟨⟨_, by rw [HR.out]; rfl, by rw [HR.out]; exact new_none _ _⟩, hb2⟩
set_option maxHeartbeats 4000000 in
set_option maxRecDepth 100000 in
theorem lockRead_full (s : ByteArray) (hs : s.size ≤ 60000) (h0 : s.size ≠ 0) (w : World) (hE : Env w) :
    Calls Tryz.prog 73 #[.string s] w fun e w' => (∃ v, e = .returned (.tuple #[v, .int .i64 (Lk.readAs s).2]) ∧ NewPins w.heap.size w' v (Lk.readAs s).1) ∧ Below w.heap.size w w' := by
  have hne := bytes_ne s h0
  have H0 : Hid (s.size ≠ 0) := h0
  have HE : Hid (Env w) := hE
  have HWL : Hid (∀ x ∈ Lk.ws s, x.size ≤ 60000) := fun x hx => Nat.le_trans (Lk.ws_le s x hx) hs
  have hwl : (Lk.ws s).length ≤ 60001 := by rw [Lk.ws_len]; have := Lk.count_le s; omega
  clear h0 hE
  obtain ⟨i0, hi, hz0, hz1, hz2⟩ := info_parts Tryz.info91
  go_enter Tryz.func73, Tryz.ntmps73
  go_wp2_with fail
  refine (split_any s hs _ HE.out).mono ?_
  rintro e w1 ⟨rfl, hcell, hsz, hb1⟩
  have HC : Hid (∀ j x, (Lk.ws s)[j]? = some x → w1.cell? ⟨w.heap.size, j, none⟩ = some (.string x)) := hcell
  have HSZ : Hid (w1.heap.size = w.heap.size + 1) := hsz
  have HE1 : Hid (Env w1) := HE.out.below hb1
  clear hcell hsz HE
  have HB1 : Hid (Below w.heap.size w w1) := hb1
  clear hb1
  go_wp2_with fail
  go_loopg [4, 18] (Lk.ws s).length (fun g s4 s14 wr => ∃ k : Nat, ∃ l : List (Int × Int), k ≤ (Lk.ws s).length ∧ (Lk.ws s).length - k ≤ g ∧ s14 = .int .i64 k ∧ Hid (wr.ownsRow w1.heap.size 91 2 s4 l.length (flat l)) ∧ Hid (Lk.readTo s k l) ∧ Below w1.heap.size w1 wr)
  case atStart => exact ⟨0, [], Nat.zero_le _, by omega, rfl, World.ownsRow_nil _ _ _ _, Lk.readTo_zero s, Below.refl _ _⟩
  case round =>
    obtain ⟨k, l, hk, hg, rfl, HO, HR, hb⟩ := hrel
    by_cases hlt : k < (Lk.ws s).length
    · obtain ⟨x, hx⟩ : ∃ x, (Lk.ws s)[k]? = some x := ⟨_, List.getElem?_eq_getElem hlt⟩
      have HX : Hid ((Lk.ws s)[k]? = some x) := hx
      have hxs : x.size ≤ 60000 := HWL.out x (List.mem_of_getElem? hx)
      have c1 : wr.cell? ⟨w.heap.size, k, none⟩ = some (.string x) := (hb.cell (p := ⟨w.heap.size, k, none⟩) (by rw [HSZ.out]; show w.heap.size < _; omega)).trans (HC.out k x hx)
      have HEr : Hid (Env wr) := HE1.out.below hb
      have HBr : Hid (Below w1.heap.size w1 wr) := hb
      clear hx hb
      go_wp2_with fail
      refine (index_any x _).mono ?_
      rintro e w2 ⟨rfl, hw2⟩
      subst hw2
      rcases (show Lib.indexByte x.data.toList 64 = -1 ∨ ∃ n : Nat, Lib.indexByte x.data.toList 64 = n from by
          have := Lib.indexByte_ge x.data.toList 64
          by_cases h : Lib.indexByte x.data.toList 64 = -1
          · exact .inl h
          · exact .inr ⟨(Lib.indexByte x.data.toList 64).toNat, by omega⟩) with hix | ⟨n, hix⟩
      · have HN : Hid (Lk.readAs s = ([], 1)) := readAs_none (Lk.readTo_bad H0.out HX.out (Lk.pinOf_none _ hix))
        rw [hix]
        clear hix c1
        go_wp2
        go_ret2
        exact ⟨⟨_, by rw [HN.out]; rfl, by rw [HN.out]; exact new_none _ _⟩, HB1.out.trans (HBr.out.mono HB1.out.size)⟩
      · have hnx : n < x.size := index_lt _ _ hix
        have HIX : Hid (Lib.indexByte x.data.toList 64 = n) := hix
        rw [hix]
        clear hix c1
        go_wp2_with fail
        have hsa : (x.extract 0 n).size ≤ 60000 := by rw [ByteArray.size_extract]; omega
        refine (whole_any (x.extract 0 n) hsa _ HEr.out).mono ?_
        rintro e w3 ⟨⟨p1, rfl, hp1⟩, hb3⟩
        rw [ext_take] at hp1 ⊢
        have HP1 : Hid (∀ v, Lk.numOf (x.data.toList.take n) = some v → p1 = v) := hp1
        have HB3 : Hid (Below w2.heap.size w2 w3) := hb3
        have HE3 : Hid (Env w3) := HEr.out.below hb3
        generalize ho1 : (Lk.numOf (x.data.toList.take n)).isSome = o1
        have HO1 : Hid ((Lk.numOf (x.data.toList.take n)).isSome = o1) := ho1
        clear hp1 hb3 hsa ho1
        go_wp2_with fail
        have hsb : (x.extract (n + 1) x.size).size ≤ 60000 := by rw [ByteArray.size_extract]; omega
        refine (whole_any (x.extract (n + 1) x.size) hsb _ HE3.out).mono ?_
        rintro e w4 ⟨⟨p2, rfl, hp2⟩, hb4⟩
        rw [ext_drop] at hp2 ⊢
        have HP2 : Hid (∀ v, Lk.numOf (x.data.toList.drop (n + 1)) = some v → p2 = v) := hp2
        have HB4 : Hid (Below w2.heap.size w2 w4) := HB3.out.trans (hb4.mono HB3.out.size)
        generalize ho2 : (Lk.numOf (x.data.toList.drop (n + 1))).isSome = o2
        have HO2 : Hid ((Lk.numOf (x.data.toList.drop (n + 1))).isSome = o2) := ho2
        clear hp2 hb4 hsb ho2 HB3 HE3
        by_cases hoo : o1 = true ∧ o2 = true
        · obtain ⟨e1, e2⟩ := hoo
          have HPS : Hid (Lk.pinOf x.data.toList = some (p1, p2)) := Lk.pinOf_at_yes _ n p1 p2 HIX.out (HO1.out.trans e1) (HO2.out.trans e2) HP1.out HP2.out
          subst e1 e2
          clear HO1 HO2 HP1 HP2
          have hll : l.length ≤ 60001 := by rw [Lk.readTo_len HR.out hk]; omega
          have HOw := owns_below HO.out HB4.out
          have hw1 : w1.heap.size ≤ w4.heap.size := Nat.le_trans HBr.out.size HB4.out.size
          go_wp2_with (at_builtin; refine wpList_append_own _ rfl _ _ 25 rfl w1.heap.size 91 i0 (.agg #[.int .i64 0, .int .i64 0]) 2 16 Tryz.underlying25 hi hz0 hz1 hz2 rfl (by decide) _ l.length (flat l) rfl (HOw.alloc _) ⟨w4.heap.size, 0, none⟩ 1 1 [.int .i64 p1, .int .i64 p2] rfl rfl ?c1 ?c2 ?c3 ?c4 ?c5 ?_)
          case c1 =>
            intro j u hj
            rcases j with _ | _ | j
            · simp at hj; subst hj; simp [go_sem, Addr.add]
            · simp at hj; subst hj; simp [go_sem, Addr.add]
            · simp at hj
          case c2 =>
            intro u hu
            simp only [List.mem_cons, List.not_mem_nil, or_false] at hu
            rcases hu with rfl | rfl <;> rfl
          case c3 => unfold maxLen; omega
          case c4 => omega
          case c5 => simp; omega
          intro v' w5 hown hgrow _
          have HO3 : Hid (w5.ownsRow w1.heap.size 91 2 v' (l ++ [(p1, p2)]).length (flat (l ++ [(p1, p2)]))) := by
            rw [flat_append, List.length_append]; exact hown
          have hb3 : Below w1.heap.size w1 w5 := ((HBr.out.trans (HB4.out.mono HBr.out.size)).alloc hw1 _).grown hgrow (by simp; omega) (fun q hq => (HO.out.lt q hq).1)
          have HR3 : Hid (Lk.readTo s (k + 1) (l ++ [(p1, p2)])) := Lk.readTo_next HR.out HX.out HPS.out
          clear hown hgrow HOw HO HR HPS
          go_wp2
          go_roundg ((Lk.ws s).length - (k + 1))
          case measure => omega
          case rel => exact ⟨k + 1, l ++ [(p1, p2)], by omega, by omega, by go_num, HO3, HR3, hb3⟩
        · have HN : Hid (Lk.readAs s = ([], 1)) := readAs_none (Lk.readTo_bad H0.out HX.out (Lk.pinOf_at_no _ n HIX.out (by
            rw [HO1.out, HO2.out]
            cases o1
            · exact .inl rfl
            · cases o2
              · exact .inr rfl
              · exact absurd ⟨rfl, rfl⟩ hoo)))
          clear HO1 HO2 HP1 HP2
          have hfin : Below w.heap.size w w4 := (HB1.out.trans (HBr.out.mono HB1.out.size)).trans (HB4.out.mono (Nat.le_trans HB1.out.size HBr.out.size))
          cases o1
          · clear hoo
            go_wp2
            go_ret2
            exact ⟨⟨_, by rw [HN.out]; rfl, by rw [HN.out]; exact new_none _ _⟩, hfin⟩
          · cases o2
            · clear hoo
              go_wp2
              go_ret2
              exact ⟨⟨_, by rw [HN.out]; rfl, by rw [HN.out]; exact new_none _ _⟩, hfin⟩
            · exact absurd ⟨rfl, rfl⟩ hoo
    · have hk' : k = (Lk.ws s).length := by omega
      subst hk'
      have HA : Hid (Lk.pins s = some l) := Lk.readTo_all H0.out HR.out
      have HBr : Hid (Below w.heap.size w wr) := HB1.out.trans (hb.mono HB1.out.size)
      have hll : l.length ≤ 60001 := by rw [Lk.readTo_len HR.out hk]; exact hwl
      have HPA : Hid (NewPins w.heap.size wr u4 l) := ⟨pins_of_owns HO.out (by omega), (fresh_of_owns HO.out).mono HB1.out.size⟩
      clear hk hlt hb HR hg hll
      go_wp2_with fail
      refine (checkR_any _ l _ HPA.out.1).mono ?_
      rintro e w5 ⟨rfl, hb5⟩
      by_cases hc : Lk.chk l = 0
      · have HR : Hid (Lk.readAs s = (l, 0)) := readAs_good HA.out hc
        have HP2 : Hid (NewPins w.heap.size w5 u4 l) := HPA.out.below hb5
        rw [hc]
        clear hc
        go_wp2
        go_ret2
        exact ⟨⟨_, by rw [HR.out]; rfl, by rw [HR.out]; exact HP2.out⟩, HBr.out.trans (hb5.mono HBr.out.size)⟩
      · have HR : Hid (Lk.readAs s = ([], Lk.chk l)) := readAs_bad HA.out hc
        generalize Lk.chk l = c at hc HR
        have hc' : (c != 0) = true := by simpa using hc
        clear hc
        go_wp2
        go_ret2
        exact ⟨⟨_, by rw [HR.out]; rfl, by rw [HR.out]; exact new_none _ _⟩, HBr.out.trans (hb5.mono HBr.out.size)⟩
theorem lockRead_new (s : ByteArray) (hs : s.size ≤ 60000) (w : World) (hE : Env w) :
    Calls Tryz.prog 73 #[.string s] w fun e w' => (∃ v, e = .returned (.tuple #[v, .int .i64 (Lk.readAs s).2]) ∧ NewPins w.heap.size w' v (Lk.readAs s).1) ∧ Below w.heap.size w w' := by
  by_cases h0 : s.size = 0
  · exact lockRead_nil s h0 w
  · exact lockRead_full s hs h0 w hE
theorem lockRead_any (s : ByteArray) (hs : s.size ≤ 60000) (w : World) (hE : Env w) :
    Calls Tryz.prog 73 #[.string s] w fun e w' => (∃ v, e = .returned (.tuple #[v, .int .i64 (Lk.readAs s).2]) ∧ PinsAt w' v (Lk.readAs s).1) ∧ Below w.heap.size w w' := by
  refine (lockRead_new s hs w hE).mono ?_
  rintro e w' ⟨⟨v, he, h⟩, hb⟩
  exact ⟨⟨v, he, h.1⟩, hb⟩
end Go.Proofs.YtlnbcgjahjjpfacGreatDoor
