/- The contract of disk.joined; what '[]byte(s)' lays. -/
import Derived.Test.YtlnbcgjahjjpfacGreatDoorMD
import Derived.Laws.CopyOwn
import Derived.Laws.IdiomStrings
import Derived.OwnWalk
namespace Go.Proofs.YtlnbcgjahjjpfacGreatDoor
open Go.RowKit
theorem Tryz.info5 : (Tryz.prog.info? 5).map (fun i => (i.zero, i.size, i.bytes)) = some (some (.int .u8 0), 1, 1) := by kernel_rfl
theorem splice_two {α : Type} (Z X Y : List α) (k : Nat) (hk : X.length = k) (hZ : Z.length = k + Y.length) : splice (splice Z 0 X) k Y = X ++ Y := by
  subst hk
  unfold splice
  have e1 : Z.take 0 ++ (X ++ Z.drop (0 + X.length)) = X ++ Z.drop X.length := by simp
  have e2 : (X ++ Z.drop X.length).drop (X.length + Y.length) = [] := List.drop_eq_nil_of_le (by simp; omega)
  rw [e1, List.take_left, e2, List.append_nil]
def cellsB (l : List UInt8) : List Value := (numsB l).map (Value.int .u8)
theorem cellsB_len (l : List UInt8) : (cellsB l).length = l.length := by simp [cellsB, numsB]
theorem cellsB_at (l : List UInt8) (j : Nat) (hj : j < l.length) : (cellsB l)[j]? = some (.int .u8 ((l.getD j 0).toNat : Int)) := by
  unfold cellsB numsB
  simp [List.getElem?_eq_getElem hj]
theorem cellsB_app (l m : List UInt8) : cellsB (l ++ m) = cellsB l ++ cellsB m := by simp [cellsB, numsB]
theorem cellsB_one (l : List UInt8) : ∀ v ∈ cellsB l, v.oneCell' = true := by
  intro v hv
  obtain ⟨x, _, rfl⟩ := List.mem_map.1 hv
  rfl
theorem bytes_src {w : World} {p : Option Addr} {n c : Nat} {l : List UInt8} (h : BytesAt w (.slice p n c) l) (h0 : 0 < l.length) : ∃ ad, p = some ad ∧ ∀ j v, (cellsB l)[j]? = some v → w.cell? (ad.add j) = some v := by
  obtain ⟨_, c', _, ⟨rfl, _⟩ | ⟨b, o, e, _, h3⟩⟩ := h
  · simp at h0
  · simp only [Value.slice.injEq] at e
    obtain ⟨rfl, _, _⟩ := e
    refine ⟨⟨b, o, none⟩, rfl, fun j v hv => ?_⟩
    have hj : j < l.length := by
      have := (List.getElem?_eq_some_iff.1 hv).1
      rwa [cellsB_len] at this
    rw [cellsB_at l j hj] at hv
    rw [WideShapes.add_plain, h3 j hj, hv]
theorem bytes_row {w : World} {N g n c : Nat} {l : List UInt8} {cur : Array Value} {t : TypeId} {fr : Nat × Nat} (hN : N ≤ g) (hl : l.length ≤ 140737488355328) (hn : n = l.length) (hc : l.length ≤ c) (h : w.heap[g]? = some (.cells cur t fr))
    (hcur : ∀ j, j < l.length → cur[j]? = (cellsB l)[j]?) : NewBytes N w (.slice (some ⟨g, 0, none⟩) n c) l := by
  subst hn
  refine ⟨⟨hl, c, hc, .inr ⟨g, 0, rfl, (Array.getElem?_eq_some_iff.1 h).1, fun j hj => ?_⟩⟩, fun b o n' c' e => ?_⟩
  · rw [Nat.zero_add, ← cellsB_at l j hj, ← hcur j hj]
    simp [World.cell?, h]
  · simp only [Value.slice.injEq, Option.some.injEq, Addr.mk.injEq] at e
    omega
theorem made_row {w : World} {B e g n : Nat} {xs : List Value} (h : w.ownsRow B e 1 (.slice (some ⟨g, 0, none⟩) n n) n xs) : ∃ Z : List Value, Z.length = n ∧ w.heap[g]? = some (.cells Z.toArray e (0, 0)) := by
  rcases h.2 with ⟨h1, _⟩ | ⟨g', cap, cur, h1, _, h3, _, _, h6, _⟩
  · simp at h1
  · simp only [Value.slice.injEq, Option.some.injEq, Addr.mk.injEq] at h1
    obtain ⟨⟨rfl, _⟩, _, rfl⟩ := h1
    exact ⟨cur.toList, by rw [Array.length_toList, h6, Nat.mul_one], by rw [h3]⟩
set_option maxHeartbeats 2000000 in
set_option maxRecDepth 100000 in
theorem joined_any (v u : Value) (l m : List UInt8) (w : World) (hP : BytesAt w v l) (hQ : BytesAt w u m) (hlm : l.length + m.length ≤ 1000000) :
    Calls Tryz.prog 27 #[v, u] w fun e w' => (∃ x, e = .returned x ∧ NewBytes w.heap.size w' x (l ++ m)) ∧ Below w.heap.size w w' := by
  obtain ⟨p, c, rfl⟩ := bytes_slice hP
  obtain ⟨q, d, rfl⟩ := bytes_slice hQ
  have HP : Hid (BytesAt w (.slice p l.length c) l) := hP
  have HQ : Hid (BytesAt w (.slice q m.length d) m) := hQ
  clear hP hQ
  obtain ⟨i0, hi, hz0, hz1, hz2⟩ := info_parts Tryz.info5
  have hbb : i0.bytes * (l.length + m.length) ≤ 281474976710656 := by rw [hz2]; omega
  have hsz : (Tryz.prog.info? 5).map (·.size) = some 1 := by rw [hi]; simp [hz1]
  go_enter Tryz.func27, Tryz.ntmps27
  go_wp2_with (at_make; refine wpList_make_full _ rfl (.tmp 10) (.tmp 10) 22 rfl w.heap.size 5 i0 (.int .u8 0) 1 Tryz.underlying22 hi hz0 hz1 .i64 .i64 _ _ (l.length + m.length) rfl rfl (by omega) (by omega) hbb (by unfold maxLen; omega) (Nat.le_refl _) ?_)
  intro w2 hown hgrow
  obtain ⟨Z, hZl, hZ⟩ := made_row hown
  have HZ : Hid (w2.heap[w.heap.size]? = some (.cells Z.toArray 5 (0, 0))) := hZ
  have HZL : Hid (Z.length = l.length + m.length) := hZl
  have HB2 : Hid (Below w.heap.size w w2) := (Below.refl _ _).grown hgrow (Nat.le_refl _) (fun k hk => by cases hk)
  clear hown hgrow hZ hZl hbb
  obtain ⟨X1, hX1⟩ : ∃ X, X = cellsB l := ⟨_, rfl⟩
  obtain ⟨X2, hX2⟩ : ∃ X, X = cellsB m := ⟨_, rfl⟩
  have HX1 : Hid (X1 = cellsB l) := hX1
  have HX2 : Hid (X2 = cellsB m) := hX2
  have HL1 : Hid (X1.length = l.length) := by show X1.length = _; rw [hX1, cellsB_len]
  have HL2 : Hid (X2.length = m.length) := by show X2.length = _; rw [hX2, cellsB_len]
  clear hX1 hX2
  go_wp2_with (guard_target = wpList _ _ _ (Oper.mk _ (Op.call { callee := .builtin .copy, args := _, argTypes := _ }) _ _ _ _ :: _) _ _; refine wpList_copy_splice rfl (.tmp 12) (.tmp 13) 22 22 rfl 5 Tryz.underlying22 hsz _ _ _ _ _ _ rfl rfl w.heap.size 0 Z 5 HZ.out X1 ?k1 ?k2 ?k3 ?k4 w.heap.size w HB2.out (Nat.le_refl _) ?_)
  case k1 => rw [HL1.out]; exact (Nat.min_eq_left (by omega)).symm
  case k2 =>
    intro h0
    obtain ⟨ad, e1, e2⟩ := bytes_src (HP.out.below HB2.out) (by rw [← HL1.out]; exact h0)
    exact ⟨ad, e1, by rw [HX1.out]; exact e2⟩
  case k3 => rw [HL1.out, HZL.out]; omega
  case k4 => rw [HX1.out]; exact cellsB_one l
  intro w3 HG3 hB3
  have HB3 : Hid (Below w.heap.size w w3) := hB3
  clear hB3 HB2 HZ
  go_wp2_with (guard_target = wpList _ _ _ (Oper.mk _ (Op.call { callee := .builtin .copy, args := _, argTypes := _ }) _ _ _ _ :: _) _ _; refine wpList_copy_splice rfl (.tmp 18) (.tmp 19) 22 22 rfl 5 Tryz.underlying22 hsz _ _ _ _ _ _ rfl rfl w.heap.size l.length (splice Z 0 X1) 5 HG3.out X2 ?k1 ?k2 ?k3 ?k4 w.heap.size w HB3.out (Nat.le_refl _) ?_)
  case k1 => rw [HL2.out]; exact (Nat.min_self _).symm
  case k2.inl =>
    intro h0
    have h1 := HL2.out
    have h2 : m = [] := by assumption
    rw [h2] at h1
    simp only [List.length_nil] at h1
    exact absurd h0 (by omega)
  case k2.inr =>
    intro h0
    obtain ⟨ad, e1, e2⟩ := bytes_src (HQ.out.below HB3.out) (by rw [← HL2.out]; exact h0)
    exact ⟨ad, e1, by rw [HX2.out]; exact e2⟩
  case k3 => rw [length_splice _ _ _ (by rw [HL1.out, HZL.out]; omega), HZL.out, HL2.out]; exact Nat.le_refl _
  case k4 => rw [HX2.out]; exact cellsB_one m
  all_goals
    intro w4 HG4 hB4
    go_wp2
    go_ret
    refine ⟨⟨_, rfl, bytes_row (Nat.le_refl _) (by simp; omega) (by first | (simp; done) | (have hm : m = [] := (by assumption); simp [hm]; done)) (by first | (simp; done) | (have hm : m = [] := (by assumption); simp [hm]; done)) HG4.out ?_⟩, hB4⟩
    rw [splice_two Z X1 X2 l.length HL1.out (by rw [HZL.out, HL2.out]), HX1.out, HX2.out, ← cellsB_app]
    intro j _
    simp
/-- '[]byte(s)' -/
theorem bytes_conv (w : World) (s : ByteArray) (hs : s.size ≤ 1000000) :
    ∃ c w', (convert 9 22 (.string s)).run Tryz.prog w = .ok (.slice (some ⟨w.heap.size, 0, none⟩) s.size c) w' ∧ NewBytes w.heap.size w' (.slice (some ⟨w.heap.size, 0, none⟩) s.size c) s.data.toList ∧ Below w.heap.size w w' := by
  refine ⟨_, _, run_bytes_of_string w 9 22 5 s Tryz.underlying9 Tryz.underlying22 Tryz.underlying5, ?_, ?_⟩
  · have hsz : s.data.toList.length = s.size := rfl
    refine bytes_row (Nat.le_refl _) (by rw [hsz]; omega) hsz.symm (by rw [hsz]; exact grownCap_ge _ _ _ _) (heap_alloc_new w.drew _) (fun j hj => ?_)
    rw [cellsB_at _ _ hj]
    have hj' : j < s.data.size := by simpa using hj
    unfold bytesRow
    rw [Array.getElem?_append_left (by simpa using hj'), Array.getElem?_map, Array.getElem?_eq_getElem hj', Option.map_some]
    congr 3
    simp [List.getD_eq_getElem?_getD, Array.getElem?_eq_getElem hj']
  · exact (Below.refl _ w).drew.alloc (by simp) _
end Go.Proofs.YtlnbcgjahjjpfacGreatDoor
