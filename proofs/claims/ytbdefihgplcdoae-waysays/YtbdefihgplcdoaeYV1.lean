/- The contracts of whole.Mail, way.checkOne. -/
import Derived.Test.YtbdefihgplcdoaeMR
namespace Go.Proofs.Ytbdefihgplcdoae
open Go.RowKit
set_option maxHeartbeats 4000000 in
theorem wMail_any (m : Wy.Mail) (v : Value) (w : World) (hP : PinsAt w v m.lock) (hl : m.lock.length ≤ 12) :
    Calls Try.prog 45 #[mailV m v] w fun e w' => (∃ y, e = .returned (mailV m y) ∧ PinsNew w' w.heap.size y m.lock) ∧ Below w.heap.size w w' := by
  obtain ⟨a, c, rfl⟩ := pins_slice hP
  obtain ⟨ag, tr, rp, gd, id, l⟩ := m
  unfold mailV
  simp only at hP hl ⊢
  have HC : Hid (∀ w', Below w.heap.size w w' → Calls Try.prog 39 #[.agg #[.int .i64 id, .slice a l.length c]] w' fun e w'' => (∃ y, e = .returned (.agg #[.int .i64 id, y]) ∧ PinsNew w'' w'.heap.size y l) ∧ Below w'.heap.size w' w'') := fun w' hb => wRel_any id _ l w' (hP.below hb) hl
  clear hP hl
  generalize hn : l.length = n at HC ⊢
  obtain ⟨hB0, hK0, hZ0⟩ := box2 w #[.int .i64 ag, .int .i64 tr, .bool rp, .bool gd, .int .i64 id, .slice a n c] #[.int .i64 0, .int .i64 0, .bool false, .bool false, .int .i64 0, .slice none 0 0] 52 52
  have HB0 : Hid (Below w.heap.size w _) := hB0
  have HK0 : Hid (Blk _ w.heap.size _ _) := hK0
  have HZ0 : Hid (Blk _ (w.heap.size + 1) _ _) := hZ0
  clear hB0 hK0 hZ0
  go_enter Try.func45, Try.ntmps45
  go_wp2_with fail
  generalize ((w.alloc (.cells #[.int .i64 ag, .int .i64 tr, .bool rp, .bool gd, .int .i64 id, .slice a n c] 52)).alloc (.cells #[.int .i64 0, .int .i64 0, .bool false, .bool false, .int .i64 0, .slice none 0 0] 52)) = W at HB0 HK0 HZ0 ⊢
  refine (HC.out _ HB0.out).mono ?_
  rintro e w1 ⟨⟨y, rfl, hy⟩, hb1⟩
  obtain ⟨ya, yc, rfl⟩ := pins_slice hy.pins
  have HY : Hid (PinsNew w1 W.heap.size (.slice ya l.length yc) l) := hy
  rw [hn] at HY ⊢
  have HB1 : Hid (Below w.heap.size w w1) := HB0.out.trans (hb1.mono HB0.out.size)
  have hk := HK0.out.below hb1
  have hz := HZ0.out.below hb1
  have HL1 : Hid (w.heap.size < W.heap.size) := HK0.out.lt
  have HL2 : Hid (w.heap.size + 1 < W.heap.size) := HZ0.out.lt
  clear hy hb1 HB0 HK0 HZ0 HC hn
  have k0 := hk.cell 0
  have k1 := hk.cell 1
  have k2 := hk.cell 2
  have k3 := hk.cell 3
  have k4 := hk.cell 4
  have k5 := hk.cell 5
  simp only [List.getElem?_toArray, List.getElem?_cons_zero, List.getElem?_cons_succ] at k0 k1 k2 k3 k4 k5
  have kf0 := hk.free 0
  have kf1 := hk.free 1
  have kf2 := hk.free 2
  have kf3 := hk.free 3
  have kf4 := hk.free 4
  have kf5 := hk.free 5
  have d0 := hz.cell 0
  have d1 := hz.cell 1
  have d2 := hz.cell 2
  have d3 := hz.cell 3
  have d4 := hz.cell 4
  have d5 := hz.cell 5
  simp only [List.getElem?_toArray, List.getElem?_cons_zero, List.getElem?_cons_succ] at d0 d1 d2 d3 d4 d5
  have df0 := hz.free 0
  have df1 := hz.free 1
  have df2 := hz.free 2
  have df3 := hz.free 3
  have df4 := hz.free 4
  have df5 := hz.free 5
  clear hk hz
  go_wp2
  refine bodyPost_ret (v := .agg #[.int .i64 ag, .int .i64 tr, .bool rp, .bool gd, .int .i64 id, .slice ya n yc]) (by simp [results, Try.results45, go_sem, d0, d1, d2, d3, d4, d5]) rfl ⟨⟨_, rfl, ?_⟩, ?_⟩
  · exact ((((((((HY.out.set HL1.out).set HL1.out).set HL2.out).set HL2.out).set HL2.out).set HL2.out).set HL2.out).set HL2.out).mono (Nat.le_of_lt HL1.out)
  · exact ((((((((HB1.out.setCell (Nat.le_refl _) _).setCell (Nat.le_refl _) _).setCell (Nat.le_succ _) _).setCell (Nat.le_succ _) _).setCell (Nat.le_succ _) _).setCell (Nat.le_succ _) _).setCell (Nat.le_succ _) _).setCell (Nat.le_succ _) _)
set_option maxHeartbeats 4000000 in
theorem chkOne_any (m : Wy.Mail) (v : Value) (w : World) (hP : PinsAt w v m.lock) :
    Calls Try.prog 42 #[mailV m v] w fun e w' => e = .returned (.int .i64 (Wy.chk1 m)) ∧ Below w.heap.size w w' := by
  obtain ⟨a, c, rfl⟩ := pins_slice hP
  obtain ⟨ag, tr, rp, gd, id, l⟩ := m
  unfold mailV
  simp only at hP ⊢
  have HR : Hid (∀ w', Below w.heap.size w w' → Calls Try.prog 53 #[.agg #[.int .i64 id, .slice a l.length c]] w' fun e w'' => e = .returned (.int .i64 (Lk.chkRel id l)) ∧ Below w'.heap.size w' w'') := fun w' hb => release_any id _ l w' (hP.below hb)
  have HA : Hid (∀ w', Below w.heap.size w w' → Calls Try.prog 57 #[.agg #[.int .i64 id, .slice a l.length c], .agg #[.int .i64 0, .slice none 0 0]] w' fun e w'' => e = .returned (.bool (Lk.alike id l 0 [])) ∧ Below w'.heap.size w' w'') := fun w' hb => alike_any id 0 _ _ l [] w' (hP.below hb) (pins_none _)
  have HQ : Hid (Wy.chk1 ⟨ag, tr, rp, gd, id, l⟩ = if (Lk.within ag 0 5 && Lk.within tr 1 200) = true then (if rp = true then (if Lk.alike id l 0 [] = true then 0 else 4) else if gd = true then 4 else Lk.chkRel id l) else 3) := rfl
  clear hP
  generalize Wy.chk1 ⟨ag, tr, rp, gd, id, l⟩ = Q at HQ ⊢
  generalize Lk.alike id l 0 [] = AL at HA HQ
  generalize Lk.chkRel id l = CR at HR HQ
  generalize l.length = n at HR HA ⊢
  obtain ⟨hB0, hK0⟩ := box1 w #[.int .i64 ag, .int .i64 tr, .bool rp, .bool gd, .int .i64 id, .slice a n c] 52
  have k0 := hK0.cell 0
  have k1 := hK0.cell 1
  have k2 := hK0.cell 2
  have k3 := hK0.cell 3
  have k4 := hK0.cell 4
  have k5 := hK0.cell 5
  simp only [List.getElem?_toArray, List.getElem?_cons_zero, List.getElem?_cons_succ] at k0 k1 k2 k3 k4 k5
  have HB0 : Hid (Below w.heap.size w _) := hB0
  have HK0 : Hid (Blk _ w.heap.size _ _) := hK0
  clear hB0 hK0
  by_cases h1 : 0 ≤ ag
  rotate_left
  · have HN : Hid (Q = 3) := by show _ = _; rw [HQ.out, if_neg (by simp [Lk.within]; omega)]
    have h1' : ag < 0 := by omega
    clear HQ HR HA k1 k2 k3 k4 k5
    go_enter Try.func42, Try.ntmps42
    go_wp2
    go_ret
    exact ⟨by rw [HN.out]; rfl, HB0.out⟩
  by_cases h2 : ag ≤ 5
  rotate_left
  · have HN : Hid (Q = 3) := by show _ = _; rw [HQ.out, if_neg (by simp [Lk.within]; omega)]
    have h2' : decide (ag ≤ 5) = false := decide_eq_false h2
    clear HQ HR HA k1 k2 k3 k4 k5
    go_enter Try.func42, Try.ntmps42
    go_wp2
    go_ret
    exact ⟨by rw [HN.out]; rfl, HB0.out⟩
  by_cases h3 : 1 ≤ tr
  rotate_left
  · have HN : Hid (Q = 3) := by show _ = _; rw [HQ.out, if_neg (by simp [Lk.within]; omega)]
    have h3' : tr < 1 := by omega
    clear HQ HR HA k2 k3 k4 k5
    go_enter Try.func42, Try.ntmps42
    go_wp2
    go_ret
    exact ⟨by rw [HN.out]; rfl, HB0.out⟩
  by_cases h4 : tr ≤ 200
  rotate_left
  · have HN : Hid (Q = 3) := by show _ = _; rw [HQ.out, if_neg (by simp [Lk.within]; omega)]
    have h4' : decide (tr ≤ 200) = false := decide_eq_false h4
    clear HQ HR HA k2 k3 k4 k5
    go_enter Try.func42, Try.ntmps42
    go_wp2
    go_ret
    exact ⟨by rw [HN.out]; rfl, HB0.out⟩
  have HQ' : Hid (Q = if rp = true then (if AL = true then 0 else 4) else if gd = true then 4 else CR) := by show _ = _; rw [HQ.out, if_pos (by simp [Lk.within]; omega)]
  clear HQ
  cases rp
  · cases gd
    · have HN : Hid (Q = CR) := by show _ = _; rw [HQ'.out, if_neg (by decide), if_neg (by decide)]
      clear HQ' HA
      go_enter Try.func42, Try.ntmps42
      go_wp2_with (first | (go_at_call 53; refine (HR.out _ HB0.out).mono ?_; rintro e w1 ⟨rfl, hb1⟩) | go_in)
      have HB1 : Hid (Below w.heap.size w w1) := HB0.out.trans (hb1.mono HB0.out.size)
      clear hb1
      go_wp2
      go_ret
      exact ⟨by rw [HN.out]; rfl, HB1.out⟩
    · have HN : Hid (Q = 4) := by show _ = _; rw [HQ'.out, if_neg (by decide), if_pos rfl]
      clear HQ' HA HR
      go_enter Try.func42, Try.ntmps42
      go_wp2
      go_ret
      exact ⟨by rw [HN.out]; rfl, HB0.out⟩
  · have HN : Hid (Q = if AL = true then 0 else 4) := by show _ = _; rw [HQ'.out, if_pos rfl]
    clear HQ' HR
    cases AL
    · have HM : Hid (Q = 4) := by show _ = _; rw [HN.out, if_neg (by decide)]
      go_enter Try.func42, Try.ntmps42
      go_wp2_with (first | (go_at_call 57; refine (HA.out _ HB0.out).mono ?_; rintro e w1 ⟨rfl, hb1⟩; have HB1 : Hid (Below w.heap.size w w1) := HB0.out.trans (hb1.mono HB0.out.size); have hk1 := HK0.out.below hb1; have e2 := hk1.cell 2; have e3 := hk1.cell 3; simp only [List.getElem?_toArray, List.getElem?_cons_zero, List.getElem?_cons_succ] at e2 e3; clear hb1 hk1 k0 k1 k2 k3 k4 k5 HA HK0) | go_in)
      go_ret
      exact ⟨by rw [HM.out]; rfl, HB1.out⟩
    · have HM : Hid (Q = 0) := by show _ = _; rw [HN.out, if_pos rfl]
      go_enter Try.func42, Try.ntmps42
      go_wp2_with (first | (go_at_call 57; refine (HA.out _ HB0.out).mono ?_; rintro e w1 ⟨rfl, hb1⟩; have HB1 : Hid (Below w.heap.size w w1) := HB0.out.trans (hb1.mono HB0.out.size); have hk1 := HK0.out.below hb1; have e2 := hk1.cell 2; have e3 := hk1.cell 3; simp only [List.getElem?_toArray, List.getElem?_cons_zero, List.getElem?_cons_succ] at e2 e3; clear hb1 hk1 k0 k1 k2 k3 k4 k5 HA HK0) | go_in)
      go_ret
      exact ⟨by rw [HM.out]; rfl, HB1.out⟩
end Go.Proofs.Ytbdefihgplcdoae
