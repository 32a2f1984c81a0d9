/- The contract of the document's Stepped. -/
import Derived.Test.YtbnaaookeagjgaaT9
import Derived.Test.YtbnaaookeagjgaaT7
namespace Go.Proofs.Ytbnaaookeagjgaa
open Go.RowKit
set_option maxHeartbeats 2000000 in
theorem stepped_lock (vl : Value) (l : List (Int × Int)) (k n x : Int) (w : World) (hP : PinsAt w vl l) (he : Lk.chk l ≠ 0) :
    Calls Try.prog 33 #[vl, .agg #[.int .i64 k, .int .i64 n, .int .i64 x]] w fun e w' => e = .returned (.tuple #[.slice none 0 0, .int .i64 (Lk.chk l)]) ∧ Below w.heap.size w w' := by
  have hb0 : Below w.heap.size w (w.alloc (.cells #[.int .i64 k, .int .i64 n, .int .i64 x] 43)) := (Below.refl _ w).alloc (Nat.le_refl _) _
  have he' : (Lk.chk l != 0) = true := by simpa using he
  have HC := checkR_any _ _ _ (hP.below hb0)
  clear he
  go_enter Try.func33, Try.ntmps33
  go_wp2_with fail
  refine HC.mono ?_
  rintro e w1 ⟨rfl, hb1⟩
  go_wp2
  go_ret2
  exact ⟨rfl, hb0.trans (hb1.mono hb0.size)⟩
set_option maxHeartbeats 2000000 in
theorem stepped_kind (vl : Value) (l : List (Int × Int)) (k n x : Int) (w : World) (hP : PinsAt w vl l) (hc : Lk.chk l = 0) (hk : k < 1 ∨ (1 ≤ k ∧ 3 < k)) :
    Calls Try.prog 33 #[vl, .agg #[.int .i64 k, .int .i64 n, .int .i64 x]] w fun e w' => e = .returned (.tuple #[.slice none 0 0, .int .i64 4]) ∧ Below w.heap.size w w' := by
  have hb0 : Below w.heap.size w (w.alloc (.cells #[.int .i64 k, .int .i64 n, .int .i64 x] 43)) := (Below.refl _ w).alloc (Nat.le_refl _) _
  have HC := checkR_any _ _ _ (hP.below hb0)
  have HO : Hid (OpAt (w.alloc (.cells #[.int .i64 k, .int .i64 n, .int .i64 x] 43)) w.heap.size k n x) := ⟨by simp [go_sem], by simp [go_sem], by simp [go_sem]⟩
  rw [hc] at HC
  clear hc
  rcases hk with hk | ⟨hk1, hk2⟩
  all_goals
    try (have hd3 : decide (k ≤ 3) = false := decide_eq_false (by omega))
    go_enter Try.func33, Try.ntmps33
    go_wp2_with fail
    refine HC.mono ?_
    rintro e w1 ⟨rfl, hb1⟩
    obtain ⟨c0, c1, c2⟩ := HO.out.below hb1 (by simp)
    go_wp2
    go_ret2
    exact ⟨rfl, hb0.trans (hb1.mono hb0.size)⟩
set_option maxHeartbeats 4000000 in
theorem stepped_range (vl : Value) (l : List (Int × Int)) (k n x : Int) (w : World) (hP : PinsAt w vl l) (hc : Lk.chk l = 0) (hk : 1 ≤ k ∧ k ≤ 3)
    (hr : n < 1 ∨ (1 ≤ n ∧ 20 < n) ∨ (1 ≤ n ∧ n ≤ 20 ∧ ((k = 2 ∧ x ≠ 0) ∨ (k ≠ 2 ∧ (x < 1 ∨ (1 ≤ x ∧ 99 < x)))))) :
    Calls Try.prog 33 #[vl, .agg #[.int .i64 k, .int .i64 n, .int .i64 x]] w fun e w' => e = .returned (.tuple #[.slice none 0 0, .int .i64 3]) ∧ Below w.heap.size w w' := by
  have hb0 : Below w.heap.size w (w.alloc (.cells #[.int .i64 k, .int .i64 n, .int .i64 x] 43)) := (Below.refl _ w).alloc (Nat.le_refl _) _
  have HC := checkR_any _ _ _ (hP.below hb0)
  have HO : Hid (OpAt (w.alloc (.cells #[.int .i64 k, .int .i64 n, .int .i64 x] 43)) w.heap.size k n x) := ⟨by simp [go_sem], by simp [go_sem], by simp [go_sem]⟩
  rw [hc] at HC
  clear hc
  obtain ⟨hk1, hk2⟩ := hk
  rcases hr with hr | ⟨hr1, hr2⟩ | ⟨hr1, hr2, ⟨rfl, hx⟩ | ⟨h2, hx | ⟨hx1, hx2⟩⟩⟩
  all_goals
    try (have hd20 : decide (n ≤ 20) = false := decide_eq_false (by omega))
    try (have hd99 : decide (x ≤ 99) = false := decide_eq_false (by omega))
    try (have hx0 : (x != 0) = true := by simpa using hx)
    try (have hk2a : (k == 2) = false := by simpa using h2)
    try (have hk2b : (k != 2) = true := by simpa using h2)
    try clear h2
    go_enter Try.func33, Try.ntmps33
    go_wp2_with fail
    refine HC.mono ?_
    rintro e w1 ⟨rfl, hb1⟩
    obtain ⟨c0, c1, c2⟩ := HO.out.below hb1 (by simp)
    go_wp2
    go_ret2
    exact ⟨rfl, hb0.trans (hb1.mono hb0.size)⟩
set_option maxHeartbeats 8000000 in
theorem stepped_fit (vl : Value) (l : List (Int × Int)) (k x : Int) (n : Nat) (w : World) (hP : PinsAt w vl l) (hc : Lk.chk l = 0) (hk : 1 ≤ k ∧ k ≤ 3) (hn : 1 ≤ n ∧ n ≤ 20)
    (hx : (k = 2 ∧ x = 0) ∨ (k ≠ 2 ∧ 1 ≤ x ∧ x ≤ 99)) (E : Int) (hE : Dk.fitErr l (k, (n : Int), x) = E) :
    Calls Try.prog 33 #[vl, .agg #[.int .i64 k, .int .i64 n, .int .i64 x]] w fun e w' => (∃ y, e = .returned (.tuple #[y, .int .i64 E]) ∧ PinsNew w' w.heap.size y (if E = 0 then Dk.pinsOf ((Dk.tb l).set n x) else [])) ∧ Below w.heap.size w w' := by
  obtain ⟨A, ba, oa, ca, rfl, -, -, -⟩ := hP.open
  have hb0 : Below w.heap.size w (w.alloc (.cells #[.int .i64 k, .int .i64 (n : Int), .int .i64 x] 43)) := (Below.refl _ w).alloc (Nat.le_refl _) _
  have HC := checkR_any _ _ _ (hP.below hb0)
  rw [hc] at HC
  have HC' : Hid (Calls Try.prog 34 #[.slice A l.length ca] (w.alloc (.cells #[.int .i64 k, .int .i64 (n : Int), .int .i64 x] 43)) fun e w' => e = .returned (.int .i64 0) ∧ Below (w.alloc (.cells #[.int .i64 k, .int .i64 (n : Int), .int .i64 x] 43)).heap.size (w.alloc (.cells #[.int .i64 k, .int .i64 (n : Int), .int .i64 x] 43)) w') := HC
  have HO : Hid (OpAt (w.alloc (.cells #[.int .i64 k, .int .i64 (n : Int), .int .i64 x] 43)) w.heap.size k n x) := ⟨by simp [go_sem], by simp [go_sem], by simp [go_sem]⟩
  have HB0 : Hid (Below w.heap.size w (w.alloc (.cells #[.int .i64 k, .int .i64 (n : Int), .int .i64 x] 43))) := hb0
  have HP : Hid (PinsAt (w.alloc (.cells #[.int .i64 k, .int .i64 (n : Int), .int .i64 x] 43)) (.slice A l.length ca) l) := hP.below hb0
  have HC0 : Hid (Lk.chk l = 0) := hc
  obtain ⟨hl, hs⟩ := Dk.chk_srt hc
  obtain ⟨hk1, hk2⟩ := hk
  obtain ⟨hn1, hn2⟩ := hn
  have hn3 : (1 : Int) ≤ n := by omega
  have hn4 : (n : Int) ≤ 20 := by omega
  have hn21 : n < 21 := by omega
  have hgt : (Dk.tb l).getD n 0 = Lk.find n l := Dk.tb_get l n hn21
  have hge := (Dk.okTab_tb hs).2.2 n hn21
  have HGE : Hid (∀ j, j < 21 → 0 ≤ ((Dk.tb l).set n x).getD j 0) := fun j hj => by
    have hl21 : (Dk.tb l).length = 21 := Dk.tb_len l
    by_cases e : n = j
    · subst e
      rw [List.getD_eq_getElem?_getD, List.getElem?_set_self (by omega)]
      show 0 ≤ x
      omega
    · rw [List.getD_eq_getElem?_getD, List.getElem?_set_ne e, ← List.getD_eq_getElem?_getD]
      exact ((Dk.okTab_tb hs).2.2 j hj).1
  have hix := tcells_get (Dk.tb l) n (by rw [Dk.tb_len]; exact hn21)
  have hE' : (if Lk.find n l = 0 then (if k = 1 then (if 12 ≤ l.length then 2 else 0) else 5) else (if k = 1 then 6 else 0)) = E := hE
  rw [← hgt] at hE'
  have hsz : (tcells (Dk.tb l)).size = 21 := by rw [tcells_size, Dk.tb_len]
  have HT : Hid (∀ w1 : World, TabAt (w1.alloc (.cells ((tcells (Dk.tb l)).setIfInBounds n (.int .i64 x)) 64)) w1.heap.size 64 ((Dk.tb l).set n x)) := fun w1 => by rw [tcells_set]; exact heap_alloc_last w1 _
  have HL : Hid (((Dk.tb l).set n x).length = 21) := by rw [List.length_set, Dk.tb_len]; rfl
  generalize (Dk.tb l).getD n 0 = f at hix hE' hge
  have hix2 : (tcells (Dk.tb l))[n]'(by rw [hsz]; exact hn21) = .int .i64 f := (Array.getElem?_eq_some_iff.1 hix).2
  clear hix
  clear hE hgt hc hb0 hP HC hs
  have hcs : (f = 0 ∧ k = 1 ∧ l.length = 12 ∧ E = 2) ∨ (f = 0 ∧ k = 1 ∧ l.length < 12 ∧ E = 0) ∨ (f = 0 ∧ k ≠ 1 ∧ E = 5) ∨ (0 < f ∧ k = 1 ∧ E = 6) ∨ (0 < f ∧ k ≠ 1 ∧ E = 0) := by
    by_cases h0 : f = 0
    · rw [if_pos h0] at hE'
      by_cases h1 : k = 1
      · rw [if_pos h1] at hE'
        by_cases h2 : 12 ≤ l.length
        · rw [if_pos h2] at hE'; exact .inl ⟨h0, h1, by omega, hE'.symm⟩
        · rw [if_neg h2] at hE'; exact .inr (.inl ⟨h0, h1, by omega, hE'.symm⟩)
      · rw [if_neg h1] at hE'; exact .inr (.inr (.inl ⟨h0, h1, hE'.symm⟩))
    · rw [if_neg h0] at hE'
      by_cases h1 : k = 1
      · rw [if_pos h1] at hE'; exact .inr (.inr (.inr (.inl ⟨by omega, h1, hE'.symm⟩)))
      · rw [if_neg h1] at hE'; exact .inr (.inr (.inr (.inr ⟨by omega, h1, hE'.symm⟩)))
  clear hE'
  rcases hcs with ⟨rfl, rfl, hq, rfl⟩ | ⟨rfl, rfl, hq, rfl⟩ | ⟨rfl, hq, rfl⟩ | ⟨hf, rfl, rfl⟩ | ⟨hf, hq, rfl⟩
  · rcases hx with ⟨h2, _⟩ | ⟨_, hx1, hx2⟩
    · omega
    · have hq' : ((l.length : Int) == 12) = true := by simp only [beq_iff_eq]; omega
      clear hq hl hge
      go_enter Try.func33, Try.ntmps33
      go_wp2_with fail
      refine HC'.out.mono ?_
      rintro e w1 ⟨rfl, hb1⟩
      obtain ⟨c0, c1, c2⟩ := HO.out.below hb1 (by simp)
      go_wp2_with (go_at_call 35; go_in)
      refine (tableR_any _ _ _ (HP.out.below hb1) HC0.out).mono ?_
      rintro e w2 ⟨rfl, hb2⟩
      have HB2 : Hid (Below w.heap.size w w2) := (HB0.out.trans (hb1.mono HB0.out.size)).trans (hb2.mono (Nat.le_trans HB0.out.size hb1.size))
      have hs2 : w.heap.size < w2.heap.size := Nat.lt_of_lt_of_le (by simp) (Nat.le_trans hb1.size hb2.size)
      obtain ⟨d0, d1, d2⟩ := OpAt.below ⟨c0, c1, c2⟩ hb2 (Nat.lt_of_lt_of_le (by simp) hb1.size)
      clear hb1 hb2 c0 c1 c2
      have HT2 : Hid (TabAt (w2.alloc (.cells ((tcells (Dk.tb l)).setIfInBounds n (.int .i64 x)) 64)) w2.heap.size 64 ((Dk.tb l).set n x)) := HT.out w2
      go_wp2_with (first | (guard_target = wpList _ _ _ (Oper.mk _ (Op.store 64 (.tmp 7) _) _ _ _ _ :: _) _ _; refine stNR rfl (.tmp 7) (.tmp 44) rfl (by rfl) (Dk.tb l) (by rfl) (Dk.tb_len l) ?_) | (guard_target = wpList _ _ _ (Oper.mk _ (Op.load 64 (.tmp 7)) _ _ _ _ :: _) _ _; refine ldR (t := (Dk.tb l).set n x) rfl (.tmp 7) rfl w2.heap.size (by rfl) HT2.out HL.out ?_))
      go_ret2
      exact ⟨⟨_, rfl, pinsNew_none _ _⟩, HB2.out.alloc HB2.out.size _⟩
  · rcases hx with ⟨h2, _⟩ | ⟨_, hx1, hx2⟩
    · omega
    · have hq' : ((l.length : Int) == 12) = false := by simp only [beq_eq_false_iff_ne]; omega
      clear hq hl hge
      go_enter Try.func33, Try.ntmps33
      go_wp2_with fail
      refine HC'.out.mono ?_
      rintro e w1 ⟨rfl, hb1⟩
      obtain ⟨c0, c1, c2⟩ := HO.out.below hb1 (by simp)
      go_wp2_with (go_at_call 35; go_in)
      refine (tableR_any _ _ _ (HP.out.below hb1) HC0.out).mono ?_
      rintro e w2 ⟨rfl, hb2⟩
      have HB2 : Hid (Below w.heap.size w w2) := (HB0.out.trans (hb1.mono HB0.out.size)).trans (hb2.mono (Nat.le_trans HB0.out.size hb1.size))
      have hs2 : w.heap.size < w2.heap.size := Nat.lt_of_lt_of_le (by simp) (Nat.le_trans hb1.size hb2.size)
      obtain ⟨d0, d1, d2⟩ := OpAt.below ⟨c0, c1, c2⟩ hb2 (Nat.lt_of_lt_of_le (by simp) hb1.size)
      clear hb1 hb2 c0 c1 c2
      have HT2 : Hid (TabAt (w2.alloc (.cells ((tcells (Dk.tb l)).setIfInBounds n (.int .i64 x)) 64)) w2.heap.size 64 ((Dk.tb l).set n x)) := HT.out w2
      go_wp2_with (first | (guard_target = wpList _ _ _ (Oper.mk _ (Op.store 64 (.tmp 7) _) _ _ _ _ :: _) _ _; refine stNR rfl (.tmp 7) (.tmp 44) rfl (by rfl) (Dk.tb l) (by rfl) (Dk.tb_len l) ?_) | (guard_target = wpList _ _ _ (Oper.mk _ (Op.load 64 (.tmp 7)) _ _ _ _ :: _) _ _; refine ldR (t := (Dk.tb l).set n x) rfl (.tmp 7) rfl w2.heap.size (by rfl) HT2.out HL.out ?_))
      refine (lockOf_new _ HL.out HGE.out _).mono ?_
      rintro e w3 ⟨⟨y, rfl, hy⟩, hb3⟩
      have HB3 : Hid (Below w.heap.size w w3) := (HB2.out.alloc HB2.out.size _).trans (hb3.mono (by simp only [World.size_alloc]; omega))
      have HY : Hid (PinsNew w3 w.heap.size y (Dk.pinsOf ((Dk.tb l).set n x))) := hy.mono (by simp only [World.size_alloc]; omega)
      clear hy hb3
      go_wp2
      go_ret2
      exact ⟨⟨_, rfl, HY.out⟩, HB3.out⟩
  · have hq1 : (k == 1) = false := by simpa using hq
    have hq2 : (k != 1) = true := by simpa using hq
    clear hq hl hge
    rcases hx with ⟨rfl, rfl⟩ | ⟨h2, hx1, hx2⟩
    · go_enter Try.func33, Try.ntmps33
      go_wp2_with fail
      refine HC'.out.mono ?_
      rintro e w1 ⟨rfl, hb1⟩
      obtain ⟨c0, c1, c2⟩ := HO.out.below hb1 (by simp)
      go_wp2_with (go_at_call 35; go_in)
      refine (tableR_any _ _ _ (HP.out.below hb1) HC0.out).mono ?_
      rintro e w2 ⟨rfl, hb2⟩
      have HB2 : Hid (Below w.heap.size w w2) := (HB0.out.trans (hb1.mono HB0.out.size)).trans (hb2.mono (Nat.le_trans HB0.out.size hb1.size))
      have hs2 : w.heap.size < w2.heap.size := Nat.lt_of_lt_of_le (by simp) (Nat.le_trans hb1.size hb2.size)
      obtain ⟨d0, d1, d2⟩ := OpAt.below ⟨c0, c1, c2⟩ hb2 (Nat.lt_of_lt_of_le (by simp) hb1.size)
      clear hb1 hb2 c0 c1 c2
      have HT2 : Hid (TabAt (w2.alloc (.cells ((tcells (Dk.tb l)).setIfInBounds n (.int .i64 0)) 64)) w2.heap.size 64 ((Dk.tb l).set n 0)) := HT.out w2
      go_wp2_with (first | (guard_target = wpList _ _ _ (Oper.mk _ (Op.store 64 (.tmp 7) _) _ _ _ _ :: _) _ _; refine stNR rfl (.tmp 7) (.tmp 44) rfl (by rfl) (Dk.tb l) (by rfl) (Dk.tb_len l) ?_) | (guard_target = wpList _ _ _ (Oper.mk _ (Op.load 64 (.tmp 7)) _ _ _ _ :: _) _ _; refine ldR (t := (Dk.tb l).set n 0) rfl (.tmp 7) rfl w2.heap.size (by rfl) HT2.out HL.out ?_))
      go_ret2
      exact ⟨⟨_, rfl, pinsNew_none _ _⟩, HB2.out.alloc HB2.out.size _⟩
    · have hq3 : (k == 2) = false := by simpa using h2
      have hq4 : (k != 2) = true := by simpa using h2
      clear h2
      go_enter Try.func33, Try.ntmps33
      go_wp2_with fail
      refine HC'.out.mono ?_
      rintro e w1 ⟨rfl, hb1⟩
      obtain ⟨c0, c1, c2⟩ := HO.out.below hb1 (by simp)
      go_wp2_with (go_at_call 35; go_in)
      refine (tableR_any _ _ _ (HP.out.below hb1) HC0.out).mono ?_
      rintro e w2 ⟨rfl, hb2⟩
      have HB2 : Hid (Below w.heap.size w w2) := (HB0.out.trans (hb1.mono HB0.out.size)).trans (hb2.mono (Nat.le_trans HB0.out.size hb1.size))
      have hs2 : w.heap.size < w2.heap.size := Nat.lt_of_lt_of_le (by simp) (Nat.le_trans hb1.size hb2.size)
      obtain ⟨d0, d1, d2⟩ := OpAt.below ⟨c0, c1, c2⟩ hb2 (Nat.lt_of_lt_of_le (by simp) hb1.size)
      clear hb1 hb2 c0 c1 c2
      have HT2 : Hid (TabAt (w2.alloc (.cells ((tcells (Dk.tb l)).setIfInBounds n (.int .i64 x)) 64)) w2.heap.size 64 ((Dk.tb l).set n x)) := HT.out w2
      go_wp2_with (first | (guard_target = wpList _ _ _ (Oper.mk _ (Op.store 64 (.tmp 7) _) _ _ _ _ :: _) _ _; refine stNR rfl (.tmp 7) (.tmp 44) rfl (by rfl) (Dk.tb l) (by rfl) (Dk.tb_len l) ?_) | (guard_target = wpList _ _ _ (Oper.mk _ (Op.load 64 (.tmp 7)) _ _ _ _ :: _) _ _; refine ldR (t := (Dk.tb l).set n x) rfl (.tmp 7) rfl w2.heap.size (by rfl) HT2.out HL.out ?_))
      go_ret2
      exact ⟨⟨_, rfl, pinsNew_none _ _⟩, HB2.out.alloc HB2.out.size _⟩
  · rcases hx with ⟨h2, _⟩ | ⟨_, hx1, hx2⟩
    · omega
    · clear hl hge
      go_enter Try.func33, Try.ntmps33
      go_wp2_with fail
      refine HC'.out.mono ?_
      rintro e w1 ⟨rfl, hb1⟩
      obtain ⟨c0, c1, c2⟩ := HO.out.below hb1 (by simp)
      go_wp2_with (go_at_call 35; go_in)
      refine (tableR_any _ _ _ (HP.out.below hb1) HC0.out).mono ?_
      rintro e w2 ⟨rfl, hb2⟩
      have HB2 : Hid (Below w.heap.size w w2) := (HB0.out.trans (hb1.mono HB0.out.size)).trans (hb2.mono (Nat.le_trans HB0.out.size hb1.size))
      have hs2 : w.heap.size < w2.heap.size := Nat.lt_of_lt_of_le (by simp) (Nat.le_trans hb1.size hb2.size)
      obtain ⟨d0, d1, d2⟩ := OpAt.below ⟨c0, c1, c2⟩ hb2 (Nat.lt_of_lt_of_le (by simp) hb1.size)
      clear hb1 hb2 c0 c1 c2
      have HT2 : Hid (TabAt (w2.alloc (.cells ((tcells (Dk.tb l)).setIfInBounds n (.int .i64 x)) 64)) w2.heap.size 64 ((Dk.tb l).set n x)) := HT.out w2
      go_wp2_with (first | (guard_target = wpList _ _ _ (Oper.mk _ (Op.store 64 (.tmp 7) _) _ _ _ _ :: _) _ _; refine stNR rfl (.tmp 7) (.tmp 44) rfl (by rfl) (Dk.tb l) (by rfl) (Dk.tb_len l) ?_) | (guard_target = wpList _ _ _ (Oper.mk _ (Op.load 64 (.tmp 7)) _ _ _ _ :: _) _ _; refine ldR (t := (Dk.tb l).set n x) rfl (.tmp 7) rfl w2.heap.size (by rfl) HT2.out HL.out ?_))
      go_ret2
      exact ⟨⟨_, rfl, pinsNew_none _ _⟩, HB2.out.alloc HB2.out.size _⟩
  · have hq1 : (k == 1) = false := by simpa using hq
    have hq2 : (k != 1) = true := by simpa using hq
    clear hq hl hge
    rcases hx with ⟨rfl, rfl⟩ | ⟨h2, hx1, hx2⟩
    · go_enter Try.func33, Try.ntmps33
      go_wp2_with fail
      refine HC'.out.mono ?_
      rintro e w1 ⟨rfl, hb1⟩
      obtain ⟨c0, c1, c2⟩ := HO.out.below hb1 (by simp)
      go_wp2_with (go_at_call 35; go_in)
      refine (tableR_any _ _ _ (HP.out.below hb1) HC0.out).mono ?_
      rintro e w2 ⟨rfl, hb2⟩
      have HB2 : Hid (Below w.heap.size w w2) := (HB0.out.trans (hb1.mono HB0.out.size)).trans (hb2.mono (Nat.le_trans HB0.out.size hb1.size))
      have hs2 : w.heap.size < w2.heap.size := Nat.lt_of_lt_of_le (by simp) (Nat.le_trans hb1.size hb2.size)
      obtain ⟨d0, d1, d2⟩ := OpAt.below ⟨c0, c1, c2⟩ hb2 (Nat.lt_of_lt_of_le (by simp) hb1.size)
      clear hb1 hb2 c0 c1 c2
      have HT2 : Hid (TabAt (w2.alloc (.cells ((tcells (Dk.tb l)).setIfInBounds n (.int .i64 0)) 64)) w2.heap.size 64 ((Dk.tb l).set n 0)) := HT.out w2
      go_wp2_with (first | (guard_target = wpList _ _ _ (Oper.mk _ (Op.store 64 (.tmp 7) _) _ _ _ _ :: _) _ _; refine stNR rfl (.tmp 7) (.tmp 44) rfl (by rfl) (Dk.tb l) (by rfl) (Dk.tb_len l) ?_) | (guard_target = wpList _ _ _ (Oper.mk _ (Op.load 64 (.tmp 7)) _ _ _ _ :: _) _ _; refine ldR (t := (Dk.tb l).set n 0) rfl (.tmp 7) rfl w2.heap.size (by rfl) HT2.out HL.out ?_))
      refine (lockOf_new _ HL.out HGE.out _).mono ?_
      rintro e w3 ⟨⟨y, rfl, hy⟩, hb3⟩
      have HB3 : Hid (Below w.heap.size w w3) := (HB2.out.alloc HB2.out.size _).trans (hb3.mono (by simp only [World.size_alloc]; omega))
      have HY : Hid (PinsNew w3 w.heap.size y (Dk.pinsOf ((Dk.tb l).set n 0))) := hy.mono (by simp only [World.size_alloc]; omega)
      clear hy hb3
      go_wp2
      go_ret2
      exact ⟨⟨_, rfl, HY.out⟩, HB3.out⟩
    · have hq3 : (k == 2) = false := by simpa using h2
      have hq4 : (k != 2) = true := by simpa using h2
      clear h2
      go_enter Try.func33, Try.ntmps33
      go_wp2_with fail
      refine HC'.out.mono ?_
      rintro e w1 ⟨rfl, hb1⟩
      obtain ⟨c0, c1, c2⟩ := HO.out.below hb1 (by simp)
      go_wp2_with (go_at_call 35; go_in)
      refine (tableR_any _ _ _ (HP.out.below hb1) HC0.out).mono ?_
      rintro e w2 ⟨rfl, hb2⟩
      have HB2 : Hid (Below w.heap.size w w2) := (HB0.out.trans (hb1.mono HB0.out.size)).trans (hb2.mono (Nat.le_trans HB0.out.size hb1.size))
      have hs2 : w.heap.size < w2.heap.size := Nat.lt_of_lt_of_le (by simp) (Nat.le_trans hb1.size hb2.size)
      obtain ⟨d0, d1, d2⟩ := OpAt.below ⟨c0, c1, c2⟩ hb2 (Nat.lt_of_lt_of_le (by simp) hb1.size)
      clear hb1 hb2 c0 c1 c2
      have HT2 : Hid (TabAt (w2.alloc (.cells ((tcells (Dk.tb l)).setIfInBounds n (.int .i64 x)) 64)) w2.heap.size 64 ((Dk.tb l).set n x)) := HT.out w2
      go_wp2_with (first | (guard_target = wpList _ _ _ (Oper.mk _ (Op.store 64 (.tmp 7) _) _ _ _ _ :: _) _ _; refine stNR rfl (.tmp 7) (.tmp 44) rfl (by rfl) (Dk.tb l) (by rfl) (Dk.tb_len l) ?_) | (guard_target = wpList _ _ _ (Oper.mk _ (Op.load 64 (.tmp 7)) _ _ _ _ :: _) _ _; refine ldR (t := (Dk.tb l).set n x) rfl (.tmp 7) rfl w2.heap.size (by rfl) HT2.out HL.out ?_))
      refine (lockOf_new _ HL.out HGE.out _).mono ?_
      rintro e w3 ⟨⟨y, rfl, hy⟩, hb3⟩
      have HB3 : Hid (Below w.heap.size w w3) := (HB2.out.alloc HB2.out.size _).trans (hb3.mono (by simp only [World.size_alloc]; omega))
      have HY : Hid (PinsNew w3 w.heap.size y (Dk.pinsOf ((Dk.tb l).set n x))) := hy.mono (by simp only [World.size_alloc]; omega)
      clear hy hb3
      go_wp2
      go_ret2
      exact ⟨⟨_, rfl, HY.out⟩, HB3.out⟩
end Go.Proofs.Ytbnaaookeagjgaa
