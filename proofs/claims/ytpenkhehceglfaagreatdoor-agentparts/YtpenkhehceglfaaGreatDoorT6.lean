/- The contracts of diff.checkOp and diff.checkFit. -/
import Derived.Test.YtpenkhehceglfaaGreatDoorW2
import Derived.Test.YtpenkhehceglfaaGreatDoorT5
namespace Go.Proofs.YtpenkhehceglfaaGreatDoor
open Go.RowKit
theorem opErr_kind {k n v : Int} (h1 : k ≠ 1) (h2 : k ≠ 2) (h3 : k ≠ 3) : Dk.opErr (k, n, v) = 4 := by
  unfold Dk.opErr
  simp only []
  rw [if_neg (by omega)]
theorem opErr_name {k n v : Int} (hk : 1 ≤ k ∧ k ≤ 3) (h : ¬ (1 ≤ n ∧ n ≤ 20)) : Dk.opErr (k, n, v) = 3 := by
  unfold Dk.opErr
  simp only []
  rw [if_pos hk, if_neg (fun h' => h h'.1)]
theorem opErr_drop {n v : Int} (h : 1 ≤ n ∧ n ≤ 20) : Dk.opErr (2, n, v) = if v = 0 then 0 else 3 := by
  unfold Dk.opErr
  simp only []
  rw [if_pos (by omega)]
  simp only [if_true]
  by_cases hv : v = 0
  · rw [if_pos ⟨h, hv⟩, if_pos hv]
  · rw [if_neg (fun h' => hv h'.2), if_neg hv]
theorem opErr_come {k n v : Int} (hk : k = 1 ∨ k = 3) (h : 1 ≤ n ∧ n ≤ 20) : Dk.opErr (k, n, v) = if 1 ≤ v ∧ v ≤ 99 then 0 else 3 := by
  have h2 : ¬ k = 2 := by omega
  unfold Dk.opErr
  simp only []
  rw [if_pos (by omega)]
  simp only [h2, if_false]
  by_cases hv : 1 ≤ v ∧ v ≤ 99
  · rw [if_pos ⟨h, hv⟩, if_pos hv]
  · rw [if_neg (fun h' => hv h'.2), if_neg hv]
set_option maxHeartbeats 2000000 in
theorem checkOp_any (k n v : Int) (w : World) :
    Calls Tryz.prog 51 #[.agg #[.int .i64 k, .int .i64 n, .int .i64 v]] w fun e w' => e = .returned (.int .i64 (Dk.opErr (k, n, v))) ∧ Below w.heap.size w w' := by
  have hn : (n < 1 ∨ (1 ≤ n ∧ 20 < n)) ∨ (1 ≤ n ∧ n ≤ 20) := by omega
  have hk : (k = 1 ∨ (k = 3)) ∨ k = 2 ∨ (k ≠ 1 ∧ k ≠ 2 ∧ k ≠ 3) := by omega
  rcases hk with hk | hk | ⟨k1, k2, k3⟩
  · have hv : (v < 1 ∨ (1 ≤ v ∧ 99 < v)) ∨ (1 ≤ v ∧ v ≤ 99) := by omega
    rcases hn with hn | ⟨hn1, hn2⟩
    · have HE : Hid (Dk.opErr (k, n, v) = 3) := opErr_name (by omega) (by omega)
      rcases hk with rfl | rfl
      all_goals
        rcases hn with hn | ⟨hn1, hn2⟩
      all_goals
        go_enter Tryz.func51, Tryz.ntmps51
        go_wp2
        go_ret
        exact ⟨by rw [HE.out]; rfl, (Below.refl _ w).alloc (Nat.le_refl _) _⟩
    · rcases hv with hv | ⟨hv1, hv2⟩
      · have HE : Hid (Dk.opErr (k, n, v) = 3) := (opErr_come hk ⟨hn1, hn2⟩).trans (if_neg (by omega))
        rcases hk with rfl | rfl
        all_goals
          rcases hv with hv | ⟨hv1, hv2⟩
        all_goals
          try (have hd99 : decide (v ≤ 99) = false := decide_eq_false (by omega))
          go_enter Tryz.func51, Tryz.ntmps51
          go_wp2
          go_ret
          exact ⟨by rw [HE.out]; rfl, (Below.refl _ w).alloc (Nat.le_refl _) _⟩
      · have HE : Hid (Dk.opErr (k, n, v) = 0) := (opErr_come hk ⟨hn1, hn2⟩).trans (if_pos ⟨hv1, hv2⟩)
        rcases hk with rfl | rfl
        all_goals
          go_enter Tryz.func51, Tryz.ntmps51
          go_wp2
          go_ret
          exact ⟨by rw [HE.out]; rfl, (Below.refl _ w).alloc (Nat.le_refl _) _⟩
  · subst hk
    rcases hn with hn | ⟨hn1, hn2⟩
    · have HE : Hid (Dk.opErr (2, n, v) = 3) := opErr_name (by omega) (by omega)
      rcases hn with hn | ⟨hn1, hn2⟩
      all_goals
        go_enter Tryz.func51, Tryz.ntmps51
        go_wp2
        go_ret
        exact ⟨by rw [HE.out]; rfl, (Below.refl _ w).alloc (Nat.le_refl _) _⟩
    · have hv : v < 0 ∨ 0 < v ∨ v = 0 := by omega
      rcases hv with hv | hv | hv
      · have HE : Hid (Dk.opErr (2, n, v) = 3) := (opErr_drop ⟨hn1, hn2⟩).trans (if_neg (by omega))
        go_enter Tryz.func51, Tryz.ntmps51
        go_wp2
        go_ret
        exact ⟨by rw [HE.out]; rfl, (Below.refl _ w).alloc (Nat.le_refl _) _⟩
      · have HE : Hid (Dk.opErr (2, n, v) = 3) := (opErr_drop ⟨hn1, hn2⟩).trans (if_neg (by omega))
        have h0 : 0 ≤ v := by omega
        have h1 : decide (v ≤ 0) = false := decide_eq_false (by omega)
        go_enter Tryz.func51, Tryz.ntmps51
        go_wp2
        go_ret
        exact ⟨by rw [HE.out]; rfl, (Below.refl _ w).alloc (Nat.le_refl _) _⟩
      · subst hv
        have HE : Hid (Dk.opErr (2, n, 0) = 0) := (opErr_drop ⟨hn1, hn2⟩).trans (if_pos rfl)
        go_enter Tryz.func51, Tryz.ntmps51
        go_wp2
        go_ret
        exact ⟨by rw [HE.out]; rfl, (Below.refl _ w).alloc (Nat.le_refl _) _⟩
  · have HE : Hid (Dk.opErr (k, n, v) = 4) := opErr_kind k1 k2 k3
    have e1 : (k == 1) = false := by simpa using k1
    have e2 : (k == 2) = false := by simpa using k2
    have e3 : (k == 3) = false := by simpa using k3
    clear k1 k2 k3 hn
    go_enter Tryz.func51, Tryz.ntmps51
    go_wp2
    go_ret
    exact ⟨by rw [HE.out]; rfl, (Below.refl _ w).alloc (Nat.le_refl _) _⟩
set_option maxHeartbeats 2000000 in
theorem checkFit_any (vl : Value) (l : List (Int × Int)) (k n x : Int) (w : World) (hP : PinsAt w vl l) :
    Calls Tryz.prog 52 #[vl, .agg #[.int .i64 k, .int .i64 n, .int .i64 x]] w fun e w' => e = .returned (.int .i64 (Dk.fitErr l (k, n, x))) ∧ Below w.heap.size w w' := by
  obtain ⟨A, ba, oa, ca, rfl, hll, _, _⟩ := hP.open
  have hb0 : Below w.heap.size w (w.alloc (.cells #[.int .i64 k, .int .i64 n, .int .i64 x] 70)) := (Below.refl _ w).alloc (Nat.le_refl _) _
  have HC := find_any _ _ n _ (hP.below hb0)
  have HC' : Hid (Calls Tryz.prog 80 #[.slice A l.length ca, .int .i64 n] (w.alloc (.cells #[.int .i64 k, .int .i64 n, .int .i64 x] 70)) fun e w' => e = .returned (.int .i64 (Lk.find n l)) ∧ Below (w.alloc (.cells #[.int .i64 k, .int .i64 n, .int .i64 x] 70)).heap.size (w.alloc (.cells #[.int .i64 k, .int .i64 n, .int .i64 x] 70)) w') := HC
  clear HC hP
  have c1 : (w.alloc (.cells #[.int .i64 k, .int .i64 n, .int .i64 x] 70)).cell? ⟨w.heap.size, 0, none⟩ = some (.int .i64 k) := by simp [go_sem]
  have HC1 : Hid ((w.alloc (.cells #[.int .i64 k, .int .i64 n, .int .i64 x] 70)).cell? ⟨w.heap.size, 0, none⟩ = some (.int .i64 k)) := c1
  have HB0 : Hid (Below w.heap.size w (w.alloc (.cells #[.int .i64 k, .int .i64 n, .int .i64 x] 70))) := hb0
  clear c1 hb0
  have hE : Dk.fitErr l (k, n, x) = if Lk.find n l = 0 then (if k = 1 then (if 12 ≤ l.length then 2 else 0) else 5) else (if k = 1 then 6 else 0) := rfl
  generalize Lk.find n l = f at HC' hE
  by_cases hf : f = 0
  · by_cases hk : k = 1
    · by_cases hlen : 12 ≤ l.length
      · have HE : Hid (Dk.fitErr l (k, n, x) = 2) := by rw [hE, if_pos hf, if_pos hk, if_pos hlen]; rfl
        subst hf hk
        clear hE
        go_enter Tryz.func52, Tryz.ntmps52
        go_wp2_with fail
        refine HC'.out.mono ?_
        rintro e w1 ⟨rfl, hb1⟩
        have c2 := (hb1.cell (p := ⟨w.heap.size, 0, none⟩) (by simp)).trans HC1.out
        go_wp2
        go_ret
        exact ⟨by rw [HE.out]; rfl, HB0.out.trans (hb1.mono (by simp))⟩
      · have HE : Hid (Dk.fitErr l (k, n, x) = 0) := by rw [hE, if_pos hf, if_pos hk, if_neg hlen]; rfl
        have hlen' : l.length < 12 := by omega
        subst hf hk
        clear hE hlen
        go_enter Tryz.func52, Tryz.ntmps52
        go_wp2_with fail
        refine HC'.out.mono ?_
        rintro e w1 ⟨rfl, hb1⟩
        have c2 := (hb1.cell (p := ⟨w.heap.size, 0, none⟩) (by simp)).trans HC1.out
        go_wp2
        go_ret
        exact ⟨by rw [HE.out]; rfl, HB0.out.trans (hb1.mono (by simp))⟩
    · have HE : Hid (Dk.fitErr l (k, n, x) = 5) := by rw [hE, if_pos hf, if_neg hk]; rfl
      have hk' : (k == 1) = false := by simpa using hk
      have hk2 : (k != 1) = true := by simpa using hk
      subst hf
      clear hE hk
      go_enter Tryz.func52, Tryz.ntmps52
      go_wp2_with fail
      refine HC'.out.mono ?_
      rintro e w1 ⟨rfl, hb1⟩
      have c2 := (hb1.cell (p := ⟨w.heap.size, 0, none⟩) (by simp)).trans HC1.out
      go_wp2
      go_ret
      exact ⟨by rw [HE.out]; rfl, HB0.out.trans (hb1.mono (by simp))⟩
  · have hf' : (f != 0) = true := by simpa using hf
    by_cases hk : k = 1
    · have HE : Hid (Dk.fitErr l (k, n, x) = 6) := by rw [hE, if_neg hf, if_pos hk]; rfl
      subst hk
      clear hE hf
      go_enter Tryz.func52, Tryz.ntmps52
      go_wp2_with fail
      refine HC'.out.mono ?_
      rintro e w1 ⟨rfl, hb1⟩
      have c2 := (hb1.cell (p := ⟨w.heap.size, 0, none⟩) (by simp)).trans HC1.out
      go_wp2
      go_ret
      exact ⟨by rw [HE.out]; rfl, HB0.out.trans (hb1.mono (by simp))⟩
    · have HE : Hid (Dk.fitErr l (k, n, x) = 0) := by rw [hE, if_neg hf, if_neg hk]; rfl
      have hk' : (k == 1) = false := by simpa using hk
      have hk2 : (k != 1) = true := by simpa using hk
      clear hE hf hk
      go_enter Tryz.func52, Tryz.ntmps52
      go_wp2_with fail
      refine HC'.out.mono ?_
      rintro e w1 ⟨rfl, hb1⟩
      have c2 := (hb1.cell (p := ⟨w.heap.size, 0, none⟩) (by simp)).trans HC1.out
      go_wp2
      go_ret
      exact ⟨by rw [HE.out]; rfl, HB0.out.trans (hb1.mono (by simp))⟩
end Go.Proofs.YtpenkhehceglfaaGreatDoor
