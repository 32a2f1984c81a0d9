/- Contracts of the document's CheckAgent and SameAgent. -/
import Derived.Test.YtbnaaookeagjgaaN1
import Derived.Test.YtbnaaookeagjgaaBlk
import Derived.Test.YtbnaaookeagjgaaAMath
namespace Go.Proofs.Ytbnaaookeagjgaa
open Go.RowKit
/-- an agent as a value: flat cells -/
def agC (a : Ag.Agent) (v u : Value) : Array Value := #[v, .int .i64 a.at', .int .i64 a.tr, .bool a.going, .int .i64 a.gid, u, .bool a.good]
def agV (a : Ag.Agent) (v u : Value) : Value := .agg (agC a v u)
theorem chkA_lock {a : Ag.Agent} (h : ¬ Lk.chk a.lock = 0) : Ag.chkAgent a = Lk.chk a.lock := by unfold Ag.chkAgent; rw [if_neg h]
theorem chkA_out {a : Ag.Agent} (h : Lk.chk a.lock = 0) (h' : a.at' < 1 ∨ 6 < a.at' ∨ a.tr < 0 ∨ 200 < a.tr) : Ag.chkAgent a = 3 := by
  unfold Ag.chkAgent; rw [if_pos h, if_neg]; simp [Lk.within]; omega
theorem chkA_in {a : Ag.Agent} (h : Lk.chk a.lock = 0) (h1 : 1 ≤ a.at') (h2 : a.at' ≤ 6) (h3 : 0 ≤ a.tr) (h4 : a.tr ≤ 200) : Ag.chkAgent a = (if a.going = true then (if (a.good || decide (a.tr < 1)) = true then 4 else Lk.chkRel a.gid a.glock) else (if (a.gid == 0 && decide (a.glock = [])) = true then 0 else 4)) := by
  unfold Ag.chkAgent; rw [if_pos h, if_pos]; simp [Lk.within, h1, h2, h3, h4]
set_option maxHeartbeats 4000000 in
theorem checkAgR_any (L M : List (Int × Int)) (p t i : Int) (g d : Bool) (v u : Value) (w : World) (hP : PinsAt w v L) (hQ : PinsAt w u M) :
    Calls Try.prog 10 #[agV ⟨L, p, t, g, i, M, d⟩ v u] w fun e w' => e = .returned (.int .i64 (Ag.chkAgent ⟨L, p, t, g, i, M, d⟩)) ∧ Below w.heap.size w w' := by
  obtain ⟨a, c, rfl⟩ := pins_slice hP
  obtain ⟨a', c', rfl⟩ := pins_slice hQ
  unfold agV agC
  have HB0 : Hid (Below w.heap.size w (w.alloc (.cells #[.slice a L.length c, .int .i64 p, .int .i64 t, .bool g, .int .i64 i, .slice a' M.length c', .bool d] 26))) := (Below.refl _ w).alloc (Nat.le_refl _) _
  have HK0 : Hid (Blk (w.alloc (.cells #[.slice a L.length c, .int .i64 p, .int .i64 t, .bool g, .int .i64 i, .slice a' M.length c', .bool d] 26)) w.heap.size #[.slice a L.length c, .int .i64 p, .int .i64 t, .bool g, .int .i64 i, .slice a' M.length c', .bool d] 26) := blk_alloc w _ _
  have HC : Hid (∀ w', Below w.heap.size w w' → Calls Try.prog 34 #[.slice a L.length c] w' fun e w'' => e = .returned (.int .i64 (Lk.chk L)) ∧ Below w'.heap.size w' w'') := fun w' hb => checkR_any _ L w' (hP.below hb)
  have HR : Hid (∀ w', Below w.heap.size w w' → Calls Try.prog 11 #[.agg #[.int .i64 i, .slice a' M.length c']] w' fun e w'' => e = .returned (.int .i64 (Lk.chkRel i M)) ∧ Below w'.heap.size w' w'') := fun w' hb => releaseR_any i _ M w' (hQ.below hb)
  have F1 : Hid (¬ Lk.chk L = 0 → Ag.chkAgent ⟨L, p, t, g, i, M, d⟩ = Lk.chk L) := fun h => chkA_lock h
  have F2 : Hid (Lk.chk L = 0 → (p < 1 ∨ 6 < p ∨ t < 0 ∨ 200 < t) → Ag.chkAgent ⟨L, p, t, g, i, M, d⟩ = 3) := fun h h' => chkA_out h h'
  have F3 : Hid (Lk.chk L = 0 → 1 ≤ p → p ≤ 6 → 0 ≤ t → t ≤ 200 → Ag.chkAgent ⟨L, p, t, g, i, M, d⟩ = (if g = true then (if (d || decide (t < 1)) = true then 4 else Lk.chkRel i M) else (if (i == 0 && decide (M.length = 0)) = true then 0 else 4))) := fun h h1 h2 h3 h4 => (chkA_in h h1 h2 h3 h4).trans (by simp [List.length_eq_zero_iff])
  clear hP hQ
  generalize Ag.chkAgent ⟨L, p, t, g, i, M, d⟩ = Q at F1 F2 F3 ⊢
  generalize Lk.chk L = C at F1 F2 F3 HC
  generalize Lk.chkRel i M = K at F3 HR
  generalize L.length = n at HB0 HK0 HC ⊢
  generalize M.length = m at HB0 HK0 HC HR F3 ⊢
  go_enter Try.func10, Try.ntmps10
  go_wp2_with fail
  refine (HC.out _ HB0.out).mono ?_
  rintro e w1 ⟨rfl, hb1⟩
  have HB1 : Hid (Below w.heap.size w w1) := HB0.out.trans (hb1.mono HB0.out.size)
  have hk := HK0.out.below hb1
  clear hb1 HB0 HK0 HC
  by_cases h1 : C = 0
  rotate_left
  · have h1b : (C != 0) = true := by rw [bne_iff_ne]; exact h1
    have HQ : Hid (Q = C) := F1.out h1
    clear F1 F2 F3 h1 hk HR
    go_wp2
    go_ret
    exact ⟨by rw [HQ.out]; rfl, HB1.out⟩
  subst h1
  have k1 := hk.cell 1
  have k2 := hk.cell 2
  have k3 := hk.cell 3
  have k4 := hk.cell 4
  have k5 := hk.cell 5
  have k6 := hk.cell 6
  simp only [List.getElem?_toArray, List.getElem?_cons_zero, List.getElem?_cons_succ] at k1 k2 k3 k4 k5 k6
  have HG2 := F2.out rfl
  have HG3 := F3.out rfl
  clear F1 F2 F3 hk
  by_cases p1 : 1 ≤ p
  rotate_left
  · have HQ : Hid (Q = 3) := HG2 (by omega)
    have p1' : decide (1 ≤ p) = false := decide_eq_false p1
    have p1'' : p < 1 := by omega
    clear HG2 HG3 HR
    go_wp2_with go_in
    go_ret
    exact ⟨by rw [HQ.out]; rfl, HB1.out⟩
  by_cases p2 : p ≤ 6
  rotate_left
  · have HQ : Hid (Q = 3) := HG2 (by omega)
    have p2' : decide (p ≤ 6) = false := decide_eq_false p2
    clear HG2 HG3 HR
    go_wp2_with go_in
    go_ret
    exact ⟨by rw [HQ.out]; rfl, HB1.out⟩
  by_cases t1 : 0 ≤ t
  rotate_left
  · have HQ : Hid (Q = 3) := HG2 (by omega)
    have t1' : decide (0 ≤ t) = false := decide_eq_false t1
    have t1'' : t < 0 := by omega
    clear HG2 HG3 HR
    go_wp2_with go_in
    go_ret
    exact ⟨by rw [HQ.out]; rfl, HB1.out⟩
  by_cases t2 : t ≤ 200
  rotate_left
  · have HQ : Hid (Q = 3) := HG2 (by omega)
    have t2' : decide (t ≤ 200) = false := decide_eq_false t2
    clear HG2 HG3 HR
    go_wp2_with go_in
    go_ret
    exact ⟨by rw [HQ.out]; rfl, HB1.out⟩
  have HG : Hid (Q = (if g = true then (if (d || decide (t < 1)) = true then 4 else K) else (if (i == 0 && decide (m = 0)) = true then 0 else 4))) := HG3 p1 p2 t1 t2
  clear HG2 HG3
  cases g
  · by_cases i0 : i = 0
    · by_cases m0 : m = 0
      · subst i0 m0
        have HQ : Hid (Q = 0) := (show Q = 0 from by rw [HG.out]; rfl)
        clear HG HR
        go_wp2_with go_in
        go_ret
        exact ⟨by rw [HQ.out]; rfl, HB1.out⟩
      · subst i0
        have HQ : Hid (Q = 4) := (show Q = 4 from by rw [HG.out]; simp [m0])
        have m0' : ((m : Int) != 0) = true := by rw [bne_iff_ne]; omega
        clear HG HR
        go_wp2_with go_in
        go_ret
        exact ⟨by rw [HQ.out]; rfl, HB1.out⟩
    · have HQ : Hid (Q = 4) := (show Q = 4 from by rw [HG.out]; simp [i0])
      have i0' : (i != 0) = true := by rw [bne_iff_ne]; exact i0
      clear HG HR
      go_wp2_with go_in
      go_ret
      exact ⟨by rw [HQ.out]; rfl, HB1.out⟩
  · cases d
    · by_cases t0 : t < 1
      · have HQ : Hid (Q = 4) := (show Q = 4 from by rw [HG.out]; simp [t0])
        clear HG HR
        go_wp2_with go_in
        go_ret
        exact ⟨by rw [HQ.out]; rfl, HB1.out⟩
      · have HQ : Hid (Q = K) := (show Q = K from by rw [HG.out]; simp [t0])
        have t0' : decide (t < 1) = false := decide_eq_false t0
        have t0'' : 1 ≤ t := by omega
        clear HG
        go_wp2_with (first | (go_at_call 11; refine (HR.out _ HB1.out).mono ?_; rintro e w2 ⟨rfl, hb2⟩) | go_in)
        go_ret
        exact ⟨by rw [HQ.out]; rfl, HB1.out.trans (hb2.mono HB1.out.size)⟩
    · have HQ : Hid (Q = 4) := (show Q = 4 from by rw [HG.out]; simp)
      clear HG HR
      go_wp2_with go_in
      go_ret
      exact ⟨by rw [HQ.out]; rfl, HB1.out⟩
end Go.Proofs.Ytbnaaookeagjgaa
