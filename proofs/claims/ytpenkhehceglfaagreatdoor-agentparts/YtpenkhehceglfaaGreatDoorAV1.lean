/- The contracts of agent.checkNumbers, agent.checkGoing, agent.Check and agent.Left. -/
import Derived.Test.YtpenkhehceglfaaGreatDoorMI
import Derived.Test.YtpenkhehceglfaaGreatDoorT5
import Derived.Deep.RegionHeld3
namespace Go.Proofs.YtpenkhehceglfaaGreatDoor
open Go.RowKit
def numE (p t : Int) : Int := if (Lk.within p 1 6 && Lk.within t 0 200) = true then 0 else 3
def goE (g d : Bool) (t i : Int) (M : List (Int × Int)) : Int := if g = true then (if (t == 0 || d) = true then 4 else Lk.chkRel i M) else (if Lk.alike i M 0 [] = true then 0 else 4)
theorem same_nil (M : List (Int × Int)) : Lk.same M [] = decide (M = []) := by simp [Lk.same]
theorem orr_ag (L M : List (Int × Int)) (p t i : Int) (g d : Bool) : orr [Lk.chk L, numE p t, goE g d t i M] = Ag.chkAgent ⟨L, p, t, g, i, M, d⟩ := by
  unfold Ag.chkAgent numE
  simp only [orr]
  by_cases h : Lk.chk L = 0
  · rw [if_pos h, if_pos h]
    by_cases h2 : (Lk.within p 1 6 && Lk.within t 0 200) = true
    · rw [if_pos h2, if_pos rfl, if_pos h2]
      have ht : 0 ≤ t := by simp [Lk.within] at h2; omega
      have e : goE g d t i M = (if g = true then (if (d || decide (t < 1)) = true then 4 else Lk.chkRel i M) else (if (i == 0 && decide (M = [])) = true then 0 else 4)) := by
        unfold goE
        have e1 : (t == 0 || d) = (d || decide (t < 1)) := by
          rw [Bool.or_comm]; congr 1; rw [Bool.eq_iff_iff]; simp; omega
        rw [e1]; unfold Lk.alike; rw [same_nil]
      rw [← e]
      by_cases hX : goE g d t i M = 0
      · rw [if_pos hX, hX]
      · rw [if_neg hX]
    · rw [if_neg h2, if_neg (by decide), if_neg h2]
  · rw [if_neg h, if_neg h]
set_option maxHeartbeats 2000000 in
theorem numbersA_any (a a' : Option Addr) (n c m c' : Nat) (p t i : Int) (g d : Bool) (w : World) :
    Calls Tryz.prog 78 #[.agg #[.slice a n c, .int .i64 p, .int .i64 t, .bool g, .int .i64 i, .slice a' m c', .bool d]] w fun e w' => e = .returned (.int .i64 (numE p t)) ∧ Below w.heap.size w w' := by
  have HB : Hid (∀ O, Below w.heap.size w (w.alloc O)) := fun O => (Below.refl _ w).alloc (Nat.le_refl _) O
  have HE : Hid ((p < 1 ∨ 6 < p ∨ t < 0 ∨ 200 < t) → numE p t = 3) := fun h => by unfold numE; rw [if_neg]; simp [Lk.within]; omega
  have HF : Hid (1 ≤ p → p ≤ 6 → 0 ≤ t → t ≤ 200 → numE p t = 0) := fun h1 h2 h3 h4 => by unfold numE; rw [if_pos]; simp [Lk.within, h1, h2, h3, h4]
  generalize numE p t = Q at HE HF ⊢
  by_cases p1 : 1 ≤ p
  rotate_left
  · have HQ : Hid (Q = 3) := HE.out (by omega)
    have p1' : decide (1 ≤ p) = false := decide_eq_false p1
    have p1'' : p < 1 := by omega
    clear HE HF
    go_enter Tryz.func78, Tryz.ntmps78
    go_wp2_with go_in
    go_ret
    exact ⟨by rw [HQ.out]; rfl, HB.out _⟩
  by_cases p2 : p ≤ 6
  rotate_left
  · have HQ : Hid (Q = 3) := HE.out (by omega)
    have p2' : decide (p ≤ 6) = false := decide_eq_false p2
    clear HE HF
    go_enter Tryz.func78, Tryz.ntmps78
    go_wp2_with go_in
    go_ret
    exact ⟨by rw [HQ.out]; rfl, HB.out _⟩
  by_cases t1 : 0 ≤ t
  rotate_left
  · have HQ : Hid (Q = 3) := HE.out (by omega)
    have t1' : decide (0 ≤ t) = false := decide_eq_false t1
    have t1'' : t < 0 := by omega
    clear HE HF
    go_enter Tryz.func78, Tryz.ntmps78
    go_wp2_with go_in
    go_ret
    exact ⟨by rw [HQ.out]; rfl, HB.out _⟩
  by_cases t2 : t ≤ 200
  rotate_left
  · have HQ : Hid (Q = 3) := HE.out (by omega)
    have t2' : decide (t ≤ 200) = false := decide_eq_false t2
    clear HE HF
    go_enter Tryz.func78, Tryz.ntmps78
    go_wp2_with go_in
    go_ret
    exact ⟨by rw [HQ.out]; rfl, HB.out _⟩
  have HQ : Hid (Q = 0) := HF.out p1 p2 t1 t2
  clear HE HF
  go_enter Tryz.func78, Tryz.ntmps78
  go_wp2_with go_in
  go_ret
  exact ⟨by rw [HQ.out]; rfl, HB.out _⟩
set_option maxHeartbeats 2000000 in
theorem goingA_any (a : Option Addr) (n c : Nat) (p t i : Int) (g d : Bool) (u : Value) (M : List (Int × Int)) (w : World) (hQ : PinsAt w u M) :
    Calls Tryz.prog 79 #[.agg #[.slice a n c, .int .i64 p, .int .i64 t, .bool g, .int .i64 i, u, .bool d]] w fun e w' => e = .returned (.int .i64 (goE g d t i M)) ∧ Below w.heap.size w w' := by
  obtain ⟨a', c', rfl⟩ := pins_slice hQ
  have HB : Hid (∀ O, Below w.heap.size w (w.alloc O)) := fun O => (Below.refl _ w).alloc (Nat.le_refl _) O
  have HR : Hid (∀ w', Below w.heap.size w w' → Calls Tryz.prog 42 #[.agg #[.int .i64 i, .slice a' M.length c']] w' fun e w'' => e = .returned (.int .i64 (Lk.chkRel i M)) ∧ Below w'.heap.size w' w'') := fun w' hb => release_any i _ M w' (hQ.below hb)
  have HA : Hid (∀ w', Below w.heap.size w w' → Calls Tryz.prog 29 #[.agg #[.int .i64 i, .slice a' M.length c'], .agg #[.int .i64 0, .slice none 0 0]] w' fun e w'' => e = .returned (.bool (Lk.alike i M 0 [])) ∧ Below w'.heap.size w' w'') := fun w' hb => alike_any i 0 _ _ M [] w' (hQ.below hb) (pins_none _)
  have HG : Hid (goE g d t i M = if g = true then (if (t == 0 || d) = true then 4 else Lk.chkRel i M) else (if Lk.alike i M 0 [] = true then 0 else 4)) := rfl
  clear hQ
  generalize goE g d t i M = Q at HG ⊢
  generalize Lk.chkRel i M = K at HG HR
  generalize Lk.alike i M 0 [] = AL at HG HA
  generalize M.length = m at HR HA ⊢
  cases g
  · have HQ : Hid (Q = if AL = true then 0 else 4) := (show Q = (if AL = true then 0 else 4) from by have := HG.out; simpa using this)
    clear HG HR
    go_enter Tryz.func79, Tryz.ntmps79
    go_wp2_with fail
    refine (HA.out _ (HB.out _)).mono ?_
    rintro e w1 ⟨rfl, hb1⟩
    have HB1 : Hid (Below w.heap.size w w1) := (HB.out _).trans (hb1.mono (by simp))
    clear hb1 HA HB
    cases AL
    · go_wp2
      go_ret
      exact ⟨by rw [HQ.out]; rfl, HB1.out⟩
    · go_wp2
      go_ret
      exact ⟨by rw [HQ.out]; rfl, HB1.out⟩
  · clear HA
    by_cases t0 : t = 0
    · subst t0
      have HQ : Hid (Q = 4) := (show Q = 4 from by have := HG.out; simpa using this)
      clear HG HR
      go_enter Tryz.func79, Tryz.ntmps79
      go_wp2
      go_ret
      exact ⟨by rw [HQ.out]; rfl, HB.out _⟩
    have t0' : (t == 0) = false := by simpa using t0
    cases d
    · have HQ : Hid (Q = K) := (show Q = K from by have := HG.out; simpa [t0'] using this)
      clear HG t0
      go_enter Tryz.func79, Tryz.ntmps79
      go_wp2_with fail
      refine (HR.out _ (HB.out _)).mono ?_
      rintro e w1 ⟨rfl, hb1⟩
      have HB1 : Hid (Below w.heap.size w w1) := (HB.out _).trans (hb1.mono (by simp))
      clear hb1 HR HB
      go_wp2
      go_ret
      exact ⟨by rw [HQ.out]; rfl, HB1.out⟩
    · have HQ : Hid (Q = 4) := (show Q = 4 from by have := HG.out; simpa using this)
      clear HG HR t0
      go_enter Tryz.func79, Tryz.ntmps79
      go_wp2
      go_ret
      exact ⟨by rw [HQ.out]; rfl, HB.out _⟩
/-- cmp.Or at three error numbers that were just laid -/
theorem orE_any (w : World) (x y z : Int) :
    Calls Tryz.prog 20 #[.slice (some ⟨w.heap.size, 0, none⟩) 3 3] (w.alloc (.cells #[.int .i64 x, .int .i64 y, .int .i64 z] 28)) fun e w' => e = .returned (.int .i64 (orr [x, y, z])) ∧ Below (w.alloc (.cells #[.int .i64 x, .int .i64 y, .int .i64 z] 28)).heap.size (w.alloc (.cells #[.int .i64 x, .int .i64 y, .int .i64 z] 28)) w' :=
  or_any w.heap.size 3 [x, y, z] _ (by simp) (cells3 _ _ _ _ _)
set_option maxHeartbeats 8000000 in
set_option maxRecDepth 100000 in
theorem agCheck_any (L M : List (Int × Int)) (p t i : Int) (g d : Bool) (v u : Value) (w : World) (hP : PinsAt w v L) (hQ : PinsAt w u M) :
    Calls Tryz.prog 44 #[agV ⟨L, p, t, g, i, M, d⟩ v u] w fun e w' => e = .returned (.int .i64 (Ag.chkAgent ⟨L, p, t, g, i, M, d⟩)) ∧ Below w.heap.size w w' := by
  obtain ⟨a, c, rfl⟩ := pins_slice hP
  obtain ⟨a', c', rfl⟩ := pins_slice hQ
  unfold agV agC
  simp only
  have HO : Hid (orr [Lk.chk L, numE p t, goE g d t i M] = Ag.chkAgent ⟨L, p, t, g, i, M, d⟩) := orr_ag L M p t i g d
  have HC : Hid (∀ w', Below w.heap.size w w' → Calls Tryz.prog 77 #[.slice a L.length c] w' fun e w'' => e = .returned (.int .i64 (Lk.chk L)) ∧ Below w'.heap.size w' w'') := fun w' hb => check_any _ L w' (hP.below hb)
  have HN : Hid (∀ w', Calls Tryz.prog 78 #[.agg #[.slice a L.length c, .int .i64 p, .int .i64 t, .bool g, .int .i64 i, .slice a' M.length c', .bool d]] w' fun e w'' => e = .returned (.int .i64 (numE p t)) ∧ Below w'.heap.size w' w'') := fun w' => numbersA_any a a' _ c _ c' p t i g d w'
  have HG : Hid (∀ w', Below w.heap.size w w' → Calls Tryz.prog 79 #[.agg #[.slice a L.length c, .int .i64 p, .int .i64 t, .bool g, .int .i64 i, .slice a' M.length c', .bool d]] w' fun e w'' => e = .returned (.int .i64 (goE g d t i M)) ∧ Below w'.heap.size w' w'') := fun w' hb => goingA_any a _ c p t i g d _ M w' (hQ.below hb)
  clear hP hQ
  generalize Ag.chkAgent ⟨L, p, t, g, i, M, d⟩ = Q at HO ⊢
  generalize Lk.chk L = C at HO HC
  generalize numE p t = E at HO HN
  generalize goE g d t i M = G at HO HG
  generalize L.length = n at HC HN HG ⊢
  generalize M.length = m at HN HG ⊢
  have HB0 : Hid (Below w.heap.size w (w.alloc (.cells #[.slice a n c, .int .i64 p, .int .i64 t, .bool g, .int .i64 i, .slice a' m c', .bool d] 27))) := (Below.refl _ w).alloc (Nat.le_refl _) _
  have HK0 : Hid (Blk (w.alloc (.cells #[.slice a n c, .int .i64 p, .int .i64 t, .bool g, .int .i64 i, .slice a' m c', .bool d] 27)) w.heap.size #[.slice a n c, .int .i64 p, .int .i64 t, .bool g, .int .i64 i, .slice a' m c', .bool d] 27) := blk_alloc w _ _
  go_enter Tryz.func44, Tryz.ntmps44
  go_wp2_with fail
  generalize w.alloc (.cells #[.slice a n c, .int .i64 p, .int .i64 t, .bool g, .int .i64 i, .slice a' m c', .bool d] 27) = W at HB0 HK0 ⊢
  generalize hgb : w.heap.size = gb at HK0 ⊢
  have S0 : Hid (W.drew.cell? ⟨gb, 0, none⟩ = some (.slice a n c) ∧ W.drew.cell? ⟨gb, 1, none⟩ = some (.int .i64 p) ∧ W.drew.cell? ⟨gb, 2, none⟩ = some (.int .i64 t) ∧ W.drew.cell? ⟨gb, 3, none⟩ = some (.bool g) ∧ W.drew.cell? ⟨gb, 4, none⟩ = some (.int .i64 i) ∧ W.drew.cell? ⟨gb, 5, none⟩ = some (.slice a' m c') ∧ W.drew.cell? ⟨gb, 6, none⟩ = some (.bool d) ∧ Hid (Below W.heap.size W W.drew)) := ⟨HK0.out.cell 0, HK0.out.cell 1, HK0.out.cell 2, HK0.out.cell 3, HK0.out.cell 4, HK0.out.cell 5, HK0.out.cell 6, (Below.refl _ W).drew⟩
  have KP : Hid (∀ x y : World, Below x.heap.size x y → (x.cell? ⟨gb, 0, none⟩ = some (.slice a n c) ∧ x.cell? ⟨gb, 1, none⟩ = some (.int .i64 p) ∧ x.cell? ⟨gb, 2, none⟩ = some (.int .i64 t) ∧ x.cell? ⟨gb, 3, none⟩ = some (.bool g) ∧ x.cell? ⟨gb, 4, none⟩ = some (.int .i64 i) ∧ x.cell? ⟨gb, 5, none⟩ = some (.slice a' m c') ∧ x.cell? ⟨gb, 6, none⟩ = some (.bool d) ∧ Hid (Below W.heap.size W x)) → (y.cell? ⟨gb, 0, none⟩ = some (.slice a n c) ∧ y.cell? ⟨gb, 1, none⟩ = some (.int .i64 p) ∧ y.cell? ⟨gb, 2, none⟩ = some (.int .i64 t) ∧ y.cell? ⟨gb, 3, none⟩ = some (.bool g) ∧ y.cell? ⟨gb, 4, none⟩ = some (.int .i64 i) ∧ y.cell? ⟨gb, 5, none⟩ = some (.slice a' m c') ∧ y.cell? ⟨gb, 6, none⟩ = some (.bool d) ∧ Hid (Below W.heap.size W y))) := fun x y hb h => by
    obtain ⟨h1, h2, h3, h4, h5, h6, h7, hB⟩ := h
    have e : ∀ b o v, x.cell? ⟨b, o, none⟩ = some v → y.cell? ⟨b, o, none⟩ = some v := fun b o v hc => (hb.cell (p := ⟨b, o, none⟩) (World.block_lt_of_cell? x _ hc)).trans hc
    exact ⟨e _ _ _ h1, e _ _ _ h2, e _ _ _ h3, e _ _ _ h4, e _ _ _ h5, e _ _ _ h6, e _ _ _ h7, hB.out.trans (hb.mono hB.out.size)⟩
  have KA : Hid (∀ (x : World) O, Below x.heap.size x (x.alloc O)) := fun x O => (Below.refl _ x).alloc (Nat.le_refl _) O
  have SP : Hid (∀ x : World, (x.cell? ⟨gb, 0, none⟩ = some (.slice a n c) ∧ x.cell? ⟨gb, 1, none⟩ = some (.int .i64 p) ∧ x.cell? ⟨gb, 2, none⟩ = some (.int .i64 t) ∧ x.cell? ⟨gb, 3, none⟩ = some (.bool g) ∧ x.cell? ⟨gb, 4, none⟩ = some (.int .i64 i) ∧ x.cell? ⟨gb, 5, none⟩ = some (.slice a' m c') ∧ x.cell? ⟨gb, 6, none⟩ = some (.bool d) ∧ Hid (Below W.heap.size W x)) → Below w.heap.size w x) := fun x h => HB0.out.trans (h.2.2.2.2.2.2.2.out.mono HB0.out.size)
  clear HK0
  go_region_held3 (fun w' => w'.cell? ⟨gb, 0, none⟩ = some (.slice a n c) ∧ w'.cell? ⟨gb, 1, none⟩ = some (.int .i64 p) ∧ w'.cell? ⟨gb, 2, none⟩ = some (.int .i64 t) ∧ w'.cell? ⟨gb, 3, none⟩ = some (.bool g) ∧ w'.cell? ⟨gb, 4, none⟩ = some (.int .i64 i) ∧ w'.cell? ⟨gb, 5, none⟩ = some (.slice a' m c') ∧ w'.cell? ⟨gb, 6, none⟩ = some (.bool d) ∧ Hid (Below W.heap.size W w')) (first | exact KP.out _ _ (by assumption) (by assumption) | exact S0.out | exact KP.out _ _ (KA.out _ _) (by assumption))
    (first
      | (go_at_call 77; refine (HC.out _ (SP.out _ (by assumption))).mono ?_; rintro e y ⟨rfl, hby⟩)
      | (go_at_call 78; refine (HN.out _).mono ?_; rintro e y ⟨rfl, hby⟩)
      | (go_at_call 79; refine (HG.out _ (SP.out _ (by assumption))).mono ?_; rintro e y ⟨rfl, hby⟩)
      | (go_at_call 20; refine (orE_any _ _ _ _).mono ?_; rintro e y ⟨rfl, hby⟩))
  have HB5 : Hid (Below w.heap.size w y) := SP.out _ (by assumption)
  go_wp2
  go_ret
  exact ⟨by rw [HO.out]; rfl, HB5.out⟩
set_option maxHeartbeats 4000000 in
theorem agLeft_any (L M : List (Int × Int)) (p t i : Int) (g d : Bool) (v u : Value) (w : World) (hP : PinsAt w v L) (hQ : PinsAt w u M) :
    Calls Tryz.prog 18 #[agV ⟨L, p, t, g, i, M, d⟩ v u] w fun e w' => (∃ x, e = .returned (.tuple #[x, .int .i64 (Ag.leftA ⟨L, p, t, g, i, M, d⟩).2]) ∧ OpsAt w' x (Ag.leftA ⟨L, p, t, g, i, M, d⟩).1) ∧ Below w.heap.size w w' := by
  obtain ⟨a, c, rfl⟩ := pins_slice hP
  obtain ⟨a', c', rfl⟩ := pins_slice hQ
  have HC : Hid (∀ w', Below w.heap.size w w' → Calls Tryz.prog 44 #[.agg #[.slice a L.length c, .int .i64 p, .int .i64 t, .bool g, .int .i64 i, .slice a' M.length c', .bool d]] w' fun e w'' => e = .returned (.int .i64 (Ag.chkAgent ⟨L, p, t, g, i, M, d⟩)) ∧ Below w'.heap.size w' w'') := fun w' hb => agCheck_any L M p t i g d _ _ w' (hP.below hb) (hQ.below hb)
  have HD : Hid (∀ w', Below w.heap.size w w' → Calls Tryz.prog 45 #[.slice a L.length c, .slice a' M.length c'] w' fun e w'' => (∃ x, e = .returned (.tuple #[x, .int .i64 (Dk.diffErr L M)]) ∧ OpsAt w'' x (Dk.diffed L M)) ∧ Below w'.heap.size w' w'') := fun w' hb => diff_any _ _ L M w' (hP.below hb) (hQ.below hb)
  have F1 : Hid (¬ Ag.chkAgent ⟨L, p, t, g, i, M, d⟩ = 0 → Ag.leftA ⟨L, p, t, g, i, M, d⟩ = ([], Ag.chkAgent ⟨L, p, t, g, i, M, d⟩)) := fun h => by unfold Ag.leftA; rw [if_neg h]
  have F2 : Hid (Ag.chkAgent ⟨L, p, t, g, i, M, d⟩ = 0 → g = false → Ag.leftA ⟨L, p, t, g, i, M, d⟩ = ([], 0)) := fun h h' => by unfold Ag.leftA; rw [if_pos h, if_neg (by simp [h'])]
  have F3 : Hid (Ag.chkAgent ⟨L, p, t, g, i, M, d⟩ = 0 → g = true → Dk.diffErr L M = 0 ∧ Ag.leftA ⟨L, p, t, g, i, M, d⟩ = (Dk.diffed L M, 0)) := fun h h' => by
    obtain ⟨h1, _, _, h4, _⟩ := Ag.chk_parts h
    have h5 := (Ag.rel_parts (h4 h').2.2).2
    have he : Dk.diffErr L M = 0 := by
      unfold Dk.diffErr
      rw [if_pos (show Lk.chk L = 0 from h1)]; exact h5
    refine ⟨he, ?_⟩
    unfold Ag.leftA
    rw [if_pos h, if_pos h', Dk.diffed, if_pos he]
    rfl
  clear hP hQ
  unfold agV agC
  simp only
  generalize Ag.leftA ⟨L, p, t, g, i, M, d⟩ = Q at F1 F2 F3 ⊢
  generalize Ag.chkAgent ⟨L, p, t, g, i, M, d⟩ = C at F1 F2 F3 HC
  generalize Dk.diffErr L M = DE at F3 HD
  generalize Dk.diffed L M = DD at F3 HD
  generalize L.length = n at HC HD ⊢
  generalize M.length = m at HC HD ⊢
  have HB0 : Hid (Below w.heap.size w (w.alloc (.cells #[.slice a n c, .int .i64 p, .int .i64 t, .bool g, .int .i64 i, .slice a' m c', .bool d] 27))) := (Below.refl _ w).alloc (Nat.le_refl _) _
  have HK0 : Hid (Blk (w.alloc (.cells #[.slice a n c, .int .i64 p, .int .i64 t, .bool g, .int .i64 i, .slice a' m c', .bool d] 27)) w.heap.size #[.slice a n c, .int .i64 p, .int .i64 t, .bool g, .int .i64 i, .slice a' m c', .bool d] 27) := blk_alloc w _ _
  go_enter Tryz.func18, Tryz.ntmps18
  go_wp2_with fail
  refine (HC.out _ HB0.out).mono ?_
  rintro e w1 ⟨rfl, hb1⟩
  have HB1 : Hid (Below w.heap.size w w1) := HB0.out.trans (hb1.mono HB0.out.size)
  have hk := HK0.out.below hb1
  have k0 := hk.cell 0
  have k3 := hk.cell 3
  have k4 := hk.cell 4
  have k5 := hk.cell 5
  simp only [List.getElem?_toArray, List.getElem?_cons_zero, List.getElem?_cons_succ] at k0 k3 k4 k5
  clear hb1 HB0 HK0 HC hk
  by_cases h1 : C = 0
  rotate_left
  · have h1b : (C != 0) = true := by rw [bne_iff_ne]; exact h1
    have HQ : Hid (Q = ([], C)) := F1.out h1
    clear F1 F2 F3 h1 HD
    go_wp2
    go_ret2
    exact ⟨⟨_, by rw [HQ.out]; rfl, by rw [HQ.out]; exact ops_none _⟩, HB1.out⟩
  subst h1
  cases g
  · have HQ : Hid (Q = ([], 0)) := F2.out rfl rfl
    clear F1 F2 F3 HD
    go_wp2
    go_ret2
    exact ⟨⟨_, by rw [HQ.out]; rfl, by rw [HQ.out]; exact ops_none _⟩, HB1.out⟩
  · have hF := F3.out rfl rfl
    have HQ : Hid (DE = 0 ∧ Q = (DD, 0)) := hF
    clear F1 F2 F3 hF
    go_wp2_with fail
    refine (HD.out _ HB1.out).mono ?_
    rintro e w2 ⟨⟨x, rfl, hx⟩, hb2⟩
    have HX : Hid (OpsAt w2 x DD) := hx
    have HB2 : Hid (Below w.heap.size w w2) := HB1.out.trans (hb2.mono HB1.out.size)
    clear hx hb2 HB1 HD
    go_wp2
    go_ret2
    exact ⟨⟨_, by rw [HQ.out.2, HQ.out.1]; rfl, by rw [HQ.out.2]; exact HX.out⟩, HB2.out⟩
end Go.Proofs.YtpenkhehceglfaaGreatDoor
