/- The contract of agent.Next. -/
import Derived.Test.YtpenkhehceglfaaGreatDoorAV1
import Derived.Test.YtpenkhehceglfaaGreatDoorAV3
import Derived.Test.YtpenkhehceglfaaGreatDoorMI
import Derived.Test.YtpenkhehceglfaaGreatDoorT7
import Derived.Test.YtpenkhehceglfaaGreatDoorMB
import Derived.Deep.RegionHeld3
import Derived.BigRegion
import Derived.Deep.CutBlock
namespace Go.Proofs.YtpenkhehceglfaaGreatDoor
open Go.RowKit
theorem ops_slice {w : World} {v : Value} {l : List (Int × Int × Int)} (h : OpsAt w v l) : ∃ a c, v = .slice a l.length c := by
  obtain ⟨_, c, ⟨rfl, a, rfl⟩ | ⟨b, o, rfl, _⟩⟩ := h
  · exact ⟨a, c, rfl⟩
  · exact ⟨_, c, rfl⟩
theorem ops_first {w : World} {v : Value} {o : Int × Int × Int} {r : List (Int × Int × Int)} (h : OpsAt w v (o :: r)) : ∃ b f c, v = .slice (some ⟨b, f, none⟩) (r.length + 1) c ∧ b < w.heap.size ∧ w.cell? ⟨b, f, none⟩ = some (.int .i64 o.1) ∧ w.cell? ⟨b, f + 1, none⟩ = some (.int .i64 o.2.1) ∧ w.cell? ⟨b, f + 2, none⟩ = some (.int .i64 o.2.2) := by
  obtain ⟨_, c, ⟨h0, _⟩ | ⟨b, f, rfl, _, h1, h2⟩⟩ := h
  · cases h0
  · have := h2 0 (by simp)
    simp only [Nat.zero_mul, Nat.add_zero, List.getD_cons_zero] at this
    exact ⟨b, f, c, rfl, h1, this⟩
/-! ### the errors, one after the other, are the document's -/
def nextE (a : Ag.Agent) (r : Lk.Note) : Int := orr [(Ag.leftA a).2, Lk.chkNote r, turnE a.going a.tr r.kind r.tr (Ag.leftA a).1.length]
theorem left_err (a : Ag.Agent) : (Ag.leftA a).2 = Ag.chkAgent a := by
  unfold Ag.leftA
  by_cases h : Ag.chkAgent a = 0
  · rw [if_pos h, h]
  · rw [if_neg h]
theorem note_kind {r : Lk.Note} (h : Lk.chkNote r = 0) : 1 ≤ r.kind := by
  unfold Lk.chkNote at h
  by_cases c1 : (!Lk.within r.kind 1 9 || Lk.unused r) = true
  · rw [if_pos c1] at h; exact absurd h (by decide)
  · simp only [Bool.or_eq_true, not_or, Bool.not_eq_true', Bool.not_eq_false] at c1
    have := c1.1
    simp [Lk.within] at this
    exact this.1
theorem note_begin {r : Lk.Note} (hn : Lk.chkNote r = 0) (k1 : r.kind = 1) : Lk.chkRel r.id r.lock = 0 := by
  unfold Lk.chkNote at hn
  by_cases c1 : (!Lk.within r.kind 1 9 || Lk.unused r) = true
  · rw [if_pos c1] at hn; exact absurd hn (by decide)
  · rw [if_neg c1] at hn
    by_cases c2 : Lk.outside r = true
    · rw [if_pos c2] at hn; exact absurd hn (by decide)
    · rw [if_neg c2, if_pos (by simp [Lk.uR, k1])] at hn
      exact hn
theorem left_good {a : Ag.Agent} (h : Ag.chkAgent a = 0) : (Ag.leftA a).1 = if a.going = true then Ag.stepsA a else [] := by unfold Ag.leftA; rw [if_pos h]
theorem nextE_in {a : Ag.Agent} {r : Lk.Note} (ha : Ag.chkAgent a = 0) (hr : Lk.chkNote r = 0) : nextE a r = turnE a.going a.tr r.kind r.tr (Ag.leftA a).1.length := by
  unfold nextE
  rw [left_err, ha, hr]
  simp only [orr, if_pos]
  by_cases h : turnE a.going a.tr r.kind r.tr (Ag.leftA a).1.length = 0
  · rw [if_pos h, h]
  · rw [if_neg h]
theorem nextE_bad {a : Ag.Agent} {r : Lk.Note} (h : ¬ nextE a r = 0) : Ag.nextA a r = (Ag.Agent.none, nextE a r) := by
  by_cases ha : Ag.chkAgent a = 0
  rotate_left
  · rw [nx_bad1 ha]; unfold nextE; rw [left_err]; simp only [orr]; rw [if_neg ha]
  by_cases hr : Lk.chkNote r = 0
  rotate_left
  · rw [nx_bad2 ha hr]; unfold nextE; rw [left_err]; simp only [orr]; rw [if_pos ha, if_neg hr]
  rw [nextE_in ha hr] at h ⊢
  rw [nx_in ha hr]
  have hl := left_good ha
  generalize hll : (Ag.leftA a).1 = LL at h hl ⊢
  unfold turnE at h ⊢
  by_cases k1 : r.kind = 1
  · simp only [if_pos k1] at h ⊢
    by_cases ht : a.tr < r.tr
    · rw [if_pos ht] at h; exact absurd rfl h
    · rw [if_neg ht, if_pos (by omega)]
  rw [if_neg k1] at h ⊢
  rw [if_neg k1]
  by_cases k2 : r.kind = 2
  · rw [if_pos k2] at h ⊢
    rw [if_neg (show ¬ 3 < r.kind from by omega)]
    by_cases hg : a.going = true ∧ a.tr = r.tr
    · rw [if_pos hg]
      rw [if_pos hg.1] at hl
      subst hl
      simp only [hg.1, hg.2, beq_self_eq_true, Bool.true_and, decide_eq_true_eq] at h ⊢
      unfold Ag.goesA
      cases hs : Ag.stepsA a with
      | nil => simp [k2]
      | cons o t => rw [hs] at h; simp at h
    · rw [if_neg hg, if_neg]
      simp only [Bool.and_eq_true, beq_iff_eq, decide_eq_true_eq]
      exact fun x => hg ⟨x.1.1, x.1.2⟩
  rw [if_neg k2] at h ⊢
  by_cases k3 : r.kind = 3
  · rw [if_pos k3] at h ⊢
    rw [if_neg (show ¬ 3 < r.kind from by omega)]
    by_cases hg : a.going = true ∧ a.tr = r.tr
    · rw [if_pos hg]
      rw [if_pos hg.1] at hl
      subst hl
      simp only [hg.1, hg.2, beq_self_eq_true, Bool.true_and, decide_eq_true_eq] at h ⊢
      unfold Ag.goesA
      cases hs : Ag.stepsA a with
      | nil => rw [hs] at h; simp at h
      | cons o t => simp [k3]
    · rw [if_neg hg, if_neg]
      simp only [Bool.and_eq_true, beq_iff_eq, decide_eq_true_eq]
      exact fun x => hg ⟨x.1.1, x.1.2⟩
  rw [if_neg k3]
  have := note_kind hr
  rw [if_pos (by omega)]
theorem nextE_good {a : Ag.Agent} {r : Lk.Note} (h : nextE a r = 0) : Ag.chkAgent a = 0 ∧ Lk.chkNote r = 0 ∧ ((r.kind = 1 ∧ Ag.nextA a r = (⟨a.lock, a.at', r.tr, true, r.id, r.lock, false⟩, 0)) ∨ (r.kind = 2 ∧ (∃ o s, (Ag.leftA a).1 = o :: s ∧ Ag.nextA a r = ({ a with lock := Dk.applied a.lock o }, 0) ∧ Dk.applyErr a.lock o = 0 ∧ Lk.chk (Dk.applied a.lock o) = 0)) ∨ (r.kind = 3 ∧ Ag.nextA a r = (⟨a.lock, a.gid, a.tr, false, 0, [], r.good⟩, 0))) := by
  have ha : Ag.chkAgent a = 0 := by
    by_cases ha : Ag.chkAgent a = 0
    · exact ha
    · unfold nextE at h; rw [left_err] at h; simp only [orr] at h; rw [if_neg ha] at h; exact h
  have hr : Lk.chkNote r = 0 := by
    by_cases hr : Lk.chkNote r = 0
    · exact hr
    · unfold nextE at h; rw [left_err] at h; simp only [orr] at h; rw [if_pos ha, if_neg hr] at h; exact h
  refine ⟨ha, hr, ?_⟩
  rw [nextE_in ha hr] at h
  rw [nx_in ha hr]
  have hl := left_good ha
  unfold turnE at h
  by_cases k1 : r.kind = 1
  · rw [if_pos k1] at h
    by_cases ht : a.tr < r.tr
    · exact .inl ⟨k1, by rw [if_pos k1, if_neg (by omega)]⟩
    · rw [if_neg ht] at h; exact absurd h (by decide)
  rw [if_neg k1] at h
  by_cases k2 : r.kind = 2
  · rw [if_pos k2] at h
    by_cases hg : (a.going && a.tr == r.tr && decide (0 < (Ag.leftA a).1.length)) = true
    · simp only [Bool.and_eq_true, beq_iff_eq, decide_eq_true_eq] at hg
      refine .inr (.inl ⟨k2, ?_⟩)
      rw [if_neg k1, if_neg (show ¬ 3 < r.kind from by omega), if_pos hg.1]
      rw [if_pos hg.1.1] at hl
      cases hs : Ag.stepsA a with
      | nil => rw [hl, hs] at hg; simp at hg
      | cons o s =>
        have hn := Ag.step_nearer ha hg.1.1 hs
        refine ⟨o, s, by rw [hl, hs], ?_, hn.2.2, (Ag.chk_parts hn.1).1⟩
        unfold Ag.goesA
        rw [hs]
        simp only
        rw [if_pos k2]
    · rw [if_neg hg] at h; exact absurd h (by decide)
  rw [if_neg k2] at h
  by_cases k3 : r.kind = 3
  · rw [if_pos k3] at h
    by_cases hg : (a.going && a.tr == r.tr && decide ((Ag.leftA a).1.length = 0)) = true
    · simp only [Bool.and_eq_true, beq_iff_eq, decide_eq_true_eq] at hg
      refine .inr (.inr ⟨k3, ?_⟩)
      rw [if_neg k1, if_neg (show ¬ 3 < r.kind from by omega), if_pos hg.1]
      rw [if_pos hg.1.1] at hl
      have hs : Ag.stepsA a = [] := by rw [← hl]; exact List.length_eq_zero_iff.1 hg.2
      unfold Ag.goesA
      rw [hs]
      simp only
      rw [if_pos k3]
    · rw [if_neg hg] at h; exact absurd h (by decide)
  rw [if_neg k3] at h
  exact absurd h (by decide)
set_option maxHeartbeats 16000000 in
set_option maxRecDepth 100000 in
theorem agNext_any (L M r7 : List (Int × Int)) (p t i r1 r2 r3 r4 r6 : Int) (g d r5 : Bool) (v u z : Value) (w : World) (hP : PinsAt w v L) (hQ : PinsAt w u M) (hR : PinsAt w z r7) :
    Calls Tryz.prog 8 #[agV ⟨L, p, t, g, i, M, d⟩ v u, recV ⟨r1, r2, r3, r4, r5, r6, r7⟩ z] w fun e w' => agN w' w.heap.size (Ag.nextA ⟨L, p, t, g, i, M, d⟩ ⟨r1, r2, r3, r4, r5, r6, r7⟩) e ∧ Below w.heap.size w w' := by
  obtain ⟨a, c, rfl⟩ := pins_slice hP
  obtain ⟨a', c', rfl⟩ := pins_slice hQ
  obtain ⟨b, f, rfl⟩ := pins_slice hR
  unfold agV agC recV
  simp only
  have HLf : Hid (∀ w', Below w.heap.size w w' → Calls Tryz.prog 18 #[.agg #[.slice a L.length c, .int .i64 p, .int .i64 t, .bool g, .int .i64 i, .slice a' M.length c', .bool d]] w' fun e w'' => (∃ x, e = .returned (.tuple #[x, .int .i64 (Ag.leftA ⟨L, p, t, g, i, M, d⟩).2]) ∧ OpsAt w'' x (Ag.leftA ⟨L, p, t, g, i, M, d⟩).1) ∧ Below w'.heap.size w' w'') := fun w' hb => agLeft_any L M p t i g d _ _ w' (hP.below hb) (hQ.below hb)
  have HCR : Hid (∀ w', Below w.heap.size w w' → Calls Tryz.prog 21 #[.agg #[.int .i64 r1, .int .i64 r2, .int .i64 r3, .int .i64 r4, .bool r5, .int .i64 r6, .slice b r7.length f]] w' fun e w'' => e = .returned (.int .i64 (Lk.chkNote ⟨r1, r2, r3, r4, r5, r6, r7⟩)) ∧ Below w'.heap.size w' w'') := fun w' hb => noteCheck_any ⟨r1, r2, r3, r4, r5, r6, r7⟩ _ w' (hR.below hb)
  have HCp : Hid (L.length ≤ 12 → M.length ≤ 12 → ∀ w', Below w.heap.size w w' → Calls Tryz.prog 23 #[.agg #[.slice a L.length c, .int .i64 p, .int .i64 t, .bool g, .int .i64 i, .slice a' M.length c', .bool d]] w' fun e w'' => (∃ y z, e = .returned (.agg #[y, .int .i64 p, .int .i64 t, .bool g, .int .i64 i, z, .bool d]) ∧ PinsNew w'' w'.heap.size y L ∧ PinsNew w'' w'.heap.size z M) ∧ Below w'.heap.size w' w'') := fun hl hm w' hb => copyAg_any L M p t i g d _ _ w' (hP.below hb) (hQ.below hb) hl hm
  have HCL : Hid (r7.length ≤ 12 → ∀ w', Below w.heap.size w w' → Calls Tryz.prog 24 #[.agg #[.int .i64 r6, .slice b r7.length f]] w' fun e w'' => (∃ y, e = .returned (.agg #[.int .i64 r6, y]) ∧ PinsNew w'' w'.heap.size y r7) ∧ Below w'.heap.size w' w'') := fun hl w' hb => copyRel_any r6 _ r7 w' (hR.below hb) hl
  have HAp : Hid (∀ o1 o2 o3, ∀ w', Below w.heap.size w w' → Calls Tryz.prog 25 #[.slice a L.length c, .agg #[.int .i64 o1, .int .i64 o2, .int .i64 o3]] w' fun e w'' => (∃ y, e = .returned (.tuple #[y, .int .i64 (Dk.applyErr L (o1, o2, o3))]) ∧ PinsNew w'' w'.heap.size y (Dk.applied L (o1, o2, o3))) ∧ Below w'.heap.size w' w'') := fun o1 o2 o3 w' hb => apply_new _ L o1 o2 o3 w' (hP.below hb)
  have HTu : Hid (∀ (k : Nat) w', Calls Tryz.prog 22 #[.agg #[.slice a L.length c, .int .i64 p, .int .i64 t, .bool g, .int .i64 i, .slice a' M.length c', .bool d], .agg #[.int .i64 r1, .int .i64 r2, .int .i64 r3, .int .i64 r4, .bool r5, .int .i64 r6, .slice b r7.length f], .int .i64 k] w' fun e w'' => e = .returned (.int .i64 (turnE g t r1 r3 k)) ∧ Below w'.heap.size w' w'') := fun k w' => turnA_any a a' b _ c _ c' _ f p t i r1 r2 r3 r4 r6 g d r5 k w'
  have HE : Hid (nextE ⟨L, p, t, g, i, M, d⟩ ⟨r1, r2, r3, r4, r5, r6, r7⟩ = orr [(Ag.leftA ⟨L, p, t, g, i, M, d⟩).2, Lk.chkNote ⟨r1, r2, r3, r4, r5, r6, r7⟩, turnE g t r1 r3 (Ag.leftA ⟨L, p, t, g, i, M, d⟩).1.length]) := rfl
  have F1 : Hid (¬ nextE ⟨L, p, t, g, i, M, d⟩ ⟨r1, r2, r3, r4, r5, r6, r7⟩ = 0 → Ag.nextA ⟨L, p, t, g, i, M, d⟩ ⟨r1, r2, r3, r4, r5, r6, r7⟩ = (Ag.Agent.none, nextE ⟨L, p, t, g, i, M, d⟩ ⟨r1, r2, r3, r4, r5, r6, r7⟩)) := fun h => nextE_bad h
  have F2 : Hid (nextE ⟨L, p, t, g, i, M, d⟩ ⟨r1, r2, r3, r4, r5, r6, r7⟩ = 0 → (L.length ≤ 12 ∧ M.length ≤ 12) ∧ (Lk.chk L = 0 ∧ Lk.chk M = 0) ∧ ((r1 = 1 ∧ Ag.nextA ⟨L, p, t, g, i, M, d⟩ ⟨r1, r2, r3, r4, r5, r6, r7⟩ = (⟨L, p, r3, true, r6, r7, false⟩, 0) ∧ Lk.chk r7 = 0) ∨ (r1 = 2 ∧ (∃ o s, (Ag.leftA ⟨L, p, t, g, i, M, d⟩).1 = o :: s ∧ Ag.nextA ⟨L, p, t, g, i, M, d⟩ ⟨r1, r2, r3, r4, r5, r6, r7⟩ = (⟨Dk.applied L o, p, t, g, i, M, d⟩, 0) ∧ Lk.chk (Dk.applied L o) = 0)) ∨ (r1 = 3 ∧ Ag.nextA ⟨L, p, t, g, i, M, d⟩ ⟨r1, r2, r3, r4, r5, r6, r7⟩ = (⟨L, i, t, false, 0, [], r5⟩, 0)))) := fun h => by
    obtain ⟨ha, hr, hc⟩ := nextE_good h
    obtain ⟨h1, _, _, h4, h5⟩ := Ag.chk_parts ha
    have hM : Lk.chk M = 0 := by
      cases g with
      | true => exact (Ag.rel_parts (h4 rfl).2.2).2
      | false => have := (h5 rfl).2; simp only at this; subst this; rfl
    refine ⟨⟨chk_len h1, chk_len hM⟩, ⟨h1, hM⟩, ?_⟩
    rcases hc with ⟨k, e⟩ | ⟨k, o, s, e1, e2, _, e4⟩ | ⟨k, e⟩
    · exact .inl ⟨k, e, (Ag.rel_parts (note_begin hr k)).2⟩
    · exact .inr (.inl ⟨k, o, s, e1, e2, e4⟩)
    · exact .inr (.inr ⟨k, e⟩)
  have HPW : Hid (∀ w', Below w.heap.size w w' → PinsAt w' (.slice b r7.length f) r7) := fun w' hb => hR.below hb
  clear hP hQ hR
  generalize Ag.nextA ⟨L, p, t, g, i, M, d⟩ ⟨r1, r2, r3, r4, r5, r6, r7⟩ = Q at F1 F2 ⊢
  generalize nextE ⟨L, p, t, g, i, M, d⟩ ⟨r1, r2, r3, r4, r5, r6, r7⟩ = NE at F1 F2 HE
  generalize Ag.leftA ⟨L, p, t, g, i, M, d⟩ = LF at HLf HE F2
  generalize Lk.chkNote ⟨r1, r2, r3, r4, r5, r6, r7⟩ = CR at HCR HE
  obtain ⟨LA, EL⟩ := LF
  simp only at HLf HE F2
  have HB0 : Hid (∀ x y z, Below w.heap.size w (((w.alloc x).alloc y).alloc z)) := fun x y z => (((Below.refl _ w).alloc (Nat.le_refl _) _).alloc (by simp) _).alloc (by simp; omega) _
  generalize hn : L.length = n at HLf HCp HAp HTu F2 ⊢
  generalize hm : M.length = m at HLf HCp HTu F2 ⊢
  generalize hq : r7.length = q at HCR HCL HTu HPW ⊢
  have HLn : Hid (L.length = n) := hn
  have HMm : Hid (M.length = m) := hm
  have HRq : Hid (r7.length = q) := hq
  clear hn hm hq
  have HA0 : Hid (Blk (((w.alloc (.cells #[.slice a n c, .int .i64 p, .int .i64 t, .bool g, .int .i64 i, .slice a' m c', .bool d] 27)).alloc (.cells #[.int .i64 r1, .int .i64 r2, .int .i64 r3, .int .i64 r4, .bool r5, .int .i64 r6, .slice b q f] 34)).alloc (.cells #[.slice none 0 0, .int .i64 0, .int .i64 0, .bool false, .int .i64 0, .slice none 0 0, .bool false] 27)) w.heap.size #[.slice a n c, .int .i64 p, .int .i64 t, .bool g, .int .i64 i, .slice a' m c', .bool d] 27) := ((blk_alloc w _ _).below ((Below.refl _ _).alloc (Nat.le_refl _) _)).below ((Below.refl _ _).alloc (Nat.le_refl _) _)
  have HR0 : Hid (Blk (((w.alloc (.cells #[.slice a n c, .int .i64 p, .int .i64 t, .bool g, .int .i64 i, .slice a' m c', .bool d] 27)).alloc (.cells #[.int .i64 r1, .int .i64 r2, .int .i64 r3, .int .i64 r4, .bool r5, .int .i64 r6, .slice b q f] 34)).alloc (.cells #[.slice none 0 0, .int .i64 0, .int .i64 0, .bool false, .int .i64 0, .slice none 0 0, .bool false] 27)) (w.heap.size + 1) #[.int .i64 r1, .int .i64 r2, .int .i64 r3, .int .i64 r4, .bool r5, .int .i64 r6, .slice b q f] 34) := by
    have := (blk_alloc (w.alloc (.cells #[.slice a n c, .int .i64 p, .int .i64 t, .bool g, .int .i64 i, .slice a' m c', .bool d] 27)) #[.int .i64 r1, .int .i64 r2, .int .i64 r3, .int .i64 r4, .bool r5, .int .i64 r6, .slice b q f] 34).below ((Below.refl _ _).alloc (Nat.le_refl _) (.cells #[.slice none 0 0, .int .i64 0, .int .i64 0, .bool false, .int .i64 0, .slice none 0 0, .bool false] 27))
    rwa [World.size_alloc] at this
  have HN0 : Hid (Blk (((w.alloc (.cells #[.slice a n c, .int .i64 p, .int .i64 t, .bool g, .int .i64 i, .slice a' m c', .bool d] 27)).alloc (.cells #[.int .i64 r1, .int .i64 r2, .int .i64 r3, .int .i64 r4, .bool r5, .int .i64 r6, .slice b q f] 34)).alloc (.cells #[.slice none 0 0, .int .i64 0, .int .i64 0, .bool false, .int .i64 0, .slice none 0 0, .bool false] 27)) (w.heap.size + 1 + 1) #[.slice none 0 0, .int .i64 0, .int .i64 0, .bool false, .int .i64 0, .slice none 0 0, .bool false] 27) := by
    have := blk_alloc ((w.alloc (.cells #[.slice a n c, .int .i64 p, .int .i64 t, .bool g, .int .i64 i, .slice a' m c', .bool d] 27)).alloc (.cells #[.int .i64 r1, .int .i64 r2, .int .i64 r3, .int .i64 r4, .bool r5, .int .i64 r6, .slice b q f] 34)) #[.slice none 0 0, .int .i64 0, .int .i64 0, .bool false, .int .i64 0, .slice none 0 0, .bool false] 27
    rwa [World.size_alloc, World.size_alloc] at this
  have HB0' : Hid (Below w.heap.size w (((w.alloc (.cells #[.slice a n c, .int .i64 p, .int .i64 t, .bool g, .int .i64 i, .slice a' m c', .bool d] 27)).alloc (.cells #[.int .i64 r1, .int .i64 r2, .int .i64 r3, .int .i64 r4, .bool r5, .int .i64 r6, .slice b q f] 34)).alloc (.cells #[.slice none 0 0, .int .i64 0, .int .i64 0, .bool false, .int .i64 0, .slice none 0 0, .bool false] 27))) := HB0.out _ _ _
  clear HB0
  go_enter Tryz.func8, Tryz.ntmps8
  go_upto_region 1 with fail
  generalize (((w.alloc (.cells #[.slice a n c, .int .i64 p, .int .i64 t, .bool g, .int .i64 i, .slice a' m c', .bool d] 27)).alloc (.cells #[.int .i64 r1, .int .i64 r2, .int .i64 r3, .int .i64 r4, .bool r5, .int .i64 r6, .slice b q f] 34)).alloc (.cells #[.slice none 0 0, .int .i64 0, .int .i64 0, .bool false, .int .i64 0, .slice none 0 0, .bool false] 27)) = w0 at HB0' HA0 HR0 HN0 ⊢
  have k0 := HA0.out.cell 0
  have k1 := HA0.out.cell 1
  have k2 := HA0.out.cell 2
  have k3 := HA0.out.cell 3
  have k4 := HA0.out.cell 4
  have k5 := HA0.out.cell 5
  have k6 := HA0.out.cell 6
  simp only [List.getElem?_toArray, List.getElem?_cons_zero, List.getElem?_cons_succ] at k0 k1 k2 k3 k4 k5 k6
  go_wp2_with fail
  refine (HLf.out _ HB0'.out).mono ?_
  rintro e w1 ⟨⟨x, rfl, hx⟩, hb1⟩
  obtain ⟨xa, xc, rfl⟩ := ops_slice hx
  have HX : Hid (OpsAt w1 (.slice xa LA.length xc) LA) := hx
  have HB1 : Hid (Below w.heap.size w w1) := HB0'.out.trans (hb1.mono HB0'.out.size)
  have HA1 : Hid (Blk w1 _ _ _) := HA0.out.below hb1
  have HR1 : Hid (Blk w1 _ _ _) := HR0.out.below hb1
  have HN1 : Hid (Blk w1 _ _ _) := HN0.out.below hb1
  clear hx hb1 HB0' HA0 HR0 HN0 HLf k0 k1 k2 k3 k4 k5 k6
  generalize hln : LA.length = ln at HX HE ⊢
  have HLl : Hid (LA.length = ln) := hln
  clear hln
  have S0 : Hid (w1.drew.cell? ⟨w.heap.size, 0, none⟩ = some (.slice a n c) ∧ w1.drew.cell? ⟨w.heap.size, 1, none⟩ = some (.int .i64 p) ∧ w1.drew.cell? ⟨w.heap.size, 2, none⟩ = some (.int .i64 t) ∧ w1.drew.cell? ⟨w.heap.size, 3, none⟩ = some (.bool g) ∧ w1.drew.cell? ⟨w.heap.size, 4, none⟩ = some (.int .i64 i) ∧ w1.drew.cell? ⟨w.heap.size, 5, none⟩ = some (.slice a' m c') ∧ w1.drew.cell? ⟨w.heap.size, 6, none⟩ = some (.bool d) ∧ w1.drew.cell? ⟨w.heap.size + 1, 0, none⟩ = some (.int .i64 r1) ∧ w1.drew.cell? ⟨w.heap.size + 1, 1, none⟩ = some (.int .i64 r2) ∧ w1.drew.cell? ⟨w.heap.size + 1, 2, none⟩ = some (.int .i64 r3) ∧ w1.drew.cell? ⟨w.heap.size + 1, 3, none⟩ = some (.int .i64 r4) ∧ w1.drew.cell? ⟨w.heap.size + 1, 4, none⟩ = some (.bool r5) ∧ w1.drew.cell? ⟨w.heap.size + 1, 5, none⟩ = some (.int .i64 r6) ∧ w1.drew.cell? ⟨w.heap.size + 1, 6, none⟩ = some (.slice b q f) ∧ Hid (Below w1.heap.size w1 w1.drew)) := ⟨HA1.out.cell 0, HA1.out.cell 1, HA1.out.cell 2, HA1.out.cell 3, HA1.out.cell 4, HA1.out.cell 5, HA1.out.cell 6, HR1.out.cell 0, HR1.out.cell 1, HR1.out.cell 2, HR1.out.cell 3, HR1.out.cell 4, HR1.out.cell 5, HR1.out.cell 6, (Below.refl _ w1).drew⟩
  have KP : Hid (∀ x y : World, Below x.heap.size x y → (x.cell? ⟨w.heap.size, 0, none⟩ = some (.slice a n c) ∧ x.cell? ⟨w.heap.size, 1, none⟩ = some (.int .i64 p) ∧ x.cell? ⟨w.heap.size, 2, none⟩ = some (.int .i64 t) ∧ x.cell? ⟨w.heap.size, 3, none⟩ = some (.bool g) ∧ x.cell? ⟨w.heap.size, 4, none⟩ = some (.int .i64 i) ∧ x.cell? ⟨w.heap.size, 5, none⟩ = some (.slice a' m c') ∧ x.cell? ⟨w.heap.size, 6, none⟩ = some (.bool d) ∧ x.cell? ⟨w.heap.size + 1, 0, none⟩ = some (.int .i64 r1) ∧ x.cell? ⟨w.heap.size + 1, 1, none⟩ = some (.int .i64 r2) ∧ x.cell? ⟨w.heap.size + 1, 2, none⟩ = some (.int .i64 r3) ∧ x.cell? ⟨w.heap.size + 1, 3, none⟩ = some (.int .i64 r4) ∧ x.cell? ⟨w.heap.size + 1, 4, none⟩ = some (.bool r5) ∧ x.cell? ⟨w.heap.size + 1, 5, none⟩ = some (.int .i64 r6) ∧ x.cell? ⟨w.heap.size + 1, 6, none⟩ = some (.slice b q f) ∧ Hid (Below w1.heap.size w1 x)) → (y.cell? ⟨w.heap.size, 0, none⟩ = some (.slice a n c) ∧ y.cell? ⟨w.heap.size, 1, none⟩ = some (.int .i64 p) ∧ y.cell? ⟨w.heap.size, 2, none⟩ = some (.int .i64 t) ∧ y.cell? ⟨w.heap.size, 3, none⟩ = some (.bool g) ∧ y.cell? ⟨w.heap.size, 4, none⟩ = some (.int .i64 i) ∧ y.cell? ⟨w.heap.size, 5, none⟩ = some (.slice a' m c') ∧ y.cell? ⟨w.heap.size, 6, none⟩ = some (.bool d) ∧ y.cell? ⟨w.heap.size + 1, 0, none⟩ = some (.int .i64 r1) ∧ y.cell? ⟨w.heap.size + 1, 1, none⟩ = some (.int .i64 r2) ∧ y.cell? ⟨w.heap.size + 1, 2, none⟩ = some (.int .i64 r3) ∧ y.cell? ⟨w.heap.size + 1, 3, none⟩ = some (.int .i64 r4) ∧ y.cell? ⟨w.heap.size + 1, 4, none⟩ = some (.bool r5) ∧ y.cell? ⟨w.heap.size + 1, 5, none⟩ = some (.int .i64 r6) ∧ y.cell? ⟨w.heap.size + 1, 6, none⟩ = some (.slice b q f) ∧ Hid (Below w1.heap.size w1 y))) := fun x y hb h => by
    obtain ⟨h1, h2, h3, h4, h5, h6, h7, j1, j2, j3, j4, j5, j6, j7, hB⟩ := h
    have e : ∀ b o v, x.cell? ⟨b, o, none⟩ = some v → y.cell? ⟨b, o, none⟩ = some v := fun b o v hc => (hb.cell (p := ⟨b, o, none⟩) (World.block_lt_of_cell? x _ hc)).trans hc
    exact ⟨e _ _ _ h1, e _ _ _ h2, e _ _ _ h3, e _ _ _ h4, e _ _ _ h5, e _ _ _ h6, e _ _ _ h7, e _ _ _ j1, e _ _ _ j2, e _ _ _ j3, e _ _ _ j4, e _ _ _ j5, e _ _ _ j6, e _ _ _ j7, hB.out.trans (hb.mono hB.out.size)⟩
  have KA : Hid (∀ (x : World) O, Below x.heap.size x (x.alloc O)) := fun x O => (Below.refl _ x).alloc (Nat.le_refl _) O
  have SP : Hid (∀ x : World, (x.cell? ⟨w.heap.size, 0, none⟩ = some (.slice a n c) ∧ x.cell? ⟨w.heap.size, 1, none⟩ = some (.int .i64 p) ∧ x.cell? ⟨w.heap.size, 2, none⟩ = some (.int .i64 t) ∧ x.cell? ⟨w.heap.size, 3, none⟩ = some (.bool g) ∧ x.cell? ⟨w.heap.size, 4, none⟩ = some (.int .i64 i) ∧ x.cell? ⟨w.heap.size, 5, none⟩ = some (.slice a' m c') ∧ x.cell? ⟨w.heap.size, 6, none⟩ = some (.bool d) ∧ x.cell? ⟨w.heap.size + 1, 0, none⟩ = some (.int .i64 r1) ∧ x.cell? ⟨w.heap.size + 1, 1, none⟩ = some (.int .i64 r2) ∧ x.cell? ⟨w.heap.size + 1, 2, none⟩ = some (.int .i64 r3) ∧ x.cell? ⟨w.heap.size + 1, 3, none⟩ = some (.int .i64 r4) ∧ x.cell? ⟨w.heap.size + 1, 4, none⟩ = some (.bool r5) ∧ x.cell? ⟨w.heap.size + 1, 5, none⟩ = some (.int .i64 r6) ∧ x.cell? ⟨w.heap.size + 1, 6, none⟩ = some (.slice b q f) ∧ Hid (Below w1.heap.size w1 x)) → Below w.heap.size w x) := fun x h => HB1.out.trans (h.2.2.2.2.2.2.2.2.2.2.2.2.2.2.out.mono HB1.out.size)
  have SQ : Hid (∀ x : World, (x.cell? ⟨w.heap.size, 0, none⟩ = some (.slice a n c) ∧ x.cell? ⟨w.heap.size, 1, none⟩ = some (.int .i64 p) ∧ x.cell? ⟨w.heap.size, 2, none⟩ = some (.int .i64 t) ∧ x.cell? ⟨w.heap.size, 3, none⟩ = some (.bool g) ∧ x.cell? ⟨w.heap.size, 4, none⟩ = some (.int .i64 i) ∧ x.cell? ⟨w.heap.size, 5, none⟩ = some (.slice a' m c') ∧ x.cell? ⟨w.heap.size, 6, none⟩ = some (.bool d) ∧ x.cell? ⟨w.heap.size + 1, 0, none⟩ = some (.int .i64 r1) ∧ x.cell? ⟨w.heap.size + 1, 1, none⟩ = some (.int .i64 r2) ∧ x.cell? ⟨w.heap.size + 1, 2, none⟩ = some (.int .i64 r3) ∧ x.cell? ⟨w.heap.size + 1, 3, none⟩ = some (.int .i64 r4) ∧ x.cell? ⟨w.heap.size + 1, 4, none⟩ = some (.bool r5) ∧ x.cell? ⟨w.heap.size + 1, 5, none⟩ = some (.int .i64 r6) ∧ x.cell? ⟨w.heap.size + 1, 6, none⟩ = some (.slice b q f) ∧ Hid (Below w1.heap.size w1 x)) → Below w1.heap.size w1 x) := fun x h => h.2.2.2.2.2.2.2.2.2.2.2.2.2.2.out
  go_wp2_with fail
  go_region_held3 (fun w' => w'.cell? ⟨w.heap.size, 0, none⟩ = some (.slice a n c) ∧ w'.cell? ⟨w.heap.size, 1, none⟩ = some (.int .i64 p) ∧ w'.cell? ⟨w.heap.size, 2, none⟩ = some (.int .i64 t) ∧ w'.cell? ⟨w.heap.size, 3, none⟩ = some (.bool g) ∧ w'.cell? ⟨w.heap.size, 4, none⟩ = some (.int .i64 i) ∧ w'.cell? ⟨w.heap.size, 5, none⟩ = some (.slice a' m c') ∧ w'.cell? ⟨w.heap.size, 6, none⟩ = some (.bool d) ∧ w'.cell? ⟨w.heap.size + 1, 0, none⟩ = some (.int .i64 r1) ∧ w'.cell? ⟨w.heap.size + 1, 1, none⟩ = some (.int .i64 r2) ∧ w'.cell? ⟨w.heap.size + 1, 2, none⟩ = some (.int .i64 r3) ∧ w'.cell? ⟨w.heap.size + 1, 3, none⟩ = some (.int .i64 r4) ∧ w'.cell? ⟨w.heap.size + 1, 4, none⟩ = some (.bool r5) ∧ w'.cell? ⟨w.heap.size + 1, 5, none⟩ = some (.int .i64 r6) ∧ w'.cell? ⟨w.heap.size + 1, 6, none⟩ = some (.slice b q f) ∧ Hid (Below w1.heap.size w1 w')) (first | exact KP.out _ _ (by assumption) (by assumption) | exact S0.out | exact KP.out _ _ (KA.out _ _) (by assumption))
    (first
      | (go_at_call 21; refine (HCR.out _ (SP.out _ (by assumption))).mono ?_; rintro e y ⟨rfl, hby⟩)
      | (go_at_call 22; refine (HTu.out ln _).mono ?_; rintro e y ⟨rfl, hby⟩)
      | (go_at_call 20; refine (orE_any _ _ _ _).mono ?_; rintro e y ⟨rfl, hby⟩))
  have HB2 : Hid (Below w.heap.size w y) := SP.out _ (by assumption)
  have hb2 : Below w1.heap.size w1 y := SQ.out _ (by assumption)
  have HA2 : Hid (Blk y _ _ _) := HA1.out.below hb2
  have HR2 : Hid (Blk y _ _ _) := HR1.out.below hb2
  have HN2 : Hid (Blk y _ _ _) := HN1.out.below hb2
  have HX2 : Hid (OpsAt y (.slice xa ln xc) LA) := HX.out.below hb2
  clear HCR HTu KP KA SP SQ S0 HB1 HA1 HR1 HN1 HX
  clear hb2
  try clear hby
  rw [← HE.out]
  clear HE
  -- behind the errors
  rename_i HS
  clear HS
  by_cases h1 : NE = 0
  rotate_left
  · have h1b : (NE != 0) = true := by rw [bne_iff_ne]; exact h1
    have HQ : Hid (Q = (Ag.Agent.none, NE)) := F1.out h1
    clear F1 F2 h1 HA2 HR2 HX2 HCp HCL HAp HPW
    have d0 := HN2.out.cell 0
    have d1 := HN2.out.cell 1
    have d2 := HN2.out.cell 2
    have d3 := HN2.out.cell 3
    have d4 := HN2.out.cell 4
    have d5 := HN2.out.cell 5
    have d6 := HN2.out.cell 6
    simp only [List.getElem?_toArray, List.getElem?_cons_zero, List.getElem?_cons_succ] at d0 d1 d2 d3 d4 d5 d6
    have df0 := HN2.out.free 0
    have df1 := HN2.out.free 1
    have df2 := HN2.out.free 2
    have df3 := HN2.out.free 3
    have df4 := HN2.out.free 4
    have df5 := HN2.out.free 5
    have df6 := HN2.out.free 6
    clear HN2
    go_wp2
    refine bodyPost_ret (v := .tuple #[.agg #[.slice none 0 0, .int .i64 0, .int .i64 0, .bool false, .int .i64 0, .slice none 0 0, .bool false], .int .i64 NE]) (by simp [results, Tryz.results8, go_sem, d0, d1, d2, d3, d4, d5, d6]) rfl ⟨agN_none _ _ HQ.out, ?_⟩
    exact (((((((HB2.out.setCell (Nat.le_add_right _ 2) _).setCell (Nat.le_add_right _ 2) _).setCell (Nat.le_add_right _ 2) _).setCell (Nat.le_add_right _ 2) _).setCell (Nat.le_add_right _ 2) _).setCell (Nat.le_add_right _ 2) _).setCell (Nat.le_add_right _ 2) _)
  subst h1
  obtain ⟨⟨hln, hlm⟩, ⟨hcl, hcm⟩, hF⟩ := F2.out rfl
  have HF : Hid ((r1 = 1 ∧ Q = (⟨L, p, r3, true, r6, r7, false⟩, 0) ∧ Lk.chk r7 = 0) ∨ (r1 = 2 ∧ (∃ o s, LA = o :: s ∧ Q = (⟨Dk.applied L o, p, t, g, i, M, d⟩, 0) ∧ Lk.chk (Dk.applied L o) = 0)) ∨ (r1 = 3 ∧ Q = (⟨L, i, t, false, 0, [], r5⟩, 0))) := hF
  have HCL0 : Hid (Lk.chk L = 0) := hcl
  have HCM0 : Hid (Lk.chk M = 0) := hcm
  have HCp' := HCp.out hln hlm
  clear hF hcl hcm hln hlm F1 F2 HCp
  have HCq : Hid (∀ w', Below w.heap.size w w' → Calls Tryz.prog 23 #[.agg #[.slice a n c, .int .i64 p, .int .i64 t, .bool g, .int .i64 i, .slice a' m c', .bool d]] w' fun e w'' => (∃ y z, e = .returned (.agg #[y, .int .i64 p, .int .i64 t, .bool g, .int .i64 i, z, .bool d]) ∧ PinsNew w'' w'.heap.size y L ∧ PinsNew w'' w'.heap.size z M) ∧ Below w'.heap.size w' w'') := HCp'
  clear HCp'
  have k0 := HA2.out.cell 0
  have k1 := HA2.out.cell 1
  have k2 := HA2.out.cell 2
  have k3 := HA2.out.cell 3
  have k4 := HA2.out.cell 4
  have k5 := HA2.out.cell 5
  have k6 := HA2.out.cell 6
  simp only [List.getElem?_toArray, List.getElem?_cons_zero, List.getElem?_cons_succ] at k0 k1 k2 k3 k4 k5 k6
  go_wp2_with fail
  refine (HCq.out _ HB2.out).mono ?_
  rintro e w5 ⟨⟨y1, y2, rfl, hy1, hy2⟩, hb5⟩
  obtain ⟨ya, yc, rfl⟩ := pins_slice hy1.pins
  obtain ⟨za, zc, rfl⟩ := pins_slice hy2.pins
  rw [HLn.out] at hy1
  rw [HMm.out] at hy2
  rw [HLn.out, HMm.out]
  clear k0 k1 k2 k3 k4 k5 k6 HCq
  have hbA : Below w5.heap.size w5 (w5.alloc (.cells #[.slice ya n yc, .int .i64 p, .int .i64 t, .bool g, .int .i64 i, .slice za m zc, .bool d] 27)) := (Below.refl _ _).alloc (Nat.le_refl _) _
  have hbB : Below y.heap.size y (w5.alloc (.cells #[.slice ya n yc, .int .i64 p, .int .i64 t, .bool g, .int .i64 i, .slice za m zc, .bool d] 27)) := hb5.trans (hbA.mono hb5.size)
  have HA5 : Hid (Blk (w5.alloc (.cells #[.slice ya n yc, .int .i64 p, .int .i64 t, .bool g, .int .i64 i, .slice za m zc, .bool d] 27)) w.heap.size #[.slice a n c, .int .i64 p, .int .i64 t, .bool g, .int .i64 i, .slice a' m c', .bool d] 27) := HA2.out.below hbB
  have HR5 : Hid (Blk (w5.alloc (.cells #[.slice ya n yc, .int .i64 p, .int .i64 t, .bool g, .int .i64 i, .slice za m zc, .bool d] 27)) (w.heap.size + 1) #[.int .i64 r1, .int .i64 r2, .int .i64 r3, .int .i64 r4, .bool r5, .int .i64 r6, .slice b q f] 34) := HR2.out.below hbB
  have HN5 : Hid (Blk (w5.alloc (.cells #[.slice ya n yc, .int .i64 p, .int .i64 t, .bool g, .int .i64 i, .slice za m zc, .bool d] 27)) (w.heap.size + 1 + 1) #[.slice none 0 0, .int .i64 0, .int .i64 0, .bool false, .int .i64 0, .slice none 0 0, .bool false] 27) := HN2.out.below hbB
  have HX5 : Hid (OpsAt (w5.alloc (.cells #[.slice ya n yc, .int .i64 p, .int .i64 t, .bool g, .int .i64 i, .slice za m zc, .bool d] 27)) (.slice xa ln xc) LA) := HX2.out.below hbB
  have HK5 : Hid (Blk (w5.alloc (.cells #[.slice ya n yc, .int .i64 p, .int .i64 t, .bool g, .int .i64 i, .slice za m zc, .bool d] 27)) w5.heap.size #[.slice ya n yc, .int .i64 p, .int .i64 t, .bool g, .int .i64 i, .slice za m zc, .bool d] 27) := blk_alloc w5 _ _
  have HB5 : Hid (Below w.heap.size w (w5.alloc (.cells #[.slice ya n yc, .int .i64 p, .int .i64 t, .bool g, .int .i64 i, .slice za m zc, .bool d] 27))) := HB2.out.trans (hbB.mono HB2.out.size)
  have hB3 : w.heap.size + 1 + 1 + 1 ≤ y.heap.size := HN2.out.lt
  have PY5 : Hid (PinsNew (w5.alloc (.cells #[.slice ya n yc, .int .i64 p, .int .i64 t, .bool g, .int .i64 i, .slice za m zc, .bool d] 27)) (w.heap.size + 1 + 1 + 1) (.slice ya n yc) L ∧ PinsAt w5 (.slice ya n yc) L) := ⟨(hy1.mono hB3).below hbA, hy1.pins⟩
  have PZ5 : Hid (PinsNew (w5.alloc (.cells #[.slice ya n yc, .int .i64 p, .int .i64 t, .bool g, .int .i64 i, .slice za m zc, .bool d] 27)) (w.heap.size + 1 + 1 + 1) (.slice za m zc) M ∧ PinsAt w5 (.slice za m zc) M) := ⟨(hy2.mono hB3).below hbA, hy2.pins⟩
  have HW5 : Hid (Below w5.heap.size w5 (w5.alloc (.cells #[.slice ya n yc, .int .i64 p, .int .i64 t, .bool g, .int .i64 i, .slice za m zc, .bool d] 27))) := hbA
  have HL9 : Hid (w.heap.size + 1 + 1 < w5.heap.size) := Nat.lt_of_lt_of_le HN2.out.lt hb5.size
  clear hbA hbB hb5 hB3 HA2 HR2 HN2 HX2 HB2 hy1 hy2
  go_upto_region 6 with fail
  generalize (w5.alloc (.cells #[.slice ya n yc, .int .i64 p, .int .i64 t, .bool g, .int .i64 i, .slice za m zc, .bool d] 27)) = w6 at HA5 HR5 HN5 HX5 HK5 HB5 PY5 PZ5 HW5 ⊢
  generalize hg9 : w5.heap.size = g9 at HK5 HL9 ⊢
  have HG9 : Hid (w5.heap.size = g9) := hg9
  clear hg9
  have x0 := HR5.out.cell 0
  simp only [List.getElem?_toArray, List.getElem?_cons_zero] at x0
  go_upto_block 0 with fail
  clear x0
  go_cut [] from 33 to 67 (fun wx => ∃ (A' : Ag.Agent) (sa : Option Addr) (sn sc : Nat) (ta : Option Addr) (tn tc : Nat), Hid (Q = (A', 0) ∧ Blk wx g9 #[.slice sa sn sc, .int .i64 A'.at', .int .i64 A'.tr, .bool A'.going, .int .i64 A'.gid, .slice ta tn tc, .bool A'.good] 27 ∧ Blk wx (w.heap.size + 1 + 1) #[.slice none 0 0, .int .i64 0, .int .i64 0, .bool false, .int .i64 0, .slice none 0 0, .bool false] 27 ∧ PinsNew wx (w.heap.size + 1 + 1 + 1) (.slice sa sn sc) A'.lock ∧ PinsNew wx (w.heap.size + 1 + 1 + 1) (.slice ta tn tc) A'.glock ∧ Below w.heap.size w wx))
  case first =>
    rcases HF.out with ⟨e1, hQ, hc7⟩ | ⟨e2, o, s, hla, hQ, hca⟩ | ⟨e3, hQ⟩
    · subst e1
      have HQ : Hid (Q = (⟨L, p, r3, true, r6, r7, false⟩, 0)) := hQ
      have HCl := HCL.out (by have := chk_len hc7; rw [HRq.out] at this; exact this)
      have HCR' : Hid (∀ w', Below w.heap.size w w' → Calls Tryz.prog 24 #[.agg #[.int .i64 r6, .slice b q f]] w' fun e w'' => (∃ y, e = .returned (.agg #[.int .i64 r6, y]) ∧ PinsNew w'' w'.heap.size y r7) ∧ Below w'.heap.size w' w'') := HCl
      clear hQ hc7 HF HCL HCl HAp HX5 HPW
      go_upto_region 8 with fail
      have hB : Below w.heap.size w w6.drew := HB5.out.drew
      have hR : Blk w6.drew (w.heap.size + 1) #[.int .i64 1, .int .i64 r2, .int .i64 r3, .int .i64 r4, .bool r5, .int .i64 r6, .slice b q f] 34 := HR5.out
      have HKd : Hid (Blk w6.drew g9 #[.slice ya n yc, .int .i64 p, .int .i64 t, .bool g, .int .i64 i, .slice za m zc, .bool d] 27) := HK5.out
      have HZd : Hid (Blk w6.drew (w.heap.size + 1 + 1) #[.slice none 0 0, .int .i64 0, .int .i64 0, .bool false, .int .i64 0, .slice none 0 0, .bool false] 27) := HN5.out
      have x2 := hR.cell 2
      have x5 := hR.cell 5
      have x6 := hR.cell 6
      simp only [List.getElem?_toArray, List.getElem?_cons_zero, List.getElem?_cons_succ] at x2 x5 x6
      go_region_with (go_at_call 24; refine (HCR'.out _ (by assumption)).mono ?_; rintro e w7 ⟨⟨y, rfl, hy⟩, hb7⟩; obtain ⟨sa, sc, rfl⟩ := pins_slice hy.pins; rw [HRq.out]; have PS : Hid (PinsNew w7 _ (.slice sa r7.length sc) r7) := hy; rw [HRq.out] at PS; have hBn : Below w.heap.size w w7 := Below.trans (by assumption) (hb7.mono (Below.size (by assumption))); have hRn : Blk w7 (w.heap.size + 1) #[.int .i64 1, .int .i64 r2, .int .i64 r3, .int .i64 r4, .bool r5, .int .i64 r6, .slice b q f] 34 := Blk.below (by assumption) hb7; have hKn : Blk w7 g9 #[.slice ya n yc, .int .i64 p, .int .i64 t, .bool g, .int .i64 i, .slice za m zc, .bool d] 27 := HKd.out.below hb7; have hZn : Blk w7 (w.heap.size + 1 + 1) #[.slice none 0 0, .int .i64 0, .int .i64 0, .bool false, .int .i64 0, .slice none 0 0, .bool false] 27 := HZd.out.below hb7; clear hy; have x2 := hRn.cell 2; have x5 := hRn.cell 5; have x6 := hRn.cell 6; simp only [List.getElem?_toArray, List.getElem?_cons_zero, List.getElem?_cons_succ] at x2 x5 x6; have kk2 := hKn.cell 2; have kk3 := hKn.cell 3; have kk4 := hKn.cell 4; have kk5 := hKn.cell 5; have kk6 := hKn.cell 6; simp only [List.getElem?_toArray, List.getElem?_cons_zero, List.getElem?_cons_succ] at kk2 kk3 kk4 kk5 kk6; have kkf2 := hKn.free 2; have kkf3 := hKn.free 3; have kkf4 := hKn.free 4; have kkf5 := hKn.free 5; have kkf6 := hKn.free 6;)
      all_goals
        go_wp2_with fail
        go_meet
        have hg : g9 < w6.drew.heap.size := HKd.out.lt
        have hgl : w.heap.size ≤ g9 := by have := HL9.out; have := HG9.out; omega
        have h9 : w5.heap.size ≤ g9 := by have := HG9.out; omega
        have hB6 : w.heap.size + 1 + 1 + 1 ≤ w6.drew.heap.size := HN5.out.lt
        have hz9 : g9 ≠ w.heap.size + 1 + 1 := by have := HL9.out; have := HG9.out; omega
        refine ⟨⟨L, p, r3, true, r6, r7, false⟩, ya, n, yc, sa, q, sc, ⟨HQ.out, ((((hKn.put 2 (.int .i64 r3)).put 3 (.bool true)).put 4 (.int .i64 r6)).put 5 (.slice sa q sc)).put 6 (.bool false), ((((hZn.off hz9).off hz9).off hz9).off hz9).off hz9, ?_, ?_, ((((hBn.setCell hgl _).setCell hgl _).setCell hgl _).setCell hgl _).setCell hgl _⟩⟩
        · exact ((((((show PinsNew w6.drew _ _ _ from PY5.out.1).below hb7).setO PY5.out.2 h9).setO PY5.out.2 h9).setO PY5.out.2 h9).setO PY5.out.2 h9).setO PY5.out.2 h9
        · exact (((((PS.out.set hg).set hg).set hg).set hg).set hg).mono hB6
    · subst e2
      obtain ⟨o1, o2, o3⟩ := o
      have HQ : Hid (Q = (⟨Dk.applied L (o1, o2, o3), p, t, g, i, M, d⟩, 0)) := hQ
      have HApo : Hid (∀ w', Below w.heap.size w w' → Calls Tryz.prog 25 #[.slice a n c, .agg #[.int .i64 o1, .int .i64 o2, .int .i64 o3]] w' fun e w'' => (∃ y, e = .returned (.tuple #[y, .int .i64 (Dk.applyErr L (o1, o2, o3))]) ∧ PinsNew w'' w'.heap.size y (Dk.applied L (o1, o2, o3))) ∧ Below w'.heap.size w' w'') := HAp.out o1 o2 o3
      subst hla
      obtain ⟨ob, of, oc, he, ho1, ho2, ho3, ho4⟩ := ops_first HX5.out
      have hln := HLl.out
      simp only [List.length_cons] at hln
      injection he with he1 he2 he3
      subst he1 he3
      have hlp : (0 : Int) < (ln : Int) := by omega
      have HO : Hid (ob < w6.heap.size ∧ w6.cell? ⟨ob, of, none⟩ = some (.int .i64 o1) ∧ w6.cell? ⟨ob, of + 1, none⟩ = some (.int .i64 o2) ∧ w6.cell? ⟨ob, of + 2, none⟩ = some (.int .i64 o3)) := ⟨ho1, ho2, ho3, ho4⟩
      clear hQ hca HF HCL HAp HX5 HPW ho1 ho2 ho3 ho4 hln he2 HLl
      generalize Dk.applyErr L (o1, o2, o3) = AE at HApo
      generalize Dk.applied L (o1, o2, o3) = AL at HApo HQ
      go_upto_region 10 with fail
      have hB : Below w.heap.size w w6.drew := HB5.out.drew
      have hA : Blk w6.drew w.heap.size #[.slice a n c, .int .i64 p, .int .i64 t, .bool g, .int .i64 i, .slice a' m c', .bool d] 27 := HA5.out
      have HKd : Hid (Blk w6.drew g9 #[.slice ya n yc, .int .i64 p, .int .i64 t, .bool g, .int .i64 i, .slice za m zc, .bool d] 27) := HK5.out
      have HZd : Hid (Blk w6.drew (w.heap.size + 1 + 1) #[.slice none 0 0, .int .i64 0, .int .i64 0, .bool false, .int .i64 0, .slice none 0 0, .bool false] 27) := HN5.out
      have o1c : w6.drew.cell? ⟨ob, of, none⟩ = some (.int .i64 o1) := HO.out.2.1
      have o2c : w6.drew.cell? ⟨ob, of + 1, none⟩ = some (.int .i64 o2) := HO.out.2.2.1
      have o3c : w6.drew.cell? ⟨ob, of + 2, none⟩ = some (.int .i64 o3) := HO.out.2.2.2
      have x0 := hA.cell 0
      simp only [List.getElem?_toArray, List.getElem?_cons_zero] at x0
      go_region_with (go_at_call 25; refine (HApo.out _ (by assumption)).mono ?_; rintro e w7 ⟨⟨y, rfl, hy⟩, hb7⟩; obtain ⟨sa, sc, rfl⟩ := pins_slice hy.pins; have PS : Hid (PinsNew w7 _ (.slice sa AL.length sc) AL) := hy; have hBn : Below w.heap.size w w7 := Below.trans (by assumption) (hb7.mono (Below.size (by assumption))); have hKn : Blk w7 g9 #[.slice ya n yc, .int .i64 p, .int .i64 t, .bool g, .int .i64 i, .slice za m zc, .bool d] 27 := HKd.out.below hb7; have hZn : Blk w7 (w.heap.size + 1 + 1) #[.slice none 0 0, .int .i64 0, .int .i64 0, .bool false, .int .i64 0, .slice none 0 0, .bool false] 27 := HZd.out.below hb7; clear hy; have kk0 := hKn.cell 0; simp only [List.getElem?_toArray, List.getElem?_cons_zero] at kk0; have kkf0 := hKn.free 0;)
      all_goals
        go_wp2_with fail
        go_meet
        have hg : g9 < w6.drew.heap.size := HKd.out.lt
        have hgl : w.heap.size ≤ g9 := by have := HL9.out; have := HG9.out; omega
        have h9 : w5.heap.size ≤ g9 := by have := HG9.out; omega
        have hB6 : w.heap.size + 1 + 1 + 1 ≤ w6.drew.heap.size := HN5.out.lt
        have hz9 : g9 ≠ w.heap.size + 1 + 1 := by have := HL9.out; have := HG9.out; omega
        refine ⟨⟨AL, p, t, g, i, M, d⟩, sa, AL.length, sc, za, m, zc, ⟨HQ.out, hKn.put 0 (.slice sa AL.length sc), hZn.off hz9, ?_, ?_, hBn.setCell hgl _⟩⟩
        · exact (PS.out.set hg).mono hB6
        · exact ((show PinsNew w6.drew _ _ _ from PZ5.out.1).below hb7).setO PZ5.out.2 h9
    · subst e3
      have HQ : Hid (Q = (⟨L, i, t, false, 0, [], r5⟩, 0)) := hQ
      clear hQ HF HCL HAp HX5 HPW
      go_upto_region 12 with fail
      have hA : Blk w6 w.heap.size #[.slice a n c, .int .i64 p, .int .i64 t, .bool g, .int .i64 i, .slice a' m c', .bool d] 27 := HA5.out
      have hR : Blk w6 (w.heap.size + 1) #[.int .i64 3, .int .i64 r2, .int .i64 r3, .int .i64 r4, .bool r5, .int .i64 r6, .slice b q f] 34 := HR5.out
      have hKn : Blk w6 g9 #[.slice ya n yc, .int .i64 p, .int .i64 t, .bool g, .int .i64 i, .slice za m zc, .bool d] 27 := HK5.out
      have x4 := hA.cell 4
      simp only [List.getElem?_toArray, List.getElem?_cons_zero, List.getElem?_cons_succ] at x4
      have xr4 := hR.cell 4
      simp only [List.getElem?_toArray, List.getElem?_cons_zero, List.getElem?_cons_succ] at xr4
      have kk1 := hKn.cell 1
      have kk3 := hKn.cell 3
      have kk4 := hKn.cell 4
      have kk5 := hKn.cell 5
      have kk6 := hKn.cell 6
      simp only [List.getElem?_toArray, List.getElem?_cons_zero, List.getElem?_cons_succ] at kk1 kk3 kk4 kk5 kk6
      have kkf1 := hKn.free 1
      have kkf3 := hKn.free 3
      have kkf4 := hKn.free 4
      have kkf5 := hKn.free 5
      have kkf6 := hKn.free 6
      clear hA hR hKn
      have hd1 : ¬ g9 = w.heap.size + 1 := by have := HL9.out; have := HG9.out; omega
      have hd2 : ¬ w.heap.size + 1 = g9 := by have := HL9.out; have := HG9.out; omega
      have hd3 : ¬ g9 = w.heap.size := by have := HL9.out; have := HG9.out; omega
      have hd4 : ¬ w.heap.size = g9 := by have := HL9.out; have := HG9.out; omega
      go_region
      all_goals
        go_wp2_with fail
        go_meet
        have hgl : w.heap.size ≤ g9 := by have := HL9.out; have := HG9.out; omega
        have h9 : w5.heap.size ≤ g9 := by have := HG9.out; omega
        have hz9 : g9 ≠ w.heap.size + 1 + 1 := by have := HL9.out; have := HG9.out; omega
        refine ⟨⟨L, i, t, false, 0, [], r5⟩, ya, n, yc, none, 0, 0, ⟨HQ.out, ((((HK5.out.put 1 (.int .i64 i)).put 3 (.bool false)).put 4 (.int .i64 0)).put 5 (.slice none 0 0)).put 6 (.bool r5), ((((HN5.out.off hz9).off hz9).off hz9).off hz9).off hz9, ?_, pinsNew_none _ _, (((((HB5.out.setCell hgl _).setCell hgl _).setCell hgl _).setCell hgl _).setCell hgl _).drew⟩⟩
        · exact ((((PY5.out.1.setO PY5.out.2 h9).setO PY5.out.2 h9).setO PY5.out.2 h9).setO PY5.out.2 h9).setO PY5.out.2 h9
  case rest =>
    obtain ⟨⟨al, aa, at_, ag, ai, am, ad⟩, sa, sn, sc, ta, tn, tc, HX⟩ := hcut
    simp only at HX
    clear HF HCL HAp HX5 HPW HA5 HR5 HN5 HK5 HB5 PY5 PZ5 HW5 HL9 HG9
    have hK := HX.out.2.1
    have hZ := HX.out.2.2.1
    have k0 := hK.cell 0
    have k1 := hK.cell 1
    have k2 := hK.cell 2
    have k3 := hK.cell 3
    have k4 := hK.cell 4
    have k5 := hK.cell 5
    have k6 := hK.cell 6
    simp only [List.getElem?_toArray, List.getElem?_cons_zero, List.getElem?_cons_succ] at k0 k1 k2 k3 k4 k5 k6
    have dd0 := hZ.cell 0
    have dd1 := hZ.cell 1
    have dd2 := hZ.cell 2
    have dd3 := hZ.cell 3
    have dd4 := hZ.cell 4
    have dd5 := hZ.cell 5
    have dd6 := hZ.cell 6
    simp only [List.getElem?_toArray, List.getElem?_cons_zero, List.getElem?_cons_succ] at dd0 dd1 dd2 dd3 dd4 dd5 dd6
    have ddf0 := hZ.free 0
    have ddf1 := hZ.free 1
    have ddf2 := hZ.free 2
    have ddf3 := hZ.free 3
    have ddf4 := hZ.free 4
    have ddf5 := hZ.free 5
    have ddf6 := hZ.free 6
    clear hK hZ
    go_wp2
    refine bodyPost_ret (v := .tuple #[.agg #[.slice sa sn sc, .int .i64 aa, .int .i64 at_, .bool ag, .int .i64 ai, .slice ta tn tc, .bool ad], .int .i64 0]) (by simp [results, Tryz.results8, go_sem, dd0, dd1, dd2, dd3, dd4, dd5, dd6]) rfl ⟨?_, ?_⟩
    · rw [HX.out.1]
      exact ⟨_, _, rfl, (((((((HX.out.2.2.2.1.set (Nat.lt_succ_self _)).set (Nat.lt_succ_self _)).set (Nat.lt_succ_self _)).set (Nat.lt_succ_self _)).set (Nat.lt_succ_self _)).set (Nat.lt_succ_self _)).set (Nat.lt_succ_self _)).mono (by omega), (((((((HX.out.2.2.2.2.1.set (Nat.lt_succ_self _)).set (Nat.lt_succ_self _)).set (Nat.lt_succ_self _)).set (Nat.lt_succ_self _)).set (Nat.lt_succ_self _)).set (Nat.lt_succ_self _)).set (Nat.lt_succ_self _)).mono (by omega)⟩
    · exact (((((((HX.out.2.2.2.2.2.setCell (Nat.le_add_right _ 2) _).setCell (Nat.le_add_right _ 2) _).setCell (Nat.le_add_right _ 2) _).setCell (Nat.le_add_right _ 2) _).setCell (Nat.le_add_right _ 2) _).setCell (Nat.le_add_right _ 2) _).setCell (Nat.le_add_right _ 2) _)
end Go.Proofs.YtpenkhehceglfaaGreatDoor
