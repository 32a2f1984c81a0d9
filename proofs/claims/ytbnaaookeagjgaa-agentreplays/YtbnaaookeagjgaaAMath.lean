/- Plain functions on agents: how they are made, checked, what is left, what a record makes of them; who goes comes there. Nothing of the program is named here. -/
import Derived.Test.YtbnaaookeagjgaaDMath
import Derived.Test.YtbnaaookeagjgaaNMath
namespace Go.Proofs.Ytbnaaookeagjgaa
namespace Ag
open Lk Dk
/-- an agent -/
structure Agent where
  lock : List (Int × Int)
  at' : Int
  tr : Int
  going : Bool
  gid : Int
  glock : List (Int × Int)
  good : Bool
def Agent.none : Agent := ⟨[], 0, 0, false, 0, [], false⟩
def chkAgent (a : Agent) : Int :=
  if chk a.lock = 0 then
    (if (within a.at' 1 6 && within a.tr 0 200) = true then
      (if a.going = true then (if (a.good || decide (a.tr < 1)) = true then 4 else chkRel a.gid a.glock)
       else (if (a.gid == 0 && decide (a.glock = [])) = true then 0 else 4))
     else 3)
  else chk a.lock
def fresh (id : Int) (l : List (Int × Int)) : Agent := ⟨l, id, 0, false, 0, [], true⟩
def newA (id : Int) (l : List (Int × Int)) : Agent × Int := if chkRel id l = 0 then (fresh id l, 0) else (Agent.none, chkRel id l)
def stepsA (a : Agent) : List (Int × Int × Int) := steps (tb a.lock) (tb a.glock)
def leftA (a : Agent) : List (Int × Int × Int) × Int := if chkAgent a = 0 then (if a.going = true then stepsA a else [], 0) else ([], chkAgent a)
/-- what a step or a being there makes of who goes by this very try -/
def goesA (a : Agent) (r : Note) : Agent × Int :=
  match stepsA a with
  | o :: _ => if r.kind = 2 then ({ a with lock := applied a.lock o }, 0) else (Agent.none, 7)
  | [] => if r.kind = 3 then (⟨a.lock, a.gid, a.tr, false, 0, [], r.good⟩, 0) else (Agent.none, 7)
def nextA (a : Agent) (r : Note) : Agent × Int :=
  if chkAgent a = 0 then
    (if chkNote r = 0 then
      (if r.kind = 1 then (if r.tr ≤ a.tr then (Agent.none, 7) else (⟨a.lock, a.at', r.tr, true, r.id, r.lock, false⟩, 0))
       else if 3 < r.kind then (Agent.none, 4)
       else if a.going = true ∧ a.tr = r.tr then goesA a r else (Agent.none, 7))
     else (Agent.none, chkNote r))
  else (Agent.none, chkAgent a)
def replayFrom (a : Agent) : List Note → Agent × Int
  | [] => (a, 0)
  | r :: t => if (nextA a r).2 = 0 then replayFrom (nextA a r).1 t else (Agent.none, (nextA a r).2)
def replayA (id : Int) (l : List (Int × Int)) (rs : List Note) : Agent × Int :=
  if chkRel id l = 0 then (if 200 < rs.length then (Agent.none, 2) else replayFrom (fresh id l) rs) else (Agent.none, chkRel id l)
def sameAgent (a b : Agent) : Bool := same a.lock b.lock && a.at' == b.at' && a.tr == b.tr && a.going == b.going && alike a.gid a.glock b.gid b.glock && a.good == b.good
theorem sameAgent_iff (a b : Agent) : sameAgent a b = true ↔ a = b := by
  obtain ⟨a1, a2, a3, a4, a5, a6, a7⟩ := a
  obtain ⟨b1, b2, b3, b4, b5, b6, b7⟩ := b
  simp [sameAgent, alike, same, and_assoc]
theorem sameAgent_self (a : Agent) : sameAgent a a = true := (sameAgent_iff a a).2 rfl

/-! ### what an agent that is one has -/
theorem chk_parts {a : Agent} (h : chkAgent a = 0) : chk a.lock = 0 ∧ (1 ≤ a.at' ∧ a.at' ≤ 6) ∧ (0 ≤ a.tr ∧ a.tr ≤ 200) ∧ (a.going = true → a.good = false ∧ 1 ≤ a.tr ∧ chkRel a.gid a.glock = 0) ∧ (a.going = false → a.gid = 0 ∧ a.glock = []) := by
  unfold chkAgent at h
  by_cases h1 : chk a.lock = 0
  · rw [if_pos h1] at h
    by_cases h2 : (within a.at' 1 6 && within a.tr 0 200) = true
    · rw [if_pos h2] at h
      simp only [within, Bool.and_eq_true, decide_eq_true_eq] at h2
      refine ⟨h1, h2.1, h2.2, fun hg => ?_, fun hg => ?_⟩
      · rw [if_pos hg] at h
        by_cases h3 : (a.good || decide (a.tr < 1)) = true
        · rw [if_pos h3] at h; exact absurd h (by decide)
        · rw [if_neg h3] at h
          simp only [Bool.or_eq_true, decide_eq_true_eq, not_or] at h3
          exact ⟨by simpa using h3.1, by omega, h⟩
      · rw [if_neg (by rw [hg]; decide)] at h
        by_cases h3 : (a.gid == 0 && decide (a.glock = [])) = true
        · simp only [Bool.and_eq_true, beq_iff_eq, decide_eq_true_eq] at h3; exact h3
        · rw [if_neg h3] at h; exact absurd h (by decide)
    · rw [if_neg h2] at h; exact absurd h (by decide)
  · rw [if_neg h1] at h; exact absurd h h1
theorem chk_of {a : Agent} (h1 : chk a.lock = 0) (h2 : 1 ≤ a.at' ∧ a.at' ≤ 6) (h3 : 0 ≤ a.tr ∧ a.tr ≤ 200) (h4 : a.going = true → a.good = false ∧ 1 ≤ a.tr ∧ chkRel a.gid a.glock = 0) (h5 : a.going = false → a.gid = 0 ∧ a.glock = []) : chkAgent a = 0 := by
  unfold chkAgent
  rw [if_pos h1, if_pos (by simp [within, h2, h3])]
  by_cases hg : a.going = true
  · obtain ⟨g1, g2, g3⟩ := h4 hg
    rw [if_pos hg, if_neg (by simp [g1]; omega)]
    exact g3
  · obtain ⟨g1, g2⟩ := h5 (by simpa using hg)
    rw [if_neg hg, if_pos (by simp [g1, g2])]
theorem rel_parts {id : Int} {l : List (Int × Int)} (h : chkRel id l = 0) : (1 ≤ id ∧ id ≤ 6) ∧ chk l = 0 := by
  unfold chkRel at h
  by_cases h1 : within id 1 6 = true
  · rw [if_pos h1] at h
    simp only [within, Bool.and_eq_true, decide_eq_true_eq] at h1
    exact ⟨h1, h⟩
  · rw [if_neg h1] at h; exact absurd h (by decide)
theorem fresh_chk {id : Int} {l : List (Int × Int)} (h : chkRel id l = 0) : chkAgent (fresh id l) = 0 := by
  obtain ⟨h1, h2⟩ := rel_parts h
  exact chk_of h2 h1 ⟨by simp [fresh], by simp [fresh]⟩ (fun hg => by cases hg) (fun _ => ⟨rfl, rfl⟩)

/-! ### who goes comes there -/
def beginR (t id : Int) (l : List (Int × Int)) : Note := ⟨1, 0, t, 0, false, id, l⟩
def stepR (t : Int) : Note := ⟨2, 0, t, 0, false, 0, []⟩
def doneR (t : Int) (g : Bool) : Note := ⟨3, 0, t, 0, g, 0, []⟩
theorem begin_chk {t id : Int} {l : List (Int × Int)} (ht : 1 ≤ t ∧ t ≤ 200) (h : chkRel id l = 0) : chkNote (beginR t id l) = 0 := by
  unfold chkNote beginR
  simp [within, unused, outside, uA, uT, uN, uG, uR, ht, h]
theorem step_chk {t : Int} (ht : 1 ≤ t ∧ t ≤ 200) : chkNote (stepR t) = 0 := by
  unfold chkNote stepR
  simp [within, unused, outside, uA, uT, uN, uG, uR, ht]
theorem done_chk {t : Int} {g : Bool} (ht : 1 ≤ t ∧ t ≤ 200) : chkNote (doneR t g) = 0 := by
  unfold chkNote doneR
  simp [within, unused, outside, uA, uT, uN, uG, uR, ht]
theorem next_begin {a : Agent} {t id : Int} {l : List (Int × Int)} (ha : chkAgent a = 0) (ht : 1 ≤ t ∧ t ≤ 200) (h : chkRel id l = 0) (hl : a.tr < t) : nextA a (beginR t id l) = (⟨a.lock, a.at', t, true, id, l, false⟩, 0) := by
  unfold nextA
  rw [if_pos ha, if_pos (begin_chk ht h), if_pos (show (beginR t id l).kind = 1 from rfl), if_neg (show ¬ (beginR t id l).tr ≤ a.tr from by show ¬ t ≤ a.tr; omega)]
  rfl
/-- an elder try turns nobody -/
theorem next_elder {a : Agent} {t id : Int} {l : List (Int × Int)} (ha : chkAgent a = 0) (hl : t ≤ a.tr) : ¬ (nextA a (beginR t id l)).2 = 0 := by
  unfold nextA
  rw [if_pos ha]
  by_cases hc : chkNote (beginR t id l) = 0
  · rw [if_pos hc, if_pos (show (beginR t id l).kind = 1 from rfl), if_pos (show (beginR t id l).tr ≤ a.tr from hl)]; decide
  · rw [if_neg hc]; exact hc
theorem next_step {a : Agent} {t : Int} (ha : chkAgent a = 0) (hg : a.going = true) (ht : a.tr = t) {o : Int × Int × Int} {r : List (Int × Int × Int)} (hs : stepsA a = o :: r) : nextA a (stepR t) = ({ a with lock := applied a.lock o }, 0) := by
  have h := (chk_parts ha)
  have hb := (h.2.2.2.1 hg).2.1
  unfold nextA goesA
  rw [if_pos ha, if_pos (step_chk (by omega)), if_neg (show ¬ (stepR t).kind = 1 from by simp [stepR]), if_neg (show ¬ 3 < (stepR t).kind from by simp [stepR]), if_pos (show a.going = true ∧ a.tr = (stepR t).tr from ⟨hg, ht⟩), hs]
  rfl
theorem next_step_no {a : Agent} {t : Int} (ha : chkAgent a = 0) (hg : a.going = true) (ht : a.tr = t) (hs : stepsA a = []) : nextA a (stepR t) = (Agent.none, 7) := by
  have h := (chk_parts ha)
  have hb := (h.2.2.2.1 hg).2.1
  unfold nextA goesA
  rw [if_pos ha, if_pos (step_chk (by omega)), if_neg (show ¬ (stepR t).kind = 1 from by simp [stepR]), if_neg (show ¬ 3 < (stepR t).kind from by simp [stepR]), if_pos (show a.going = true ∧ a.tr = (stepR t).tr from ⟨hg, ht⟩), hs]
  rfl
theorem next_done {a : Agent} {t : Int} {g : Bool} (ha : chkAgent a = 0) (hg : a.going = true) (ht : a.tr = t) (hs : stepsA a = []) : nextA a (doneR t g) = (⟨a.lock, a.gid, a.tr, false, 0, [], g⟩, 0) := by
  have h := (chk_parts ha)
  have hb := (h.2.2.2.1 hg).2.1
  unfold nextA goesA
  rw [if_pos ha, if_pos (done_chk (by omega)), if_neg (show ¬ (doneR t g).kind = 1 from by simp [doneR]), if_neg (show ¬ 3 < (doneR t g).kind from by simp [doneR]), if_pos (show a.going = true ∧ a.tr = (doneR t g).tr from ⟨hg, ht⟩), hs]
  rfl
theorem next_done_no {a : Agent} {t : Int} {g : Bool} (ha : chkAgent a = 0) (hg : a.going = true) (ht : a.tr = t) {o : Int × Int × Int} {r : List (Int × Int × Int)} (hs : stepsA a = o :: r) : nextA a (doneR t g) = (Agent.none, 7) := by
  have h := (chk_parts ha)
  have hb := (h.2.2.2.1 hg).2.1
  unfold nextA goesA
  rw [if_pos ha, if_pos (done_chk (by omega)), if_neg (show ¬ (doneR t g).kind = 1 from by simp [doneR]), if_neg (show ¬ 3 < (doneR t g).kind from by simp [doneR]), if_pos (show a.going = true ∧ a.tr = (doneR t g).tr from ⟨hg, ht⟩), hs]
  rfl
/-- a step nearer: one step less is left -/
theorem step_nearer {a : Agent} (ha : chkAgent a = 0) (hg : a.going = true) {o : Int × Int × Int} {r : List (Int × Int × Int)} (hs : stepsA a = o :: r) : chkAgent { a with lock := applied a.lock o } = 0 ∧ stepsA { a with lock := applied a.lock o } = r ∧ applyErr a.lock o = 0 := by
  obtain ⟨h1, h2, h3, h4, h5⟩ := chk_parts ha
  obtain ⟨g1, g2, g3⟩ := h4 hg
  obtain ⟨i1, i2⟩ := rel_parts g3
  have gA := good_tb h1
  have gB := good_tb i2
  have hap := apply_step gA gB hs
  rw [pins_tb h1] at hap
  obtain ⟨e1, e2, e3⟩ := hap
  refine ⟨chk_of ?_ h2 h3 h4 h5, ?_, e1⟩
  · show chk (applied a.lock o) = 0
    rw [e2]; exact good_chk e3
  · show steps (tb (applied a.lock o)) (tb a.glock) = r
    rw [e2, tb_pinsOf e3.1.1]
    exact steps_cons gA.1.1 hs
/-- nothing is left: the lock is the goal's -/
theorem there {a : Agent} (ha : chkAgent a = 0) (hg : a.going = true) (hs : stepsA a = []) : a.lock = a.glock ∧ ∀ g, chkAgent ⟨a.lock, a.gid, a.tr, false, 0, [], g⟩ = 0 := by
  obtain ⟨h1, h2, h3, h4, h5⟩ := chk_parts ha
  obtain ⟨g1, g2, g3⟩ := h4 hg
  obtain ⟨i1, i2⟩ := rel_parts g3
  have e := steps_nil (good_tb h1).1.1 (good_tb i2).1.1 hs
  refine ⟨?_, fun g => chk_of h1 i1 h3 (fun h => by cases h) (fun _ => ⟨rfl, rfl⟩)⟩
  rw [← pins_tb h1, e, pins_tb i2]
/-- a record makes an agent of an agent -/
theorem next_chk {a : Agent} {r : Note} (h : (nextA a r).2 = 0) : chkAgent a = 0 ∧ chkNote r = 0 ∧ chkAgent (nextA a r).1 = 0 := by
  unfold nextA at h ⊢
  by_cases ha : chkAgent a = 0
  · rw [if_pos ha] at h ⊢
    obtain ⟨h1, h2, h3, h4, h5⟩ := chk_parts ha
    by_cases hr : chkNote r = 0
    · rw [if_pos hr] at h ⊢
      refine ⟨ha, hr, ?_⟩
      by_cases k1 : r.kind = 1
      · rw [if_pos k1] at h ⊢
        by_cases ht : r.tr ≤ a.tr
        · rw [if_pos ht] at h; exact absurd h (by decide)
        · rw [if_neg ht]
          have hn := hr
          unfold chkNote at hn
          have hrel : chkRel r.id r.lock = 0 ∧ r.tr ≤ 200 := by
            by_cases c1 : (!within r.kind 1 9 || unused r) = true
            · rw [if_pos c1] at hn; exact absurd hn (by decide)
            · rw [if_neg c1] at hn
              by_cases c2 : outside r = true
              · rw [if_pos c2] at hn; exact absurd hn (by decide)
              · rw [if_neg c2, if_pos (by simp [uR, k1])] at hn
                simp only [outside, Bool.or_eq_true, not_or, uT, k1] at c2
                have := c2.1.2
                simp [within] at this
                exact ⟨hn, by omega⟩
          exact chk_of h1 h2 ⟨by show 0 ≤ r.tr; omega, hrel.2⟩ (fun _ => ⟨rfl, by show 1 ≤ r.tr; omega, hrel.1⟩) (fun hf => by cases hf)
      · rw [if_neg k1] at h ⊢
        by_cases k3 : 3 < r.kind
        · rw [if_pos k3] at h; exact absurd h (by decide)
        · rw [if_neg k3] at h ⊢
          by_cases hg : a.going = true ∧ a.tr = r.tr
          · rw [if_pos hg] at h ⊢
            unfold goesA at h ⊢
            cases hs : stepsA a with
            | nil =>
              rw [hs] at h
              simp only at h ⊢
              by_cases k : r.kind = 3
              · rw [if_pos k]; exact (there ha hg.1 hs).2 _
              · rw [if_neg k] at h; exact absurd h (by decide)
            | cons o t =>
              rw [hs] at h
              simp only at h ⊢
              by_cases k : r.kind = 2
              · rw [if_pos k]; exact (step_nearer ha hg.1 hs).1
              · rw [if_neg k] at h; exact absurd h (by decide)
          · rw [if_neg hg] at h; exact absurd h (by decide)
    · rw [if_neg hr] at h; exact absurd h hr
  · rw [if_neg ha] at h; exact absurd h ha
/-- in two parts -/
theorem replay_app (l m : List Note) : ∀ a : Agent, (replayFrom a (l ++ m)).2 = 0 → (replayFrom a l).2 = 0 ∧ replayFrom (replayFrom a l).1 m = replayFrom a (l ++ m) := by
  induction l with
  | nil => intro a h; exact ⟨rfl, rfl⟩
  | cons r t ih =>
    intro a h
    rw [List.cons_append, replayFrom] at h
    by_cases hr : (nextA a r).2 = 0
    · rw [if_pos hr] at h
      obtain ⟨h1, h2⟩ := ih (nextA a r).1 h
      rw [List.cons_append, replayFrom, if_pos hr, replayFrom, if_pos hr]
      exact ⟨h1, h2⟩
    · rw [if_neg hr] at h; exact absurd h hr
end Ag
end Go.Proofs.Ytbnaaookeagjgaa
