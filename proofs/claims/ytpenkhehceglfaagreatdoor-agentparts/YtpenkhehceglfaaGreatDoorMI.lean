import Derived.Test.YtpenkhehceglfaaGreatDoorMB
import Derived.Test.YtpenkhehceglfaaGreatDoorBlk
import Derived.Test.YtpenkhehceglfaaGreatDoorMA
import Derived.Test.YtpenkhehceglfaaGreatDoorMH
import Derived.Deep.RegionWith
import Derived.Deep.CutRange
/- Contracts of the document's CheckAgent and SameAgent. -/
namespace Go.Proofs.YtpenkhehceglfaaGreatDoor
open Go.RowKit
/-- an agent as a value: flat cells -/
def agC (a : Ag.Agent) (v u : Value) : Array Value := #[v, .int .i64 a.at', .int .i64 a.tr, .bool a.going, .int .i64 a.gid, u, .bool a.good]
def agV (a : Ag.Agent) (v u : Value) : Value := .agg (agC a v u)
theorem chkA_lock {a : Ag.Agent} (h : ¬ Lk.chk a.lock = 0) : Ag.chkAgent a = Lk.chk a.lock := by unfold Ag.chkAgent; rw [if_neg h]
theorem chkA_out {a : Ag.Agent} (h : Lk.chk a.lock = 0) (h' : a.at' < 1 ∨ 6 < a.at' ∨ a.tr < 0 ∨ 200 < a.tr) : Ag.chkAgent a = 3 := by
  unfold Ag.chkAgent; rw [if_pos h, if_neg]; simp [Lk.within]; omega
theorem chkA_in {a : Ag.Agent} (h : Lk.chk a.lock = 0) (h1 : 1 ≤ a.at') (h2 : a.at' ≤ 6) (h3 : 0 ≤ a.tr) (h4 : a.tr ≤ 200) : Ag.chkAgent a = (if a.going = true then (if (a.good || decide (a.tr < 1)) = true then 4 else Lk.chkRel a.gid a.glock) else (if (a.gid == 0 && decide (a.glock = [])) = true then 0 else 4)) := by
  unfold Ag.chkAgent; rw [if_pos h, if_pos]; simp [Lk.within, h1, h2, h3, h4]
end Go.Proofs.YtpenkhehceglfaaGreatDoor
/- The document's AgentNext: its closure; who does not go on (errors and a try's beginning). -/
namespace Go.Proofs.YtpenkhehceglfaaGreatDoor
open Go.RowKit
/-- what AgentNext answers -/
def agR (w : World) (q : Ag.Agent × Int) (e : Ending) : Prop := ∃ z u, e = .returned (.tuple #[agV q.1 z u, .int .i64 q.2]) ∧ PinsAt w z q.1.lock ∧ PinsAt w u q.1.glock
theorem agR_none (w : World) {q : Ag.Agent × Int} {x : Int} (h : q = (Ag.Agent.none, x)) : agR w q (.returned (.tuple #[.agg #[.slice none 0 0, .int .i64 0, .int .i64 0, .bool false, .int .i64 0, .slice none 0 0, .bool false], .int .i64 x])) := by
  subst h; exact ⟨_, _, rfl, pins_none _, pins_none _⟩
/-- what the document's AgentNext answers: its pins lie in no block that those of its arguments do not lie in -/
def agX (w w' : World) (v u z : Value) (L M r : List (Int × Int)) (q : Ag.Agent × Int) (e : Ending) : Prop :=
  ∃ z' u', e = .returned (.tuple #[agV q.1 z' u', .int .i64 q.2]) ∧ PinsAt w' z' q.1.lock ∧ PinsAt w' u' q.1.glock ∧ ∀ g, g < w.heap.size → PinsOff w g v L → PinsOff w g u M → PinsOff w g z r → PinsOff w' g z' q.1.lock ∧ PinsOff w' g u' q.1.glock
theorem agX_none {w w' : World} {v u z : Value} {L M r : List (Int × Int)} {q : Ag.Agent × Int} {x : Int} (h : q = (Ag.Agent.none, x)) : agX w w' v u z L M r q (.returned (.tuple #[.agg #[.slice none 0 0, .int .i64 0, .int .i64 0, .bool false, .int .i64 0, .slice none 0 0, .bool false], .int .i64 x])) := by
  subst h; exact ⟨_, _, rfl, pins_none _, pins_none _, fun g _ _ _ _ => ⟨pinsOff_none _ _, pinsOff_none _ _⟩⟩
theorem agX.r {w w' : World} {v u z : Value} {L M r : List (Int × Int)} {q : Ag.Agent × Int} {e : Ending} (h : agX w w' v u z L M r q e) : agR w' q e := by
  obtain ⟨z', u', h1, h2, h3, _⟩ := h
  exact ⟨z', u', h1, h2, h3⟩
end Go.Proofs.YtpenkhehceglfaaGreatDoor
/- The document's AgentNext where nobody goes on: errors, and a try's beginning. (Written by tools/gen_agentnext.py.) -/
namespace Go.Proofs.YtpenkhehceglfaaGreatDoor
open Go.RowKit
theorem nx_bad1 {a : Ag.Agent} {r : Lk.Note} (h : ¬ Ag.chkAgent a = 0) : Ag.nextA a r = (Ag.Agent.none, Ag.chkAgent a) := by unfold Ag.nextA; rw [if_neg h]
theorem nx_bad2 {a : Ag.Agent} {r : Lk.Note} (h : Ag.chkAgent a = 0) (h' : ¬ Lk.chkNote r = 0) : Ag.nextA a r = (Ag.Agent.none, Lk.chkNote r) := by unfold Ag.nextA; rw [if_pos h, if_neg h']
theorem nx_in {a : Ag.Agent} {r : Lk.Note} (h : Ag.chkAgent a = 0) (h' : Lk.chkNote r = 0) : Ag.nextA a r = (if r.kind = 1 then (if r.tr ≤ a.tr then (Ag.Agent.none, 7) else (⟨a.lock, a.at', r.tr, true, r.id, r.lock, false⟩, 0)) else if 3 < r.kind then (Ag.Agent.none, 4) else if a.going = true ∧ a.tr = r.tr then Ag.goesA a r else (Ag.Agent.none, 7)) := by unfold Ag.nextA; rw [if_pos h, if_pos h']
end Go.Proofs.YtpenkhehceglfaaGreatDoor
