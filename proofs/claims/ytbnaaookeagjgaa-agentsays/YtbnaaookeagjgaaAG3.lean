/- The document's AgentNext: its closure; who does not go on (errors and a try's beginning). -/
import Derived.Test.YtbnaaookeagjgaaAG1
import Derived.Test.YtbnaaookeagjgaaPN
import Derived.Deep.RegionWith
import Derived.Deep.CutRange
namespace Go.Proofs.Ytbnaaookeagjgaa
open Go.RowKit
/-- what AgentNext answers -/
def agR (w : World) (q : Ag.Agent × Int) (e : Ending) : Prop := ∃ z u, e = .returned (.tuple #[agV q.1 z u, .int .i64 q.2]) ∧ PinsAt w z q.1.lock ∧ PinsAt w u q.1.glock
theorem agR_none (w : World) {q : Ag.Agent × Int} {x : Int} (h : q = (Ag.Agent.none, x)) : agR w q (.returned (.tuple #[.agg #[.slice none 0 0, .int .i64 0, .int .i64 0, .bool false, .int .i64 0, .slice none 0 0, .bool false], .int .i64 x])) := by
  subst h; exact ⟨_, _, rfl, pins_none _, pins_none _⟩
/-- what the document's AgentNext answers: its pins lie in no block that those of its arguments do not lie in -/
def agX (w w' : World) (v u z : Value) (L M r : List (Int × Int)) (q : Ag.Agent × Int) (e : Ending) : Prop :=
  ∃ z' u', e = .returned (.tuple #[agV q.1 z' u', .int .i64 q.2]) ∧ PinsAt w' z' q.1.lock ∧ PinsAt w' u' q.1.glock ∧ ∀ g, g < w.heap.size → PinsOff w g v L → PinsOff w g u M → PinsOff w g z r → PinsOff w' g z' q.1.lock ∧ PinsOff w' g u' q.1.glock
theorem agX_none {w w' : World} {v u z : Value} {L M r : List (Int × Int)} {q : Ag.Agent × Int} {x : Int} (h : q = (Ag.Agent.none, x)) : agX w w' v u z L M r q (.returned (.tuple #[.agg #[.slice none 0 0, .int .i64 0, .int .i64 0, .bool false, .int .i64 0, .slice none 0 0, .bool false], .int .i64 x])) := by
  subst h; exact ⟨_, _, rfl, pins_none _, pins_none _, fun g _ _ _ _ => ⟨pinsOff_none _ _, pinsOff_none _ _⟩⟩
theorem agX.r {w w' : World} {v u z : Value} {L M r : List (Int × Int)} {q : Ag.Agent × Int} {e : Ending} (h : agX w w' v u z L M r q e) : agR w' q e := by
  obtain ⟨z', u', h1, h2, h3, _⟩ := h
  exact ⟨z', u', h1, h2, h3⟩
set_option maxHeartbeats 1000000 in
theorem agbad_any (x : Int) (w : World) :
    Calls Try.prog 31 #[.int .i64 x] w fun e w' => e = .returned (.tuple #[.agg #[.slice none 0 0, .int .i64 0, .int .i64 0, .bool false, .int .i64 0, .slice none 0 0, .bool false], .int .i64 x]) ∧ Below w.heap.size w w' := by
  have HB : Hid (Below w.heap.size w (w.alloc (.cells #[.slice none 0 0, .int .i64 0, .int .i64 0, .bool false, .int .i64 0, .slice none 0 0, .bool false] 26))) := (Below.refl _ w).alloc (Nat.le_refl _) _
  have HK : Hid (Blk (w.alloc (.cells #[.slice none 0 0, .int .i64 0, .int .i64 0, .bool false, .int .i64 0, .slice none 0 0, .bool false] 26)) w.heap.size #[.slice none 0 0, .int .i64 0, .int .i64 0, .bool false, .int .i64 0, .slice none 0 0, .bool false] 26) := blk_alloc w _ _
  go_enter Try.func31, Try.ntmps31
  go_upto_region 1 with fail
  generalize w.alloc (.cells #[.slice none 0 0, .int .i64 0, .int .i64 0, .bool false, .int .i64 0, .slice none 0 0, .bool false] 26) = w1 at HB HK ⊢
  have d0 := HK.out.cell 0
  have f0 := HK.out.free 0
  have d1 := HK.out.cell 1
  have f1 := HK.out.free 1
  have d2 := HK.out.cell 2
  have f2 := HK.out.free 2
  have d3 := HK.out.cell 3
  have f3 := HK.out.free 3
  have d4 := HK.out.cell 4
  have f4 := HK.out.free 4
  have d5 := HK.out.cell 5
  have f5 := HK.out.free 5
  have d6 := HK.out.cell 6
  have f6 := HK.out.free 6
  simp only [List.getElem?_toArray, List.getElem?_cons_zero, List.getElem?_cons_succ] at d0 d1 d2 d3 d4 d5 d6
  clear HK
  go_wp2
  refine bodyPost_ret (v := .tuple #[.agg #[.slice none 0 0, .int .i64 0, .int .i64 0, .bool false, .int .i64 0, .slice none 0 0, .bool false], .int .i64 x]) (by simp [results, Try.results31, go_sem, d0, d1, d2, d3, d4, d5, d6]) rfl ⟨rfl, ?_⟩
  exact (((((((HB.out.setCell (Nat.le_refl _) _).setCell (Nat.le_refl _) _).setCell (Nat.le_refl _) _).setCell (Nat.le_refl _) _).setCell (Nat.le_refl _) _).setCell (Nat.le_refl _) _).setCell (Nat.le_refl _) _)
end Go.Proofs.Ytbnaaookeagjgaa
