/- Plain steps of a replay. -/
import Derived.Test.YtpenkhehceglfaaGreatDoorMA
import Derived.Test.YtpenkhehceglfaaGreatDoorRR
namespace Go.Proofs.YtpenkhehceglfaaGreatDoor
open Go.RowKit
theorem rep_step {A : Ag.Agent} {ps : List (Lk.Note × Value)} {k : Nat} {r : Lk.Note} {z : Value} (h : ps[k]? = some (r, z)) : Ag.replayFrom A ((ps.drop k).map Prod.fst) = if (Ag.nextA A r).2 = 0 then Ag.replayFrom (Ag.nextA A r).1 ((ps.drop (k + 1)).map Prod.fst) else (Ag.Agent.none, (Ag.nextA A r).2) := by
  have hlt : k < ps.length := (List.getElem?_eq_some_iff.1 h).1
  rw [List.drop_eq_getElem_cons hlt]
  have e : ps[k] = (r, z) := by
    have := (List.getElem?_eq_some_iff.1 h).2
    exact this
  rw [e, List.map_cons, Ag.replayFrom]
theorem rep_end {A : Ag.Agent} {ps : List (Lk.Note × Value)} {k : Nat} (h : ps.length ≤ k) : Ag.replayFrom A ((ps.drop k).map Prod.fst) = (A, 0) := by
  rw [List.drop_of_length_le h]; rfl
theorem rep_in {i : Int} {l : List (Int × Int)} {rs : List Lk.Note} (h : Lk.chkRel i l = 0) (h2 : ¬ 200 < rs.length) : Ag.replayA i l rs = Ag.replayFrom ⟨l, i, 0, false, 0, [], true⟩ rs := by
  unfold Ag.replayA; rw [if_pos h, if_neg h2]; rfl
theorem rep_many {i : Int} {l : List (Int × Int)} {rs : List Lk.Note} (h : Lk.chkRel i l = 0) (h2 : 200 < rs.length) : Ag.replayA i l rs = (Ag.Agent.none, 2) := by
  unfold Ag.replayA; rw [if_pos h, if_pos h2]
theorem rep_bad {i : Int} {l : List (Int × Int)} {rs : List Lk.Note} (h : ¬ Lk.chkRel i l = 0) : Ag.replayA i l rs = (Ag.Agent.none, Lk.chkRel i l) := by
  unfold Ag.replayA; rw [if_neg h]
end Go.Proofs.YtpenkhehceglfaaGreatDoor
