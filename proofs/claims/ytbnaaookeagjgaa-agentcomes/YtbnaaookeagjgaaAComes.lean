/- Proved: vanguardlaw.AgentComes returns true for any agent, any two releases and any number, and its arguments read behind the call as before it (P7.3). Its conditions: none but what the row itself says. -/
import Derived.Test.YtbnaaookeagjgaaAOp
import Derived.Test.YtbnaaookeagjgaaACW
import Derived.Carry
namespace Go.Proofs.Ytbnaaookeagjgaa
open Go.RowKit Go.ChangeShapes Go.WideShapes Go.ChangeAt Go.WideMaps Go.WideElems
open Go.ChangeMaps (open_string shut_string)
set_option maxRecDepth 100000 in
set_option maxHeartbeats 4000000 in
theorem agentComes_lifted (os : Os) (started : os.Started) (H : Type) (enc : TypeId × Value → H) :
    ReturnsInHanded {} Try.checked os 5 .any (Rows.agentComesSpec.pre6 enc Try.prog Try.f5 Rows.agentComesRow.domain false) (Rows.agentComesSpec.post enc Try.prog Try.f5 false true false false) := by
  refine returnsInHanded_of_change_sized (C := Try.checked) own started (by kernel_rfl) Try.func5
    (ChangeSpec.witness6 (enc := enc) (C := Try.checked) false ⟨#[], #[.agg #[.slice none 0 0, .int .i64 0, .int .i64 0, .bool false, .int .i64 0, .slice none 0 0, .bool false], .agg #[.int .i64 0, .slice none 0 0], .agg #[.int .i64 0, .slice none 0 0], .int .i64 0], []⟩ 16 (by kernel_rfl) (by kernel_rfl) (by kernel_rfl) (by kernel_rfl)) ?_
  intro W base args ds gs before hval0 hW _ hsz0 _
  have hval : ∀ (j : Nat) t v, Try.f5.params[j]? = some t → args[j]? = some v → Value.okWide Try.prog W .any base t v := hval0
  have hsz : (DataW.weightsEach Try.prog (Try.f5.params.toList ++ Rows.agentComesSpec.plain.varTypes Try.prog) (ds ++ gs)).all (· ≤ reachBytes) = true := hsz0
  have hW' := hW
  obtain ⟨p, q, hA0, hV, rfl, _, _⟩ := hW
  have hA : DataW.TrodAll enc Try.prog W 0 (fun _ => true) true Try.f5.params.toList args.toList ds p := hA0
  rw [Try.params5] at hA hval hsz
  obtain ⟨v0, v1, v2, v3, d0, d1, d2, d3, p0, p1, p2, p3, rfl, rfl, rfl, h0, h1, h2, h3⟩ := trodAll_four hA
  obtain ⟨rfl, rfl⟩ := trodVars_none hV
  clear hA0 hval0 hsz0
  simp only [List.append_nil] at hW' hsz
  obtain ⟨c0, rfl, hc0⟩ := okWide_struct Try.underlying26 (hval 0 26 v0 rfl rfl)
  obtain ⟨m0, va0, vb0, e0, hA0, hB0⟩ := (opens_agent).arg (j := 0) h0 hsz rfl rfl
  have e0' : Value.agg c0 = agV m0 va0 vb0 := by
    unfold agV agC; congr 1; exact Array.toList_inj.1 (by simpa [Value.cells] using e0)
  obtain ⟨c1, rfl, hc1⟩ := okWide_struct Try.underlying24 (hval 1 24 v1 rfl rfl)
  obtain ⟨m1, u1, e1, hP1⟩ := (opens_rel).arg (j := 1) h1 hsz rfl rfl
  have e1' : Value.agg c1 = relV m1.1 u1 := by
    unfold relV; congr 1; exact Array.toList_inj.1 (by simpa [Value.cells] using e1)
  obtain ⟨c2, rfl, hc2⟩ := okWide_struct Try.underlying24 (hval 2 24 v2 rfl rfl)
  obtain ⟨m2, u2, e2, hP2⟩ := (opens_rel).arg (j := 2) h2 hsz rfl rfl
  have e2' : Value.agg c2 = relV m2.1 u2 := by
    unfold relV; congr 1; exact Array.toList_inj.1 (by simpa [Value.cells] using e2)
  obtain ⟨x3, rfl, rfl, rfl, wf3⟩ := open_int Try.underlying3 (hval 3 3 v3 rfl rfl) h3
  have hlt : ∀ x ∈ p0 ++ p1 ++ p2, x.block < W.heap.size := fun x hx => by
    have := hW'.lt x (by simpa using hx)
    simpa using this
  have hcall : Calls Try.prog 5 #[Value.agg c0, Value.agg c1, Value.agg c2, .int .i64 x3] W fun e w' => e = .returned (.bool true) ∧ Below W.heap.size W w' := by
    rw [e0', e1', e2']
    exact agComes_any m0.lock m0.glock m1.2 m2.2 m0.at' m0.tr m0.gid m1.1 m2.1 x3 m0.going m0.good va0 vb0 u1 u2 W hA0 hB0 hP1 hP2
  refine hcall.mono fun e W' ⟨he, hb⟩ => ?_
  subst he
  refine ⟨_, rfl, _, _, _, [], p0 ++ p1 ++ p2, [], hW', trodAll_mk1 (shut_bool Try.underlying4 _), ?_, rfl, hb.frame _, fun h => by cases h⟩
  have h24 := trodAll_mk4 (Below.trod laidOut (by kernel_rfl) (of_decide_eq_true (by kernel_rfl)) h0 hb (fun x hx => hlt x (by simp [hx]))) (Below.trod laidOut (by kernel_rfl) (of_decide_eq_true (by kernel_rfl)) h1 hb (fun x hx => hlt x (by simp [hx]))) (Below.trod laidOut (by kernel_rfl) (of_decide_eq_true (by kernel_rfl)) h2 hb (fun x hx => hlt x (by simp [hx]))) (shut_int Try.underlying3 wf3)
  simp only [List.append_nil, List.append_assoc] at h24 ⊢
  exact h24
theorem agentComes_row : Rows.agentComesRow.holds Try.pinned (OpenSpec.ofChange Rows.agentComesSpec) :=
  OpenClaim.holds_of_wide 5 Try.f5 rfl rfl rfl rfl rfl rfl rfl ⟨rfl, rfl, rfl, rfl, rfl⟩ rfl rfl rfl rfl rfl (by kernel_rfl) Try.func5 (by kernel_rfl)
    (of_decide_eq_true (by kernel_rfl)) (by unfold Func.isWrapper; first | (rw [if_pos (by decide +kernel)]; kernel_rfl) | (rw [if_neg (by decide +kernel)]; exact ⟨rfl, rfl⟩))
    (fun os started H enc _ => agentComes_lifted os started H enc)
theorem agentComes_proved : Rows.AgentComesSaid := agentComes_row
#print axioms agentComes_proved
end Go.Proofs.Ytbnaaookeagjgaa
