/- Proved: vanguardlaw.AgentSays returns true for any agent, any record and any other agent, and its arguments read behind the call as before it (P7.1, P7.2). Its conditions: none but what the row itself says. -/
import Derived.Test.YtbnaaookeagjgaaAOp
import Derived.Test.YtbnaaookeagjgaaASW
import Derived.Carry
namespace Go.Proofs.Ytbnaaookeagjgaa
open Go.RowKit Go.ChangeShapes Go.WideShapes Go.ChangeAt Go.WideMaps Go.WideElems
open Go.ChangeMaps (open_string shut_string)
set_option maxRecDepth 100000 in
set_option maxHeartbeats 4000000 in
theorem agentSays_lifted (os : Os) (started : os.Started) (H : Type) (enc : TypeId × Value → H) :
    ReturnsInHanded {} Try.checked os 3 .any (Rows.agentSaysSpec.pre6 enc Try.prog Try.f3 Rows.agentSaysRow.domain false) (Rows.agentSaysSpec.post enc Try.prog Try.f3 false true false false) := by
  refine returnsInHanded_of_change_sized (C := Try.checked) own started (by kernel_rfl) Try.func3
    (ChangeSpec.witness6 (enc := enc) (C := Try.checked) false ⟨#[], #[.agg #[.slice none 0 0, .int .i64 0, .int .i64 0, .bool false, .int .i64 0, .slice none 0 0, .bool false], .agg #[.int .i64 0, .int .i64 0, .int .i64 0, .int .i64 0, .bool false, .int .i64 0, .slice none 0 0], .agg #[.slice none 0 0, .int .i64 0, .int .i64 0, .bool false, .int .i64 0, .slice none 0 0, .bool false]], []⟩ 16 (by kernel_rfl) (by kernel_rfl) (by kernel_rfl) (by kernel_rfl)) ?_
  intro W base args ds gs before hval0 hW _ hsz0 _
  have hval : ∀ (j : Nat) t v, Try.f3.params[j]? = some t → args[j]? = some v → Value.okWide Try.prog W .any base t v := hval0
  have hsz : (DataW.weightsEach Try.prog (Try.f3.params.toList ++ Rows.agentSaysSpec.plain.varTypes Try.prog) (ds ++ gs)).all (· ≤ reachBytes) = true := hsz0
  have hW' := hW
  obtain ⟨p, q, hA0, hV, rfl, _, _⟩ := hW
  have hA : DataW.TrodAll enc Try.prog W 0 (fun _ => true) true Try.f3.params.toList args.toList ds p := hA0
  rw [Try.params3] at hA hval hsz
  obtain ⟨v0, v1, v2, d0, d1, d2, p0, p1, p2, rfl, rfl, rfl, h0, h1, h2⟩ := trodAll_three hA
  obtain ⟨rfl, rfl⟩ := trodVars_none hV
  clear hA0 hval0 hsz0
  simp only [List.append_nil] at hW' hsz
  obtain ⟨c0, rfl, hc0⟩ := okWide_struct Try.underlying26 (hval 0 26 v0 rfl rfl)
  obtain ⟨m0, va0, vb0, e0, hA0, hB0⟩ := (opens_agent).arg (j := 0) h0 hsz rfl rfl
  have e0' : Value.agg c0 = agV m0 va0 vb0 := by
    unfold agV agC; congr 1; exact Array.toList_inj.1 (by simpa [Value.cells] using e0)
  obtain ⟨c1, rfl, hc1⟩ := okWide_struct Try.underlying28 (hval 1 28 v1 rfl rfl)
  obtain ⟨m1, u1, e1, hP1, hw1⟩ := (opens_rec).arg (j := 1) h1 hsz rfl rfl
  have e1' : Value.agg c1 = recV m1 u1 := by
    unfold recV; congr 1; exact Array.toList_inj.1 (by simpa [Value.cells] using e1)
  obtain ⟨c2, rfl, hc2⟩ := okWide_struct Try.underlying26 (hval 2 26 v2 rfl rfl)
  obtain ⟨m2, va2, vb2, e2, hA2, hB2⟩ := (opens_agent).arg (j := 2) h2 hsz rfl rfl
  have e2' : Value.agg c2 = agV m2 va2 vb2 := by
    unfold agV agC; congr 1; exact Array.toList_inj.1 (by simpa [Value.cells] using e2)
  have hlt : ∀ x ∈ p0 ++ p1 ++ p2, x.block < W.heap.size := fun x hx => by
    have := hW'.lt x (by simpa using hx)
    simpa using this
  have hcall : Calls Try.prog 3 #[Value.agg c0, Value.agg c1, Value.agg c2] W fun e w' => e = .returned (.bool true) ∧ Below W.heap.size W w' := by
    rw [e0', e1', e2']
    exact agSays_any m0.lock m0.glock m1.lock m2.lock m2.glock m0.at' m0.tr m0.gid m1.kind m1.agent m1.tr m1.n m1.id m2.at' m2.tr m2.gid m0.going m0.good m1.good m2.going m2.good va0 vb0 u1 va2 vb2 W hA0 hB0 hP1 hA2 hB2 hw1
  refine hcall.mono fun e W' ⟨he, hb⟩ => ?_
  subst he
  refine ⟨_, rfl, _, _, _, [], p0 ++ p1 ++ p2, [], hW', trodAll_mk1 (shut_bool Try.underlying4 _), ?_, rfl, hb.frame _, fun h => by cases h⟩
  have h23 := trodAll_mk3 (Below.trod laidOut (by kernel_rfl) (of_decide_eq_true (by kernel_rfl)) h0 hb (fun x hx => hlt x (by simp [hx]))) (Below.trod laidOut (by kernel_rfl) (of_decide_eq_true (by kernel_rfl)) h1 hb (fun x hx => hlt x (by simp [hx]))) (Below.trod laidOut (by kernel_rfl) (of_decide_eq_true (by kernel_rfl)) h2 hb (fun x hx => hlt x (by simp [hx])))
  simp only [List.append_nil, List.append_assoc] at h23 ⊢
  exact h23
theorem agentSays_row : Rows.agentSaysRow.holds Try.pinned (OpenSpec.ofChange Rows.agentSaysSpec) :=
  OpenClaim.holds_of_wide 3 Try.f3 rfl rfl rfl rfl rfl rfl rfl ⟨rfl, rfl, rfl, rfl, rfl⟩ rfl rfl rfl rfl rfl (by kernel_rfl) Try.func3 (by kernel_rfl)
    (of_decide_eq_true (by kernel_rfl)) (by unfold Func.isWrapper; first | (rw [if_pos (by decide +kernel)]; kernel_rfl) | (rw [if_neg (by decide +kernel)]; exact ⟨rfl, rfl⟩))
    (fun os started H enc _ => agentSays_lifted os started H enc)
theorem agentSays_proved : Rows.AgentSaysSaid := agentSays_row
#print axioms agentSays_proved
end Go.Proofs.Ytbnaaookeagjgaa
