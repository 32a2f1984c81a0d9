/- Proved: vanguardlaw.LeadSays returns true for any configuration, any two leaders and any number, and its arguments read behind the call as before it (P8.1, P8.2, P8.3). Its conditions: none but what the row itself says. -/
import Derived.Test.YtcnnejndmafniaaMF
import Derived.Test.YtcnnejndmafniaaLSW
import Derived.Carry
namespace Go.Proofs.Ytcnnejndmafniaa
open Go.RowKit Go.ChangeShapes Go.WideShapes Go.ChangeAt Go.WideMaps Go.WideElems
open Go.ChangeMaps (open_string shut_string)
set_option maxRecDepth 100000 in
set_option maxHeartbeats 4000000 in
theorem leadSays_lifted (os : Os) (started : os.Started) (H : Type) (enc : TypeId × Value → H) :
    ReturnsInHanded {} Try.checked os 3 .any (Rows.leadSaysSpec.pre6 enc Try.prog Try.f3 Rows.leadSaysRow.domain false) (Rows.leadSaysSpec.post enc Try.prog Try.f3 false true false false) := by
  refine returnsInHanded_of_change_sized (C := Try.checked) own started (by kernel_rfl) Try.func3
    (ChangeSpec.witness6 (enc := enc) (C := Try.checked) false ⟨#[], #[.agg #[.int .i64 0, .slice none 0 0, .slice none 0 0, .slice none 0 0, .int .i64 0], .agg #[.slice none 0 0, .int .i64 0, .int .i64 0, .bool false, .slice none 0 0, .int .i64 0], .int .i64 0, .agg #[.slice none 0 0, .int .i64 0, .int .i64 0, .bool false, .slice none 0 0, .int .i64 0]], []⟩ 16 (by kernel_rfl) (by kernel_rfl) (by kernel_rfl) (by kernel_rfl)) ?_
  intro W base args ds gs before hval0 hW _ hsz0 _
  have hval : ∀ (j : Nat) t v, Try.f3.params[j]? = some t → args[j]? = some v → Value.okWide Try.prog W .any base t v := hval0
  have hsz : (DataW.weightsEach Try.prog (Try.f3.params.toList ++ Rows.leadSaysSpec.plain.varTypes Try.prog) (ds ++ gs)).all (· ≤ reachBytes) = true := hsz0
  have hW' := hW
  obtain ⟨p, q, hA0, hV, rfl, _, _⟩ := hW
  have hA : DataW.TrodAll enc Try.prog W 0 (fun _ => true) true Try.f3.params.toList args.toList ds p := hA0
  rw [Try.params3] at hA hval hsz
  obtain ⟨v0, v1, v2, v3, d0, d1, d2, d3, p0, p1, p2, p3, rfl, rfl, rfl, h0, h1, h2, h3⟩ := trodAll_four hA
  obtain ⟨rfl, rfl⟩ := trodVars_none hV
  clear hA0 hval0 hsz0
  simp only [List.append_nil] at hW' hsz
  obtain ⟨c0, rfl, hc0⟩ := okWide_struct Try.underlying28 (hval 0 28 v0 rfl rfl)
  obtain ⟨m0, ua0, ub0, ud0, e0, hP0⟩ := (opens_config).arg (j := 0) h0 hsz rfl rfl
  have e0' : Value.agg c0 = cfV m0 ua0 ub0 ud0 := by
    unfold cfV cfC; congr 1; exact Array.toList_inj.1 (by simpa [Value.cells] using e0)
  obtain ⟨c1, rfl, hc1⟩ := okWide_struct Try.underlying32 (hval 1 32 v1 rfl rfl)
  obtain ⟨m1, ur1, ua1, e1, hP1, hw1⟩ := (opens_leaderw).arg (j := 1) h1 hsz rfl rfl
  have e1' : Value.agg c1 = leV m1 ur1 ua1 := by
    unfold leV leC; congr 1; exact Array.toList_inj.1 (by simpa [Value.cells] using e1)
  obtain ⟨x2, rfl, rfl, rfl, wf2⟩ := open_int Try.underlying3 (hval 2 3 v2 rfl rfl) h2
  obtain ⟨c3, rfl, hc3⟩ := okWide_struct Try.underlying32 (hval 3 32 v3 rfl rfl)
  obtain ⟨m3, ur3, ua3, e3, hP3⟩ := (opens_leader).arg (j := 3) h3 hsz rfl rfl
  have e3' : Value.agg c3 = leV m3 ur3 ua3 := by
    unfold leV leC; congr 1; exact Array.toList_inj.1 (by simpa [Value.cells] using e3)
  have hlt : ∀ x ∈ p0 ++ p1 ++ p3, x.block < W.heap.size := fun x hx => by
    have := hW'.lt x (by simpa using hx)
    simpa using this
  have hcall : Calls Try.prog 3 #[Value.agg c0, Value.agg c1, .int .i64 x2, Value.agg c3] W fun e w' => e = .returned (.bool true) ∧ Below W.heap.size W w' := by
    rw [e0', e1', e3']
    exact lsays_any m0 ua0 ub0 ud0 m1 ur1 ua1 x2 m3 ur3 ua3 W hP0 hP1 hP3 hw1
  refine hcall.mono fun e W' ⟨he, hb⟩ => ?_
  subst he
  refine ⟨_, rfl, _, _, _, [], p0 ++ p1 ++ p3, [], hW', trodAll_mk1 (shut_bool Try.underlying4 _), ?_, rfl, hb.frame _, fun h => by cases h⟩
  have h24 := trodAll_mk4 (Below.trod laidOut (by kernel_rfl) (of_decide_eq_true (by kernel_rfl)) h0 hb (fun x hx => hlt x (by simp [hx]))) (Below.trod laidOut (by kernel_rfl) (of_decide_eq_true (by kernel_rfl)) h1 hb (fun x hx => hlt x (by simp [hx]))) (shut_int Try.underlying3 wf2) (Below.trod laidOut (by kernel_rfl) (of_decide_eq_true (by kernel_rfl)) h3 hb (fun x hx => hlt x (by simp [hx])))
  simp only [List.append_nil, List.nil_append, List.append_assoc] at h24 ⊢
  exact h24
theorem leadSays_row : Rows.leadSaysRow.holds Try.pinned (OpenSpec.ofChange Rows.leadSaysSpec) :=
  OpenClaim.holds_of_wide 3 Try.f3 rfl rfl rfl rfl rfl rfl rfl ⟨rfl, rfl, rfl, rfl, rfl⟩ rfl rfl rfl rfl rfl (by kernel_rfl) Try.func3 (by kernel_rfl)
    (of_decide_eq_true (by kernel_rfl)) (by unfold Func.isWrapper; first | (rw [if_pos (by decide +kernel)]; kernel_rfl) | (rw [if_neg (by decide +kernel)]; exact ⟨rfl, rfl⟩))
    (fun os started H enc _ => leadSays_lifted os started H enc)
theorem leadSays_proved : Rows.LeadSaysSaid := leadSays_row
#print axioms leadSays_proved
end Go.Proofs.Ytcnnejndmafniaa
