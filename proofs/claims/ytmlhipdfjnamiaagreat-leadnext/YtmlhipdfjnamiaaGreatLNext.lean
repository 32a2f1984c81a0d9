/- Proved: vanguardlaw.LeadNext returns true for any configuration, any leader and any record, and its arguments read behind the call as before it (P8.4). Its conditions: none but what the row itself says. -/
import Derived.Test.YtmlhipdfjnamiaaGreatMF
import Derived.Test.YtmlhipdfjnamiaaGreatLNW
import Derived.Carry
namespace Go.Proofs.YtmlhipdfjnamiaaGreat
open Go.RowKit Go.ChangeShapes Go.WideShapes Go.ChangeAt Go.WideMaps Go.WideElems
open Go.ChangeMaps (open_string shut_string)
set_option maxRecDepth 100000 in
set_option maxHeartbeats 4000000 in
theorem leadNext_lifted (os : Os) (started : os.Started) (H : Type) (enc : TypeId × Value → H) :
    ReturnsInHanded {} Tryz.checked os 3 .any (Rows.leadNextSpec.pre6 enc Tryz.prog Tryz.f3 Rows.leadNextRow.domain false) (Rows.leadNextSpec.post enc Tryz.prog Tryz.f3 false true false false) := by
  refine returnsInHanded_of_change_sized (C := Tryz.checked) own started (by kernel_rfl) Tryz.func3
    (ChangeSpec.witness6 (enc := enc) (C := Tryz.checked) false ⟨#[], #[.agg #[.int .i64 0, .slice none 0 0, .slice none 0 0, .slice none 0 0, .int .i64 0], .agg #[.slice none 0 0, .int .i64 0, .int .i64 0, .bool false, .slice none 0 0, .int .i64 0], .agg #[.int .i64 0, .int .i64 0, .int .i64 0, .int .i64 0, .bool false, .int .i64 0, .slice none 0 0]], []⟩ 16 (by kernel_rfl) (by kernel_rfl) (by kernel_rfl) (by kernel_rfl)) ?_
  intro W base args ds gs before hval0 hW _ hsz0 _
  have hval : ∀ (j : Nat) t v, Tryz.f3.params[j]? = some t → args[j]? = some v → Value.okWide Tryz.prog W .any base t v := hval0
  have hsz : (DataW.weightsEach Tryz.prog (Tryz.f3.params.toList ++ Rows.leadNextSpec.plain.varTypes Tryz.prog) (ds ++ gs)).all (· ≤ reachBytes) = true := hsz0
  have hW' := hW
  obtain ⟨p, q, hA0, hV, rfl, _, _⟩ := hW
  have hA : DataW.TrodAll enc Tryz.prog W 0 (fun _ => true) true Tryz.f3.params.toList args.toList ds p := hA0
  rw [Tryz.params3] at hA hval hsz
  obtain ⟨v0, v1, v2, d0, d1, d2, p0, p1, p2, rfl, rfl, rfl, h0, h1, h2⟩ := trodAll_three hA
  obtain ⟨rfl, rfl⟩ := trodVars_none hV
  clear hA0 hval0 hsz0
  simp only [List.append_nil] at hW' hsz
  obtain ⟨c0, rfl, hc0⟩ := okWide_struct Tryz.underlying28 (hval 0 28 v0 rfl rfl)
  obtain ⟨m0, ua0, ub0, ud0, e0, hP0⟩ := (opens_config).arg (j := 0) h0 hsz rfl rfl
  have e0' : Value.agg c0 = cfV m0 ua0 ub0 ud0 := by
    unfold cfV cfC; congr 1; exact Array.toList_inj.1 (by simpa [Value.cells] using e0)
  obtain ⟨c1, rfl, hc1⟩ := okWide_struct Tryz.underlying32 (hval 1 32 v1 rfl rfl)
  obtain ⟨m1, ur1, ua1, e1, hP1, hw1⟩ := (opens_leaderw).arg (j := 1) h1 hsz rfl rfl
  have e1' : Value.agg c1 = leV m1 ur1 ua1 := by
    unfold leV leC; congr 1; exact Array.toList_inj.1 (by simpa [Value.cells] using e1)
  obtain ⟨c2, rfl, hc2⟩ := okWide_struct Tryz.underlying34 (hval 2 34 v2 rfl rfl)
  obtain ⟨m2, u2, e2, hP2, hw2⟩ := (opens_rec).arg (j := 2) h2 hsz rfl rfl
  have e2' : Value.agg c2 = recV m2 u2 := by
    unfold recV; congr 1; exact Array.toList_inj.1 (by simpa [Value.cells] using e2)
  have hlt : ∀ x ∈ p0 ++ p1 ++ p2, x.block < W.heap.size := fun x hx => by
    have := hW'.lt x (by simpa using hx)
    simpa using this
  have hcall : Calls Tryz.prog 3 #[Value.agg c0, Value.agg c1, Value.agg c2] W fun e w' => e = .returned (.bool true) ∧ Below W.heap.size W w' := by
    rw [e0', e1', e2']
    exact lnext_any m0 ua0 ub0 ud0 m1 ur1 ua1 m2.kind m2.agent m2.tr m2.n m2.id m2.good m2.lock u2 W hP0 hP1 hP2 hw1 hw2
  refine hcall.mono fun e W' ⟨he, hb⟩ => ?_
  subst he
  refine ⟨_, rfl, _, _, _, [], p0 ++ p1 ++ p2, [], hW', trodAll_mk1 (shut_bool Tryz.underlying4 _), ?_, rfl, hb.frame _, fun h => by cases h⟩
  have h23 := trodAll_mk3 (Below.trod laidOut (by kernel_rfl) (of_decide_eq_true (by kernel_rfl)) h0 hb (fun x hx => hlt x (by simp [hx]))) (Below.trod laidOut (by kernel_rfl) (of_decide_eq_true (by kernel_rfl)) h1 hb (fun x hx => hlt x (by simp [hx]))) (Below.trod laidOut (by kernel_rfl) (of_decide_eq_true (by kernel_rfl)) h2 hb (fun x hx => hlt x (by simp [hx])))
  simp only [List.append_nil, List.append_assoc] at h23 ⊢
  exact h23
theorem leadNext_row : Rows.leadNextRow.holds Tryz.pinned (OpenSpec.ofChange Rows.leadNextSpec) :=
  OpenClaim.holds_of_wide 3 Tryz.f3 rfl rfl rfl rfl rfl rfl rfl ⟨rfl, rfl, rfl, rfl, rfl⟩ rfl rfl rfl rfl rfl (by kernel_rfl) Tryz.func3 (by kernel_rfl)
    (of_decide_eq_true (by kernel_rfl)) (by unfold Func.isWrapper; first | (rw [if_pos (by decide +kernel)]; kernel_rfl) | (rw [if_neg (by decide +kernel)]; exact ⟨rfl, rfl⟩))
    (fun os started H enc _ => leadNext_lifted os started H enc)
theorem leadNext_proved : Rows.LeadNextSaid := leadNext_row
#print axioms leadNext_proved
end Go.Proofs.YtmlhipdfjnamiaaGreat
