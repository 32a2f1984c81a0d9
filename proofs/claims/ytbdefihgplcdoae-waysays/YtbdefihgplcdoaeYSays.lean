/- Proved: vanguardlaw.WaySays returns true for any mail on its way, any piece of mail, any number, either Boolean and any other mail, and its arguments read behind the call as before it (P9.1, P9.2). Its conditions: none but what the row itself says. -/
import Derived.Test.YtbdefihgplcdoaeYOp
import Derived.Test.YtbdefihgplcdoaeYVA
import Derived.Carry
namespace Go.Proofs.Ytbdefihgplcdoae
open Go.RowKit Go.ChangeShapes Go.WideShapes Go.ChangeAt Go.WideMaps Go.WideElems
open Go.ChangeMaps (open_string shut_string)
set_option maxRecDepth 100000 in
set_option maxHeartbeats 4000000 in
theorem waySays_lifted (os : Os) (started : os.Started) (H : Type) (enc : TypeId × Value → H) :
    ReturnsInHanded {} Try.checked os 4 .any (Rows.waySaysSpec.pre6 enc Try.prog Try.f4 Rows.waySaysRow.domain false) (Rows.waySaysSpec.post enc Try.prog Try.f4 false true false false) := by
  refine returnsInHanded_of_change_sized (C := Try.checked) own started (by kernel_rfl) Try.func4
    (ChangeSpec.witness6 (enc := enc) (C := Try.checked) false ⟨#[], #[.slice none 0 0, .agg #[.int .i64 0, .int .i64 0, .bool false, .bool false, .int .i64 0, .slice none 0 0], .int .i64 0, .bool false, .slice none 0 0], []⟩ 16 (by kernel_rfl) (by kernel_rfl) (by kernel_rfl) (by kernel_rfl)) ?_
  intro W base args ds gs before hval0 hW _ hsz0 _
  have hval : ∀ (j : Nat) t v, Try.f4.params[j]? = some t → args[j]? = some v → Value.okWide Try.prog W .any base t v := hval0
  have hsz : (DataW.weightsEach Try.prog (Try.f4.params.toList ++ Rows.waySaysSpec.plain.varTypes Try.prog) (ds ++ gs)).all (· ≤ reachBytes) = true := hsz0
  have hW' := hW
  obtain ⟨p, q, hA0, hV, rfl, _, _⟩ := hW
  have hA : DataW.TrodAll enc Try.prog W 0 (fun _ => true) true Try.f4.params.toList args.toList ds p := hA0
  rw [Try.params4] at hA hval hsz
  obtain ⟨v0, v1, v2, v3, v4, d0, d1, d2, d3, d4, p0, p1, p2, p3, p4, rfl, rfl, rfl, h0, h1, h2, h3, h4⟩ := trodAll_five hA
  obtain ⟨rfl, rfl⟩ := trodVars_none hV
  clear hA0 hval0 hsz0
  simp only [List.append_nil] at hW' hsz
  obtain ⟨a0, len0, cap0, rfl⟩ := okWide_slice Try.underlying50 (hval 0 50 v0 rfl rfl)
  obtain ⟨m0, u0, e0, hP0⟩ := (opens_mails).arg (j := 0) h0 hsz rfl rfl
  have e0' : u0 = Value.slice a0 len0 cap0 := by simpa [Value.cells] using e0.symm
  subst e0'
  obtain ⟨c1, rfl, hc1⟩ := okWide_struct Try.underlying52 (hval 1 52 v1 rfl rfl)
  obtain ⟨m1, e1, hP1⟩ := (opens_mail).arg (j := 1) h1 hsz rfl rfl
  have e1' : Value.agg c1 = mailV m1.1 m1.2 := by
    unfold mailV; unfold mlCells at e1; congr 1; exact Array.toList_inj.1 (by simpa [Value.cells] using e1)
  obtain ⟨x2, rfl, rfl, rfl, wf2⟩ := open_int Try.underlying3 (hval 2 3 v2 rfl rfl) h2
  obtain ⟨b3, rfl, rfl, rfl⟩ := open_bool Try.underlying4 (hval 3 4 v3 rfl rfl) h3
  obtain ⟨a4, len4, cap4, rfl⟩ := okWide_slice Try.underlying50 (hval 4 50 v4 rfl rfl)
  obtain ⟨m4, u4, e4, hP4⟩ := (opens_mails).arg (j := 4) h4 hsz rfl rfl
  have e4' : u4 = Value.slice a4 len4 cap4 := by simpa [Value.cells] using e4.symm
  subst e4'
  have hlt : ∀ x ∈ p0 ++ p1 ++ p4, x.block < W.heap.size := fun x hx => by
    have := hW'.lt x (by simpa using hx)
    simpa using this
  have hcall : Calls Try.prog 4 #[Value.slice a0 len0 cap0, Value.agg c1, .int .i64 x2, .bool b3, Value.slice a4 len4 cap4] W fun e w' => e = .returned (.bool true) ∧ Below W.heap.size W w' := by
    rw [e1']
    exact waySays_any _ m1.2 _ m0 m4 m1.1 x2 b3 W hP0 hP1 hP4
  refine hcall.mono fun e W' ⟨he, hb⟩ => ?_
  subst he
  refine ⟨_, rfl, _, _, _, [], p0 ++ p1 ++ p4, [], hW', trodAll_mk1 (shut_bool Try.underlying4 _), ?_, rfl, hb.frame _, fun h => by cases h⟩
  have h25 := trodAll_mk5 (Below.trod laidOut (by kernel_rfl) (of_decide_eq_true (by kernel_rfl)) h0 hb (fun x hx => hlt x (by simp [hx]))) (Below.trod laidOut (by kernel_rfl) (of_decide_eq_true (by kernel_rfl)) h1 hb (fun x hx => hlt x (by simp [hx]))) (shut_int Try.underlying3 wf2) (shut_bool Try.underlying4 b3) (Below.trod laidOut (by kernel_rfl) (of_decide_eq_true (by kernel_rfl)) h4 hb (fun x hx => hlt x (by simp [hx])))
  simp only [List.append_nil, List.nil_append, List.append_assoc] at h25 ⊢
  exact h25
theorem waySays_row : Rows.waySaysRow.holds Try.pinned (OpenSpec.ofChange Rows.waySaysSpec) :=
  OpenClaim.holds_of_wide 4 Try.f4 rfl rfl rfl rfl rfl rfl rfl ⟨rfl, rfl, rfl, rfl, rfl⟩ rfl rfl rfl rfl rfl (by kernel_rfl) Try.func4 (by kernel_rfl)
    (of_decide_eq_true (by kernel_rfl)) (by unfold Func.isWrapper; first | (rw [if_pos (by decide +kernel)]; kernel_rfl) | (rw [if_neg (by decide +kernel)]; exact ⟨rfl, rfl⟩))
    (fun os started H enc _ => waySays_lifted os started H enc)
theorem waySays_proved : Rows.WaySaysSaid := waySays_row
#print axioms waySays_proved
end Go.Proofs.Ytbdefihgplcdoae
