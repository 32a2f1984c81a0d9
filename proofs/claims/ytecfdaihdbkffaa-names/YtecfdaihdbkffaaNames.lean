/- Proved: vanguardlaw.Names returns true (each constant of package api has its value). Its conditions: none. -/
import Derived.Test.YtecfdaihdbkffaaRows
import Derived.WalkKit
import Derived.ProofKit
import Derived.OpenShut
import Derived.Test.YtecfdaihdbkffaaShelf
namespace Go.Proofs.Ytecfdaihdbkffaa.names
open Go.ChangeShapes Go.WideShapes Go.ChangeAt Go.RowKit
set_option linter.unusedVariables false      -- a walk need not use every 'w<i>' (that an integer argument fits its kind)

theorem own : ownKnob Try.prog.godebug = none := by kernel_rfl

theorem grown_drewN {W w' : World} (h : Grown W w') (n : Nat) : Grown W (w'.drewN n) := h
def limits : List Int := [20, 99, 12, 10, 6, 6, 3, 200, 200, 60000, 40, 150]
def kinds : List Int := [1, 2, 3, 1, 2, 3, 4, 5, 6, 7, 8, 9, 0, 1, 2, 3, 1, 2, 3, 4, 5, 6, 7, 8, 9, 10, 11, 12, 13]
theorem cellsAtL (w : World) (b : Nat) (h : w.cell? ⟨b, 0, none⟩ = some (.int .i64 20) ∧ w.cell? ⟨b, 1, none⟩ = some (.int .i64 99) ∧ w.cell? ⟨b, 2, none⟩ = some (.int .i64 12) ∧ w.cell? ⟨b, 3, none⟩ = some (.int .i64 10) ∧ w.cell? ⟨b, 4, none⟩ = some (.int .i64 6) ∧ w.cell? ⟨b, 5, none⟩ = some (.int .i64 6) ∧ w.cell? ⟨b, 6, none⟩ = some (.int .i64 3) ∧ w.cell? ⟨b, 7, none⟩ = some (.int .i64 200) ∧ w.cell? ⟨b, 8, none⟩ = some (.int .i64 200) ∧ w.cell? ⟨b, 9, none⟩ = some (.int .i64 60000) ∧ w.cell? ⟨b, 10, none⟩ = some (.int .i64 40) ∧ w.cell? ⟨b, 11, none⟩ = some (.int .i64 150)) :
    ∀ j, j < limits.length → w.cell? ⟨b, 0 + j, none⟩ = some (.int .i64 (limits.getD j 0)) := by
  intro j hj
  have hj' : j < 12 := hj
  have h' : j = 0 ∨ j = 1 ∨ j = 2 ∨ j = 3 ∨ j = 4 ∨ j = 5 ∨ j = 6 ∨ j = 7 ∨ j = 8 ∨ j = 9 ∨ j = 10 ∨ j = 11 := by omega
  obtain ⟨h0, h1, h2, h3, h4, h5, h6, h7, h8, h9, h10, h11⟩ := h
  rcases h' with rfl | rfl | rfl | rfl | rfl | rfl | rfl | rfl | rfl | rfl | rfl | rfl
  · exact h0
  · exact h1
  · exact h2
  · exact h3
  · exact h4
  · exact h5
  · exact h6
  · exact h7
  · exact h8
  · exact h9
  · exact h10
  · exact h11
theorem cellsAtK (w : World) (b : Nat) (h : w.cell? ⟨b, 0, none⟩ = some (.int .i64 1) ∧ w.cell? ⟨b, 1, none⟩ = some (.int .i64 2) ∧ w.cell? ⟨b, 2, none⟩ = some (.int .i64 3) ∧ w.cell? ⟨b, 3, none⟩ = some (.int .i64 1) ∧ w.cell? ⟨b, 4, none⟩ = some (.int .i64 2) ∧ w.cell? ⟨b, 5, none⟩ = some (.int .i64 3) ∧ w.cell? ⟨b, 6, none⟩ = some (.int .i64 4) ∧ w.cell? ⟨b, 7, none⟩ = some (.int .i64 5) ∧ w.cell? ⟨b, 8, none⟩ = some (.int .i64 6) ∧ w.cell? ⟨b, 9, none⟩ = some (.int .i64 7) ∧ w.cell? ⟨b, 10, none⟩ = some (.int .i64 8) ∧ w.cell? ⟨b, 11, none⟩ = some (.int .i64 9) ∧ w.cell? ⟨b, 12, none⟩ = some (.int .i64 0) ∧ w.cell? ⟨b, 13, none⟩ = some (.int .i64 1) ∧ w.cell? ⟨b, 14, none⟩ = some (.int .i64 2) ∧ w.cell? ⟨b, 15, none⟩ = some (.int .i64 3) ∧ w.cell? ⟨b, 16, none⟩ = some (.int .i64 1) ∧ w.cell? ⟨b, 17, none⟩ = some (.int .i64 2) ∧ w.cell? ⟨b, 18, none⟩ = some (.int .i64 3) ∧ w.cell? ⟨b, 19, none⟩ = some (.int .i64 4) ∧ w.cell? ⟨b, 20, none⟩ = some (.int .i64 5) ∧ w.cell? ⟨b, 21, none⟩ = some (.int .i64 6) ∧ w.cell? ⟨b, 22, none⟩ = some (.int .i64 7) ∧ w.cell? ⟨b, 23, none⟩ = some (.int .i64 8) ∧ w.cell? ⟨b, 24, none⟩ = some (.int .i64 9) ∧ w.cell? ⟨b, 25, none⟩ = some (.int .i64 10) ∧ w.cell? ⟨b, 26, none⟩ = some (.int .i64 11) ∧ w.cell? ⟨b, 27, none⟩ = some (.int .i64 12) ∧ w.cell? ⟨b, 28, none⟩ = some (.int .i64 13)) :
    ∀ j, j < kinds.length → w.cell? ⟨b, 0 + j, none⟩ = some (.int .i64 (kinds.getD j 0)) := by
  intro j hj
  have hj' : j < 29 := hj
  have h' : j = 0 ∨ j = 1 ∨ j = 2 ∨ j = 3 ∨ j = 4 ∨ j = 5 ∨ j = 6 ∨ j = 7 ∨ j = 8 ∨ j = 9 ∨ j = 10 ∨ j = 11 ∨ j = 12 ∨ j = 13 ∨ j = 14 ∨ j = 15 ∨ j = 16 ∨ j = 17 ∨ j = 18 ∨ j = 19 ∨ j = 20 ∨ j = 21 ∨ j = 22 ∨ j = 23 ∨ j = 24 ∨ j = 25 ∨ j = 26 ∨ j = 27 ∨ j = 28 := by omega
  obtain ⟨h0, h1, h2, h3, h4, h5, h6, h7, h8, h9, h10, h11, h12, h13, h14, h15, h16, h17, h18, h19, h20, h21, h22, h23, h24, h25, h26, h27, h28⟩ := h
  rcases h' with rfl | rfl | rfl | rfl | rfl | rfl | rfl | rfl | rfl | rfl | rfl | rfl | rfl | rfl | rfl | rfl | rfl | rfl | rfl | rfl | rfl | rfl | rfl | rfl | rfl | rfl | rfl | rfl | rfl
  · exact h0
  · exact h1
  · exact h2
  · exact h3
  · exact h4
  · exact h5
  · exact h6
  · exact h7
  · exact h8
  · exact h9
  · exact h10
  · exact h11
  · exact h12
  · exact h13
  · exact h14
  · exact h15
  · exact h16
  · exact h17
  · exact h18
  · exact h19
  · exact h20
  · exact h21
  · exact h22
  · exact h23
  · exact h24
  · exact h25
  · exact h26
  · exact h27
  · exact h28

/-! ### STEP 1: THE WALK: the Go text returns true. 'Grown w w'': the world has at most new blocks (Derived/RowKit3.lean). Part the cases AHEAD of 'go_enter' where a test parts the walk; take each callee by a contract of your own. -/
set_option maxHeartbeats 2000000 in
theorem walk  (w : World) :
    Calls Try.prog 3 #[] w fun e w' => e = .returned (.bool true) ∧ Grown w w' := by
  go_enter Try.func3, Try.ntmps3
  go_wp2
  go_loop [9] (fun i => ∃ k : Nat, k ≤ 10 ∧ i = .int .i64 k) (fun i => 10 - (intOf i).toNat)
  case atStart => exact ⟨0, by omega, rfl⟩
  case round =>
    obtain ⟨k, hk, rfl⟩ := hrel
    by_cases hlt : k < 10
    · have hk' : k = 0 ∨ k = 1 ∨ k = 2 ∨ k = 3 ∨ k = 4 ∨ k = 5 ∨ k = 6 ∨ k = 7 ∨ k = 8 ∨ k = 9 := by omega
      clear hk hlt
      rcases hk' with rfl | rfl | rfl | rfl | rfl | rfl | rfl | rfl | rfl | rfl
      all_goals
        go_wp2_with fail
        go_round
        case rel => exact ⟨_, by decide, rfl⟩
        case measure => simp [intOf]
    · have hk' : k = 10 := by omega
      subst hk'
      clear hk hlt
      go_wp2_with fail
      refine (Try.slices_Equal_int _ 0 12 _ _ 0 12 _ limits limits _ (by decide) (by decide) (by decide) (by decide) ?_ ?_).mono ?_
      · intro j hj
        refine cellsAtL _ _ ?_ j hj
        refine ⟨?_, ?_, ?_, ?_, ?_, ?_, ?_, ?_, ?_, ?_, ?_, ?_⟩ <;> simp [go_sem]
      · intro j hj
        refine cellsAtL _ _ ?_ j hj
        refine ⟨?_, ?_, ?_, ?_, ?_, ?_, ?_, ?_, ?_, ?_, ?_, ?_⟩ <;> simp [go_sem]
      rintro e w1 ⟨rfl, q, rfl⟩
      rw [show (limits.take 12 == limits.take 12) = true from by decide]
      go_wp2_with fail
      refine (Try.slices_Equal_int _ 0 29 _ _ 0 29 _ kinds kinds _ (by decide) (by decide) (by decide) (by decide) ?_ ?_).mono ?_
      · intro j hj
        refine cellsAtK _ _ ?_ j hj
        refine ⟨?_, ?_, ?_, ?_, ?_, ?_, ?_, ?_, ?_, ?_, ?_, ?_, ?_, ?_, ?_, ?_, ?_, ?_, ?_, ?_, ?_, ?_, ?_, ?_, ?_, ?_, ?_, ?_, ?_⟩ <;> simp [go_sem]
      · intro j hj
        refine cellsAtK _ _ ?_ j hj
        refine ⟨?_, ?_, ?_, ?_, ?_, ?_, ?_, ?_, ?_, ?_, ?_, ?_, ?_, ?_, ?_, ?_, ?_, ?_, ?_, ?_, ?_, ?_, ?_, ?_, ?_, ?_, ?_, ?_, ?_⟩ <;> simp [go_sem]
      rintro e w2 ⟨rfl, q2, rfl⟩
      rw [show (kinds.take 29 == kinds.take 29) = true from by decide]
      go_wp2_with fail
      go_ret
      refine ⟨rfl, ?_⟩
      refine grown_drewN ?_ _
      repeat (first | exact Grown.refl _ | apply Grown.drew | apply Grown.alloc)

/-! ### THE ROW's STEP: WRITTEN OUT: LEAVE IT -/
set_option maxRecDepth 100000 in
theorem lifted (os : Os) (started : os.Started) (H : Type) (enc : TypeId × Value → H) :
    ReturnsInHanded {} Try.checked os 3 .any (Rows.namesSpec.pre6 enc Try.prog Try.f3 Rows.namesRow.domain false) (Rows.namesSpec.post enc Try.prog Try.f3 false true false false) := by
  refine returnsInHanded_of_change (C := Try.checked) own started (by kernel_rfl) Try.func3
    (ChangeSpec.witness6 (enc := enc) (C := Try.checked) false ⟨#[], #[], []⟩ 8 (by kernel_rfl) (by kernel_rfl) (by kernel_rfl) (by kernel_rfl)) ?_
  intro W base args ds gs before hval0 hW hcnd _
  have hval : ∀ (j : Nat) t v, Try.f3.params[j]? = some t → args[j]? = some v → Value.okWide Try.prog W .any base t v := hval0
  have hW' := hW
  obtain ⟨p, q, hA0, hV, rfl, hfz, hnd⟩ := hW
  have hA : DataW.TrodAll enc Try.prog W 0 (fun _ => true) true Try.f3.params.toList args.toList ds p := hA0
  rw [Try.params3] at hA hval
  obtain ⟨rfl, rfl, rfl⟩ := trodAll_none hA
  obtain ⟨rfl, rfl⟩ := trodVars_none hV
  clear hA0 hval0
  simp only [List.append_nil] at hW'
  refine (walk  W).mono fun e W' ⟨he, hg⟩ => ?_
  subst he
  exact ⟨_, rfl, post_of_same (pa := []) (pv := []) hW' (fun _ _ _ => (trodAll_cons_mk (shut_bool Try.underlying4 _) trodAll_mk0)) (fun sp _ => rfl) (fun _ _ => rfl) rfl
    (hg.frame _) hg.2.1 (ok_one (by kernel_rfl) rfl (okWide_bool_mk Try.underlying4 _))⟩

theorem over : Rows.namesRow.holds Try.pinned (OpenSpec.ofChange Rows.namesSpec) :=
  OpenClaim.holds_of_wide 3 Try.f3 rfl rfl rfl rfl rfl rfl rfl ⟨rfl, rfl, rfl, rfl, rfl⟩ rfl rfl rfl rfl rfl (by kernel_rfl) Try.func3 (by kernel_rfl)
    (of_decide_eq_true (by kernel_rfl)) (by unfold Func.isWrapper; first | (rw [if_pos (by decide +kernel)]; kernel_rfl) | (rw [if_neg (by decide +kernel)]; exact ⟨rfl, rfl⟩))
    (fun os started H enc _ => lifted os started H enc)

/-- ████ THE STATEMENT ████ -/
theorem proved : Rows.NamesSaid :=
  over
#print axioms proved
end Go.Proofs.Ytecfdaihdbkffaa.names
