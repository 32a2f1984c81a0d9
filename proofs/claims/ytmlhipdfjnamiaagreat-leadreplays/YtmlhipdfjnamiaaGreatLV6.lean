/- The contracts of lead.isTurn, lead.isOver and lead.Over. -/
import Derived.Test.YtmlhipdfjnamiaaGreatLV5
namespace Go.Proofs.YtmlhipdfjnamiaaGreat
open Go.RowKit
theorem now_thr {cf : Ld.Config} {ld : Ld.Leader} (h : Ld.chkLeader cf ld = 0) : nowOf cf.waves (thr ld.ags) = Wv.now cf.waves (Ld.through ld) := by
  have h2 := (Ld.lead_few h).2.2.1
  have e : thr ld.ags = Ld.through ld := Ld.thr_eq h
  have hl : (thr ld.ags).length = ld.ags.length := by simp [thr]
  rw [nowOf, nowErr, hl, if_pos h2, e]
theorem not_lt_le (d : Int) (n : Nat) : (!decide (d < (n : Int))) = decide ((n : Int) ≤ d) := by
  by_cases h : d < (n : Int)
  · rw [decide_eq_true h, decide_eq_false (by omega)]; rfl
  · rw [decide_eq_false h, decide_eq_true (by omega)]; rfl
set_option maxHeartbeats 8000000 in
set_option maxRecDepth 100000 in
theorem isTurn_any (cf : Ld.Config) (A B D : Value) (ld : Ld.Leader) (Y Z : Value) (k : Nat) (w : World) (hC : CfAt w cf A B D) (hL : LdAt w ld Y Z) (hk : k < ld.ags.length) (hc : Ld.chkLeader cf ld = 0) :
    Calls Tryz.prog 64 #[cfV cf A B D, leV ld Y Z, .int .i64 k] w fun e w' => e = .returned (.bool (Ld.isTurn cf ld k)) ∧ Below w.heap.size w w' := by
  have hN := now_thr hc
  have hlen := (Ld.lead_few hc).2.1
  clear hc
  obtain ⟨f, L, R, W, d⟩ := cf
  obtain ⟨a1, c1, rfl⟩ := pins_slice hC.1
  obtain ⟨a2, c2, rfl⟩ := rules_slice hC.2.1
  obtain ⟨a3, c3, rfl⟩ := waves_slice hC.2.2
  obtain ⟨rs, nw, g, bk, ks, nx⟩ := ld
  obtain ⟨a4, c4, rfl⟩ := relA_slice hL.1
  obtain ⟨a5, c5, rfl⟩ := knows_slice hL.2
  simp only at hN hlen hk
  obtain ⟨b, o, rfl, hbw, g1, g2, g3⟩ := knows_at hL.2 hk
  have HT : Hid (Ld.isTurn ⟨f, L, R, W, d⟩ ⟨rs, nw, g, bk, ks, nx⟩ k = if bk = true then decide ((ks.getD k ⟨0, 0, false⟩).st ≠ 0) && !(ks.getD k ⟨0, 0, false⟩).back else decide ((ks.getD k ⟨0, 0, false⟩).st = 0) && decide (Wv.of W k = nowOf W (thr ks)) && !decide (d < ((ks.filter fun a => a.st == 3).length : Int))) := by
    show _ = _
    rw [hN, not_lt_le]; rfl
  have H1 : Hid (∀ w', Below w.heap.size w w' → Calls Tryz.prog 81 #[.slice a3 W.length c3, .int .i64 k] w' fun e w'' => e = .returned (.int .i64 (Wv.of W k)) ∧ Below w'.heap.size w' w'') := fun w' hb => ofP_any _ W k w' (hC.2.2.below hb)
  have H2 : Hid (∀ w', Below w.heap.size w w' → Calls Tryz.prog 82 #[.agg #[.int .i64 f, .slice a1 L.length c1, .slice a2 R.length c2, .slice a3 W.length c3, .int .i64 d], .agg #[.slice a4 rs.length c4, .int .i64 nw, .int .i64 g, .bool bk, .slice (some ⟨b, o, none⟩) ks.length c5, .int .i64 nx]] w' fun e w'' => e = .returned (.int .i64 (nowOf W (thr ks))) ∧ Below w'.heap.size w' w'') := fun w' hb => waveNow_any f d nw g nx bk a1 a2 a4 _ _ _ _ _ _ W ks _ _ w' (hC.2.2.below hb) (hL.2.below hb) (by omega)
  have H3 : Hid (∀ w', Below w.heap.size w w' → Calls Tryz.prog 83 #[.agg #[.int .i64 f, .slice a1 L.length c1, .slice a2 R.length c2, .slice a3 W.length c3, .int .i64 d], .agg #[.slice a4 rs.length c4, .int .i64 nw, .int .i64 g, .bool bk, .slice (some ⟨b, o, none⟩) ks.length c5, .int .i64 nx]] w' fun e w'' => e = .returned (.bool (decide (d < ((ks.filter fun a => a.st == 3).length : Int)))) ∧ Below w'.heap.size w' w'') := fun w' hb => ill_any f d nw g nx bk a1 a2 a3 a4 _ _ _ _ _ _ _ _ ks _ w' (hL.2.below hb)
  clear hC hL hN
  unfold cfV cfC leV leC
  simp only
  generalize Ld.isTurn ⟨f, L, R, W, d⟩ ⟨rs, nw, g, bk, ks, nx⟩ k = Q at HT ⊢
  generalize decide (d < ((ks.filter fun a => a.st == 3).length : Int)) = IL at HT H3
  generalize nowOf W (thr ks) = X2 at HT H2
  generalize Wv.of W k = X1 at HT H1
  generalize ks.getD k ⟨0, 0, false⟩ = p at g1 g2 g3 HT
  obtain ⟨s, t, bb⟩ := p
  simp only at g1 g2 g3 HT
  have hk' : (k : Int) < ks.length := by omega
  generalize rs.length = n4 at *
  generalize ks.length = n5 at *
  generalize L.length = n1 at *
  generalize R.length = n2 at *
  generalize W.length = n3 at *
  obtain ⟨hB0, hK0, hK1⟩ := box2 w #[.int .i64 f, .slice a1 n1 c1, .slice a2 n2 c2, .slice a3 n3 c3, .int .i64 d] #[.slice a4 n4 c4, .int .i64 nw, .int .i64 g, .bool bk, .slice (some ⟨b, o, none⟩) n5 c5, .int .i64 nx] 28 32
  rw [← hB0.cell (p := ⟨b, _, none⟩) hbw] at g1 g2 g3
  have hb3 := hK1.cell 3
  have hb4 := hK1.cell 4
  simp only [List.getElem?_toArray, List.getElem?_cons_zero, List.getElem?_cons_succ] at hb3 hb4
  obtain ⟨jB, jK0, jK1, jK2⟩ := box3 w #[.int .i64 f, .slice a1 n1 c1, .slice a2 n2 c2, .slice a3 n3 c3, .int .i64 d] #[.slice a4 n4 c4, .int .i64 nw, .int .i64 g, .bool bk, .slice (some ⟨b, o, none⟩) n5 c5, .int .i64 nx] #[.int .i64 s, .int .i64 t, .bool bb] 28 32 54
  cases bk
  rotate_left
  · have HQ : Hid (Q = (decide (s ≠ 0) && !bb)) := HT.out
    have HB : Hid (Below w.heap.size w _) := jB
    clear HT H1 H2 H3 jB jK0 jK1 jK2 hK0 hK1 hB0
    by_cases h0 : s = 0
    · subst h0
      go_enter Tryz.func64, Tryz.ntmps64
      go_wp2
      go_ret
      exact ⟨by rw [HQ.out]; rfl, HB.out⟩
    · have h0' : (s != 0) = true := by rw [bne_iff_ne]; exact h0
      have h0'' : decide (s ≠ 0) = true := decide_eq_true h0
      have HQ2 : Hid (Q = !bb) := by rw [HQ.out, h0'']; rfl
      clear h0 h0'' HQ
      go_enter Tryz.func64, Tryz.ntmps64
      go_wp2
      go_ret
      exact ⟨by rw [HQ2.out]; rfl, HB.out⟩
  have HQ : Hid (Q = (decide (s = 0) && decide (X1 = X2) && !IL)) := HT.out
  clear HT hK0 hK1
  by_cases h0 : s = 0
  rotate_left
  · have h0' : (s == 0) = false := by simpa using h0
    have HQ2 : Hid (Q = false) := by rw [HQ.out, decide_eq_false h0]; rfl
    clear HQ H1 H2 H3 h0
    go_enter Tryz.func64, Tryz.ntmps64
    go_wp2_with fail
    generalize (((w.alloc (.cells #[.int .i64 f, .slice a1 n1 c1, .slice a2 n2 c2, .slice a3 n3 c3, .int .i64 d] 28)).alloc (.cells #[.slice a4 n4 c4, .int .i64 nw, .int .i64 g, .bool false, .slice (some ⟨b, o, none⟩) n5 c5, .int .i64 nx] 32)).alloc (.cells #[.int .i64 s, .int .i64 t, .bool bb] 54)) = V at jB jK0 jK1 jK2 ⊢
    have kc0 := cell_regrown (show _ = some _ from jK0.cell 0)
    have kc1 := cell_regrown (show _ = some _ from jK0.cell 1)
    have kc2 := cell_regrown (show _ = some _ from jK0.cell 2)
    have kc3 := cell_regrown (show _ = some _ from jK0.cell 3)
    have kc4 := cell_regrown (show _ = some _ from jK0.cell 4)
    have kl0 := cell_regrown (show _ = some _ from jK1.cell 0)
    have kl1 := cell_regrown (show _ = some _ from jK1.cell 1)
    have kl2 := cell_regrown (show _ = some _ from jK1.cell 2)
    have kl3 := cell_regrown (show _ = some _ from jK1.cell 3)
    have kl4 := cell_regrown (show _ = some _ from jK1.cell 4)
    have kl5 := cell_regrown (show _ = some _ from jK1.cell 5)
    have ka0 := cell_regrown (show _ = some _ from jK2.cell 0)
    have ka1 := cell_regrown (show _ = some _ from jK2.cell 1)
    have ka2 := cell_regrown (show _ = some _ from jK2.cell 2)
    have HB0 : Hid (Below w.heap.size w V) := jB
    clear jB jK0 jK1 jK2 hB0 g1 g2 g3 hb3 hb4
    refine wp_region_quiet_below (by kernel_rfl) (by kernel_rfl) ?_
    repeat (go_big_quiet_step (first | fail))
    refine wpQuiet_nil ?_
    intro _ hw'
    obtain ⟨⟨dq, osq⟩, hw''⟩ := hw'
    subst hw''
    have hbq := below_regrown V dq osq
    have HB5 : Hid (Below w.heap.size w (Sort.grow (redrawn V dq) osq)) := HB0.out.trans (hbq.mono HB0.out.size)
    clear hbq
    go_wp2
    go_ret
    exact ⟨by rw [HQ2.out]; rfl, HB5.out⟩
  subst h0
  by_cases h1 : X1 = X2
  rotate_left
  · have h1' : (X1 == X2) = false := by simpa using h1
    have HQ2 : Hid (Q = false) := by rw [HQ.out, decide_eq_false h1]; rfl
    clear HQ H3 h1
    go_enter Tryz.func64, Tryz.ntmps64
    go_wp2_with fail
    generalize (((w.alloc (.cells #[.int .i64 f, .slice a1 n1 c1, .slice a2 n2 c2, .slice a3 n3 c3, .int .i64 d] 28)).alloc (.cells #[.slice a4 n4 c4, .int .i64 nw, .int .i64 g, .bool false, .slice (some ⟨b, o, none⟩) n5 c5, .int .i64 nx] 32)).alloc (.cells #[.int .i64 0, .int .i64 t, .bool bb] 54)) = V at jB jK0 jK1 jK2 ⊢
    have kc0 := cell_regrown (show _ = some _ from jK0.cell 0)
    have kc1 := cell_regrown (show _ = some _ from jK0.cell 1)
    have kc2 := cell_regrown (show _ = some _ from jK0.cell 2)
    have kc3 := cell_regrown (show _ = some _ from jK0.cell 3)
    have kc4 := cell_regrown (show _ = some _ from jK0.cell 4)
    have kl0 := cell_regrown (show _ = some _ from jK1.cell 0)
    have kl1 := cell_regrown (show _ = some _ from jK1.cell 1)
    have kl2 := cell_regrown (show _ = some _ from jK1.cell 2)
    have kl3 := cell_regrown (show _ = some _ from jK1.cell 3)
    have kl4 := cell_regrown (show _ = some _ from jK1.cell 4)
    have kl5 := cell_regrown (show _ = some _ from jK1.cell 5)
    have ka0 := cell_regrown (show _ = some _ from jK2.cell 0)
    have ka1 := cell_regrown (show _ = some _ from jK2.cell 1)
    have ka2 := cell_regrown (show _ = some _ from jK2.cell 2)
    have c1 := fun (d' : Nat) (os : Array Obj) => Calls.regrown_of (H1.out (Sort.grow (redrawn V d') os) (jB.trans ((below_regrown V d' os).mono jB.size)))
    have c2 := fun (d' : Nat) (os : Array Obj) => Calls.regrown_of (H2.out (Sort.grow (redrawn V d') os) (jB.trans ((below_regrown V d' os).mono jB.size)))
    have HB0 : Hid (Below w.heap.size w V) := jB
    clear jB jK0 jK1 jK2 hB0 g1 g2 g3 hb3 hb4
    refine wp_region_quiet_below (by kernel_rfl) (by kernel_rfl) ?_
    repeat (go_big_quiet_step (first | exact c1 _ _ | exact c2 _ _))
    refine wpQuiet_nil ?_
    intro _ hw'
    obtain ⟨⟨dq, osq⟩, hw''⟩ := hw'
    subst hw''
    have hbq := below_regrown V dq osq
    have HB5 : Hid (Below w.heap.size w (Sort.grow (redrawn V dq) osq)) := HB0.out.trans (hbq.mono HB0.out.size)
    clear hbq
    go_wp2
    go_ret
    exact ⟨by rw [HQ2.out]; rfl, HB5.out⟩
  have h1' : (X1 == X2) = true := by simpa using h1
  have HQ2 : Hid (Q = !IL) := by rw [HQ.out, decide_eq_true h1]; show _ = _; simp
  clear HQ h1
  go_enter Tryz.func64, Tryz.ntmps64
  go_wp2_with fail
  generalize (((w.alloc (.cells #[.int .i64 f, .slice a1 n1 c1, .slice a2 n2 c2, .slice a3 n3 c3, .int .i64 d] 28)).alloc (.cells #[.slice a4 n4 c4, .int .i64 nw, .int .i64 g, .bool false, .slice (some ⟨b, o, none⟩) n5 c5, .int .i64 nx] 32)).alloc (.cells #[.int .i64 0, .int .i64 t, .bool bb] 54)) = V at jB jK0 jK1 jK2 ⊢
  have kc0 := cell_regrown (show _ = some _ from jK0.cell 0)
  have kc1 := cell_regrown (show _ = some _ from jK0.cell 1)
  have kc2 := cell_regrown (show _ = some _ from jK0.cell 2)
  have kc3 := cell_regrown (show _ = some _ from jK0.cell 3)
  have kc4 := cell_regrown (show _ = some _ from jK0.cell 4)
  have kl0 := cell_regrown (show _ = some _ from jK1.cell 0)
  have kl1 := cell_regrown (show _ = some _ from jK1.cell 1)
  have kl2 := cell_regrown (show _ = some _ from jK1.cell 2)
  have kl3 := cell_regrown (show _ = some _ from jK1.cell 3)
  have kl4 := cell_regrown (show _ = some _ from jK1.cell 4)
  have kl5 := cell_regrown (show _ = some _ from jK1.cell 5)
  have ka0 := cell_regrown (show _ = some _ from jK2.cell 0)
  have ka1 := cell_regrown (show _ = some _ from jK2.cell 1)
  have ka2 := cell_regrown (show _ = some _ from jK2.cell 2)
  have c1 := fun (d' : Nat) (os : Array Obj) => Calls.regrown_of (H1.out (Sort.grow (redrawn V d') os) (jB.trans ((below_regrown V d' os).mono jB.size)))
  have c2 := fun (d' : Nat) (os : Array Obj) => Calls.regrown_of (H2.out (Sort.grow (redrawn V d') os) (jB.trans ((below_regrown V d' os).mono jB.size)))
  have c3 := fun (d' : Nat) (os : Array Obj) => Calls.regrown_of (H3.out (Sort.grow (redrawn V d') os) (jB.trans ((below_regrown V d' os).mono jB.size)))
  have HB0 : Hid (Below w.heap.size w V) := jB
  clear jB jK0 jK1 jK2 hB0 g1 g2 g3 hb3 hb4
  refine wp_region_quiet_below (by kernel_rfl) (by kernel_rfl) ?_
  repeat (go_big_quiet_step (first | exact c1 _ _ | exact c2 _ _ | exact c3 _ _))
  refine wpQuiet_nil ?_
  intro _ hw'
  obtain ⟨⟨dq, osq⟩, hw''⟩ := hw'
  subst hw''
  have hbq := below_regrown V dq osq
  have HB5 : Hid (Below w.heap.size w (Sort.grow (redrawn V dq) osq)) := HB0.out.trans (hbq.mono HB0.out.size)
  clear hbq
  go_wp2
  go_ret
  exact ⟨by rw [HQ2.out]; rfl, HB5.out⟩
theorem all_not_any (ks : List Ld.Known) (p q : Ld.Known → Bool) (h : ∀ a ∈ ks, q a = !p a) : ks.all q = !ks.any p := by
  induction ks with
  | nil => rfl
  | cons a t ih => rw [List.all_cons, List.any_cons, ih (fun x hx => h x (by simp [hx])), h a (by simp), Bool.not_or]
theorem over_back {cf : Ld.Config} {ld : Ld.Leader} (hb : ld.back = true) : Ld.isOver cf ld = !ld.ags.any (fun a => a.st == 1 || (a.st != 0 && !a.back)) := by
  unfold Ld.isOver
  rw [if_pos hb]
  refine all_not_any _ _ _ (fun a _ => ?_)
  rw [Bool.eq_iff_iff]
  by_cases h1 : a.st = 1
  · simp [h1]
  · by_cases h0 : a.st = 0
    · simp [h0]
    · cases hb : a.back <;> simp [h1, h0]
theorem over_on {cf : Ld.Config} {ld : Ld.Leader} (hc : Ld.chkLeader cf ld = 0) (hb : ld.back = false) : Ld.isOver cf ld = (!ld.ags.any (fun a => !(a.st == 2 || a.st == 3)) && !decide (cf.budget < ((ld.ags.filter fun a => a.st == 3).length : Int))) := by
  unfold Ld.isOver
  rw [if_neg (by rw [hb]; decide), not_lt_le]
  have e : (Ld.through ld).all id = !ld.ags.any (fun a => !(a.st == 2 || a.st == 3)) := by
    rw [← Ld.thr_eq hc, List.all_map]
    exact all_not_any _ _ _ (fun a _ => by simp)
  rw [e]; rfl
set_option maxHeartbeats 8000000 in
set_option maxRecDepth 100000 in
theorem isOver_any (cf : Ld.Config) (A B D : Value) (ld : Ld.Leader) (Y Z : Value) (w : World) (hC : CfAt w cf A B D) (hL : LdAt w ld Y Z) (hc : Ld.chkLeader cf ld = 0) :
    Calls Tryz.prog 65 #[cfV cf A B D, leV ld Y Z] w fun e w' => e = .returned (.bool (Ld.isOver cf ld)) ∧ Below w.heap.size w w' := by
  have E1 := fun hb => over_back (cf := cf) (ld := ld) hb
  have E2 := over_on (cf := cf) (ld := ld) hc
  clear hc
  obtain ⟨f, L, R, W, d⟩ := cf
  obtain ⟨a1, c1, rfl⟩ := pins_slice hC.1
  obtain ⟨a2, c2, rfl⟩ := rules_slice hC.2.1
  obtain ⟨a3, c3, rfl⟩ := waves_slice hC.2.2
  obtain ⟨rs, nw, g, bk, ks, nx⟩ := ld
  obtain ⟨a4, c4, rfl⟩ := relA_slice hL.1
  obtain ⟨a5, c5, rfl⟩ := knows_slice hL.2
  simp only at E1 E2
  have H1 : Hid (∀ w', Below w.heap.size w w' → Calls Tryz.prog 87 #[.slice a5 ks.length c5, .func (.func 84) #[] #[]] w' fun e w'' => e = .returned (.bool (ks.any (fun a => !(a.st == 2 || a.st == 3)))) ∧ Below w'.heap.size w' w'') := fun w' hb => containsK_any _ ks 84 (fun a => !(a.st == 2 || a.st == 3)) w' (hL.2.below hb) (fun _ _ => by simp [go_sem]) (fun a w'' => over1_any a.st a.tr a.back w'')
  have H2 : Hid (∀ w', Below w.heap.size w w' → Calls Tryz.prog 87 #[.slice a5 ks.length c5, .func (.func 86) #[] #[]] w' fun e w'' => e = .returned (.bool (ks.any (fun a => a.st == 1 || (a.st != 0 && !a.back)))) ∧ Below w'.heap.size w' w'') := fun w' hb => containsK_any _ ks 86 (fun a => a.st == 1 || (a.st != 0 && !a.back)) w' (hL.2.below hb) (fun _ _ => by simp [go_sem]) (fun a w'' => over2_any a.st a.tr a.back w'')
  have H3 : Hid (∀ w', Below w.heap.size w w' → Calls Tryz.prog 83 #[.agg #[.int .i64 f, .slice a1 L.length c1, .slice a2 R.length c2, .slice a3 W.length c3, .int .i64 d], .agg #[.slice a4 rs.length c4, .int .i64 nw, .int .i64 g, .bool bk, .slice a5 ks.length c5, .int .i64 nx]] w' fun e w'' => e = .returned (.bool (decide (d < ((ks.filter fun a => a.st == 3).length : Int)))) ∧ Below w'.heap.size w' w'') := fun w' hb => ill_any f d nw g nx bk a1 a2 a3 a4 _ _ _ _ _ _ _ _ ks _ w' (hL.2.below hb)
  clear hC hL
  unfold cfV cfC leV leC
  simp only
  generalize Ld.isOver ⟨f, L, R, W, d⟩ ⟨rs, nw, g, bk, ks, nx⟩ = Q at E1 E2 ⊢
  generalize decide (d < ((ks.filter fun a => a.st == 3).length : Int)) = IL at E2 H3
  generalize ks.any (fun a => !(a.st == 2 || a.st == 3)) = X1 at E2 H1
  generalize ks.any (fun a => a.st == 1 || (a.st != 0 && !a.back)) = X2 at E1 H2
  generalize rs.length = n4 at *
  generalize ks.length = n5 at *
  generalize L.length = n1 at *
  generalize R.length = n2 at *
  generalize W.length = n3 at *
  obtain ⟨hB0, hK0, hK1⟩ := box2 w #[.int .i64 f, .slice a1 n1 c1, .slice a2 n2 c2, .slice a3 n3 c3, .int .i64 d] #[.slice a4 n4 c4, .int .i64 nw, .int .i64 g, .bool bk, .slice a5 n5 c5, .int .i64 nx] 28 32
  have hb3 := hK1.cell 3
  have hb4 := hK1.cell 4
  simp only [List.getElem?_toArray, List.getElem?_cons_zero, List.getElem?_cons_succ] at hb3 hb4
  have HB0 : Hid (Below w.heap.size w _) := hB0
  have HK0 : Hid (Blk _ w.heap.size _ _) := hK0
  have HK1 : Hid (Blk _ (w.heap.size + 1) _ _) := hK1
  clear hB0 hK0 hK1
  cases bk
  · have HQ : Hid (Q = (!X1 && !IL)) := E2 rfl
    clear E1 E2 H2
    go_enter Tryz.func65, Tryz.ntmps65
    go_wp2_with fail
    refine (H1.out _ HB0.out).mono ?_
    rintro e w1 ⟨rfl, hb1⟩
    have HB1 : Hid (Below w.heap.size w w1) := HB0.out.trans (hb1.mono HB0.out.size)
    have hk0 := HK0.out.below hb1
    have hk1 := HK1.out.below hb1
    clear hb1 HB0 HK0 HK1 hb3 hb4
    have kc0 := hk0.cell 0
    have kc1 := hk0.cell 1
    have kc2 := hk0.cell 2
    have kc3 := hk0.cell 3
    have kc4 := hk0.cell 4
    simp only [List.getElem?_toArray, List.getElem?_cons_zero, List.getElem?_cons_succ] at kc0 kc1 kc2 kc3 kc4
    have kl0 := hk1.cell 0
    have kl1 := hk1.cell 1
    have kl2 := hk1.cell 2
    have kl3 := hk1.cell 3
    have kl4 := hk1.cell 4
    have kl5 := hk1.cell 5
    simp only [List.getElem?_toArray, List.getElem?_cons_zero, List.getElem?_cons_succ] at kl0 kl1 kl2 kl3 kl4 kl5
    clear hk0 hk1
    cases X1
    · go_wp2_with fail
      refine (H3.out _ HB1.out).mono ?_
      rintro e w2 ⟨rfl, hb2⟩
      have HB2 : Hid (Below w.heap.size w w2) := HB1.out.trans (hb2.mono HB1.out.size)
      clear hb2 HB1 kc0 kc1 kc2 kc3 kc4 kl0 kl1 kl2 kl3 kl4 kl5
      go_wp2
      go_ret
      exact ⟨by rw [HQ.out]; rfl, HB2.out⟩
    · go_wp2
      go_ret
      exact ⟨by rw [HQ.out]; rfl, HB1.out⟩
  · have HQ : Hid (Q = !X2) := E1 rfl
    clear E1 E2 H1
    go_enter Tryz.func65, Tryz.ntmps65
    go_wp2_with fail
    refine (H2.out _ HB0.out).mono ?_
    rintro e w1 ⟨rfl, hb1⟩
    have HB1 : Hid (Below w.heap.size w w1) := HB0.out.trans (hb1.mono HB0.out.size)
    have hk1 := HK1.out.below hb1
    have kl3 := hk1.cell 3
    simp only [List.getElem?_toArray, List.getElem?_cons_zero, List.getElem?_cons_succ] at kl3
    clear hb1 HB0 HK0 HK1 hb3 hb4 hk1
    cases X2
    · go_wp2
      go_ret
      exact ⟨by rw [HQ.out]; rfl, HB1.out⟩
    · go_wp2
      go_ret
      exact ⟨by rw [HQ.out]; rfl, HB1.out⟩
set_option maxHeartbeats 4000000 in
set_option maxRecDepth 100000 in
theorem ldOver_any (cf : Ld.Config) (A B D : Value) (ld : Ld.Leader) (Y Z : Value) (w : World) (hC : CfAt w cf A B D) (hL : LdAt w ld Y Z) :
    Calls Tryz.prog 25 #[cfV cf A B D, leV ld Y Z] w fun e w' => e = .returned (.tuple #[.bool (Ld.overL cf ld).1, .int .i64 (Ld.overL cf ld).2]) ∧ Below w.heap.size w w' := by
  have HCK := fun w' (hb : Below w.heap.size w w') => ldCheck_any cf A B D ld Y Z w' (hC.below hb) (hL.below hb)
  have HOV := fun w' (hb : Below w.heap.size w w') hc => isOver_any cf A B D ld Y Z w' (hC.below hb) (hL.below hb) hc
  have F1 : Hid (¬ Ld.chkLeader cf ld = 0 → Ld.overL cf ld = (false, Ld.chkLeader cf ld)) := fun h => by unfold Ld.overL; rw [if_neg h]
  have F2 : Hid (Ld.chkLeader cf ld = 0 → ld.goal = 0 → Ld.overL cf ld = (false, 7)) := fun h h' => by unfold Ld.overL; rw [if_pos h, if_pos h']
  have F3 : Hid (Ld.chkLeader cf ld = 0 → ¬ ld.goal = 0 → Ld.overL cf ld = (Ld.isOver cf ld, 0)) := fun h h' => by unfold Ld.overL; rw [if_pos h, if_neg h']
  obtain ⟨f, L, R, W, d⟩ := cf
  obtain ⟨a1, c1, rfl⟩ := pins_slice hC.1
  obtain ⟨a2, c2, rfl⟩ := rules_slice hC.2.1
  obtain ⟨a3, c3, rfl⟩ := waves_slice hC.2.2
  obtain ⟨rs, nw, g, bk, ks, nx⟩ := ld
  obtain ⟨a4, c4, rfl⟩ := relA_slice hL.1
  obtain ⟨a5, c5, rfl⟩ := knows_slice hL.2
  clear hC hL
  unfold cfV cfC leV leC at HCK HOV ⊢
  simp only at HCK HOV F2 F3 ⊢
  have H1 : Hid (∀ w', Below w.heap.size w w' → _) := HCK
  have H2 : Hid (∀ w', Below w.heap.size w w' → _) := HOV
  clear HCK HOV
  generalize Ld.overL ⟨f, L, R, W, d⟩ ⟨rs, nw, g, bk, ks, nx⟩ = Q at F1 F2 F3 ⊢
  generalize Ld.isOver ⟨f, L, R, W, d⟩ ⟨rs, nw, g, bk, ks, nx⟩ = OV at F3 H2
  generalize Ld.chkLeader ⟨f, L, R, W, d⟩ ⟨rs, nw, g, bk, ks, nx⟩ = CK at F1 F2 F3 H1 H2
  generalize rs.length = n4 at *
  generalize ks.length = n5 at *
  generalize L.length = n1 at *
  generalize R.length = n2 at *
  generalize W.length = n3 at *
  obtain ⟨hB0, hK0, hK1⟩ := box2 w #[.int .i64 f, .slice a1 n1 c1, .slice a2 n2 c2, .slice a3 n3 c3, .int .i64 d] #[.slice a4 n4 c4, .int .i64 nw, .int .i64 g, .bool bk, .slice a5 n5 c5, .int .i64 nx] 28 32
  have HB0 : Hid (Below w.heap.size w _) := hB0
  have HK0 : Hid (Blk _ w.heap.size _ _) := hK0
  have HK1 : Hid (Blk _ (w.heap.size + 1) _ _) := hK1
  have kc0 := hK0.cell 0
  have kc1 := hK0.cell 1
  have kc2 := hK0.cell 2
  have kc3 := hK0.cell 3
  have kc4 := hK0.cell 4
  simp only [List.getElem?_toArray, List.getElem?_cons_zero, List.getElem?_cons_succ] at kc0 kc1 kc2 kc3 kc4
  have kl0 := hK1.cell 0
  have kl1 := hK1.cell 1
  have kl2 := hK1.cell 2
  have kl3 := hK1.cell 3
  have kl4 := hK1.cell 4
  have kl5 := hK1.cell 5
  simp only [List.getElem?_toArray, List.getElem?_cons_zero, List.getElem?_cons_succ] at kl0 kl1 kl2 kl3 kl4 kl5
  clear hB0 hK0 hK1
  go_enter Tryz.func25, Tryz.ntmps25
  go_wp2_with fail
  refine (H1.out _ HB0.out).mono ?_
  rintro e w1 ⟨rfl, hb1⟩
  have HB1 : Hid (Below w.heap.size w w1) := HB0.out.trans (hb1.mono HB0.out.size)
  have hk0 := HK0.out.below hb1
  have hk1 := HK1.out.below hb1
  clear hb1 HB0 HK0 HK1 H1 kc0 kc1 kc2 kc3 kc4 kl0 kl1 kl2 kl3 kl4 kl5
  have kc0 := hk0.cell 0
  have kc1 := hk0.cell 1
  have kc2 := hk0.cell 2
  have kc3 := hk0.cell 3
  have kc4 := hk0.cell 4
  simp only [List.getElem?_toArray, List.getElem?_cons_zero, List.getElem?_cons_succ] at kc0 kc1 kc2 kc3 kc4
  have kl0 := hk1.cell 0
  have kl1 := hk1.cell 1
  have kl2 := hk1.cell 2
  have kl3 := hk1.cell 3
  have kl4 := hk1.cell 4
  have kl5 := hk1.cell 5
  simp only [List.getElem?_toArray, List.getElem?_cons_zero, List.getElem?_cons_succ] at kl0 kl1 kl2 kl3 kl4 kl5
  clear hk0 hk1
  by_cases h0 : CK = 0
  rotate_left
  · have HQ : Hid (Q = (false, CK)) := F1.out h0
    have h0' : (CK != 0) = true := by rw [bne_iff_ne]; exact h0
    clear F1 F2 F3 h0 H2
    go_wp2
    go_ret2
    exact ⟨by rw [HQ.out]; rfl, HB1.out⟩
  by_cases hg : g = 0
  · have HQ : Hid (Q = (false, 7)) := F2.out h0 hg
    subst h0 hg
    clear F1 F2 F3 H2
    go_wp2
    go_ret2
    exact ⟨by rw [HQ.out]; rfl, HB1.out⟩
  have HQ : Hid (Q = (OV, 0)) := F3.out h0 hg
  have hg' : (g == 0) = false := by simpa using hg
  have H3 := H2.out _ HB1.out h0
  subst h0
  clear F1 F2 F3 H2 hg
  go_wp2_with fail
  refine H3.mono ?_
  rintro e w2 ⟨rfl, hb2⟩
  have HB2 : Hid (Below w.heap.size w w2) := HB1.out.trans (hb2.mono HB1.out.size)
  clear hb2 H3 HB1 kc0 kc1 kc2 kc3 kc4 kl0 kl1 kl2 kl3 kl4 kl5
  go_wp2
  go_ret2
  exact ⟨by rw [HQ.out]; rfl, HB2.out⟩
end Go.Proofs.YtmlhipdfjnamiaaGreat
