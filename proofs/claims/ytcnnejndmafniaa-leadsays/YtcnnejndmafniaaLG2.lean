/- The contracts of the document's CheckConfig and SameLeader. -/
import Derived.Test.YtcnnejndmafniaaLG1
namespace Go.Proofs.Ytcnnejndmafniaa
open Go.RowKit
set_option maxHeartbeats 8000000 in
set_option maxRecDepth 100000 in
theorem sameLR_any (la lb : Ld.Leader) (Y Z Y2 Z2 : Value) (w : World) (hA : LdAt w la Y Z) (hB : LdAt w lb Y2 Z2) :
    Calls Try.prog 17 #[leV la Y Z, leV lb Y2 Z2] w fun e w' => e = .returned (.bool (Ld.sameLeader la lb)) ∧ Below w.heap.size w w' := by
  have HE : Hid (∀ w', Below w.heap.size w w' → Calls Try.prog 25 #[Y, Y2, .func (.func 20) #[] #[]] w' fun e w'' => e = .returned (.bool (Ld.sameRels la.rels lb.rels)) ∧ Below w'.heap.size w' w'') := fun w' hb => by
    obtain ⟨ps, h1, h2⟩ := hA.1.below hb
    obtain ⟨qs, h3, h4⟩ := hB.1.below hb
    have := equalFL_any 20 (fun _ _ => by simp [go_sem]) (fun x y => Lk.alike x.1 x.2 y.1 y.2) (fun r q v u w h h' => alikeR_any r.1 q.1 v u r.2 q.2 w h h') Y Y2 ps qs w' h1 h3
    rwa [all2r_rels, h2, h4] at this
  have HK : Hid (∀ w', Below w.heap.size w w' → Calls Try.prog 50 #[Z, Z2] w' fun e w'' => e = .returned (.bool (decide (la.ags = lb.ags))) ∧ Below w'.heap.size w' w'') := fun w' hb => equalK_any Z Z2 _ _ w' (hA.2.below hb) (hB.2.below hb)
  obtain ⟨rs, w1, g1, k1, ks, x1⟩ := la
  obtain ⟨rs2, w2, g2, k2, ks2, x2⟩ := lb
  obtain ⟨a4, c4, rfl⟩ := relA_slice hA.1
  obtain ⟨a5, c5, rfl⟩ := knows_slice hA.2
  obtain ⟨b4, e4, rfl⟩ := relA_slice hB.1
  obtain ⟨b5, e5, rfl⟩ := knows_slice hB.2
  have HS : Hid (Ld.sameLeader ⟨rs, w1, g1, k1, ks, x1⟩ ⟨rs2, w2, g2, k2, ks2, x2⟩ = (Ld.sameRels rs rs2 && w1 == w2 && g1 == g2 && k1 == k2 && decide (ks = ks2) && x1 == x2)) := rfl
  clear hA hB
  unfold leV leC
  simp only at HE HK HS ⊢
  generalize Ld.sameLeader ⟨rs, w1, g1, k1, ks, x1⟩ ⟨rs2, w2, g2, k2, ks2, x2⟩ = SS at HS ⊢
  generalize Ld.sameRels rs rs2 = SR at HS HE
  generalize decide (ks = ks2) = SK at HS HK
  generalize rs.length = n4 at HE ⊢
  generalize rs2.length = m4 at HE ⊢
  generalize ks.length = n5 at HK ⊢
  generalize ks2.length = m5 at HK ⊢
  obtain ⟨hB0, hK0, hK1⟩ := box2 w #[.slice a4 n4 c4, .int .i64 w1, .int .i64 g1, .bool k1, .slice a5 n5 c5, .int .i64 x1] #[.slice b4 m4 e4, .int .i64 w2, .int .i64 g2, .bool k2, .slice b5 m5 e5, .int .i64 x2] 32 32
  have p0 := hK0.cell 0
  have p1 := hK0.cell 1
  have p2 := hK0.cell 2
  have p3 := hK0.cell 3
  have p4 := hK0.cell 4
  have p5 := hK0.cell 5
  simp only [List.getElem?_toArray, List.getElem?_cons_zero, List.getElem?_cons_succ] at p0 p1 p2 p3 p4 p5
  have q0 := hK1.cell 0
  have q1 := hK1.cell 1
  have q2 := hK1.cell 2
  have q3 := hK1.cell 3
  have q4 := hK1.cell 4
  have q5 := hK1.cell 5
  simp only [List.getElem?_toArray, List.getElem?_cons_zero, List.getElem?_cons_succ] at q0 q1 q2 q3 q4 q5
  have HB0 : Hid (Below w.heap.size w _) := hB0
  have HK1 : Hid (Blk _ w.heap.size _ _) := hK0
  have HK2 : Hid (Blk _ (w.heap.size + 1) _ _) := hK1
  clear hB0 hK0 hK1
  go_enter Try.func17, Try.ntmps17
  go_wp2_with fail
  generalize ((w.alloc (.cells #[.slice a4 n4 c4, .int .i64 w1, .int .i64 g1, .bool k1, .slice a5 n5 c5, .int .i64 x1] 32)).alloc (.cells #[.slice b4 m4 e4, .int .i64 w2, .int .i64 g2, .bool k2, .slice b5 m5 e5, .int .i64 x2] 32)) = W at *
  refine (HE.out _ HB0.out).mono ?_
  rintro e y1 ⟨rfl, hb1⟩
  have HB1 : Hid (Below w.heap.size w y1) := HB0.out.trans (hb1.mono HB0.out.size)
  have hk1 := HK1.out.below hb1
  have hk2 := HK2.out.below hb1
  clear hb1 HB0 HE HK1 HK2 p0 p1 p2 p3 p4 p5 q0 q1 q2 q3 q4 q5
  have p1 := hk1.cell 1
  have p2 := hk1.cell 2
  have p3 := hk1.cell 3
  have p4 := hk1.cell 4
  have p5 := hk1.cell 5
  simp only [List.getElem?_toArray, List.getElem?_cons_zero, List.getElem?_cons_succ] at p1 p2 p3 p4 p5
  have q1 := hk2.cell 1
  have q2 := hk2.cell 2
  have q3 := hk2.cell 3
  have q4 := hk2.cell 4
  have q5 := hk2.cell 5
  simp only [List.getElem?_toArray, List.getElem?_cons_zero, List.getElem?_cons_succ] at q1 q2 q3 q4 q5
  have HK1 : Hid (Blk y1 w.heap.size _ _) := hk1
  have HK2 : Hid (Blk y1 (w.heap.size + 1) _ _) := hk2
  clear hk1 hk2
  generalize hv1 : (w1 == w2) = v1 at HS
  generalize hv2 : (g1 == g2) = v2 at HS
  generalize hv3 : (k1 == k2) = v3 at HS
  cases SR
  · have HN : Hid (SS = false) := by show _ = _; rw [HS.out]; simp
    clear HS HK HK1 HK2
    go_wp2
    go_ret
    exact ⟨by rw [HN.out]; rfl, HB1.out⟩
  cases v1
  · have HN : Hid (SS = false) := by show _ = _; rw [HS.out]; simp
    clear HS HK HK1 HK2
    go_wp2
    go_ret
    exact ⟨by rw [HN.out]; rfl, HB1.out⟩
  cases v2
  · have HN : Hid (SS = false) := by show _ = _; rw [HS.out]; simp
    clear HS HK HK1 HK2
    go_wp2
    go_ret
    exact ⟨by rw [HN.out]; rfl, HB1.out⟩
  cases v3
  · have HN : Hid (SS = false) := by show _ = _; rw [HS.out]; simp
    clear HS HK HK1 HK2
    go_wp2
    go_ret
    exact ⟨by rw [HN.out]; rfl, HB1.out⟩
  have HN : Hid (SS = (SK && (x1 == x2))) := by show _ = _; rw [HS.out]; simp
  clear HS
  go_wp2_with fail
  refine (HK.out _ HB1.out).mono ?_
  rintro e y2 ⟨rfl, hb2⟩
  have HB2 : Hid (Below w.heap.size w y2) := HB1.out.trans (hb2.mono HB1.out.size)
  have r5 := (HK1.out.below hb2).cell 5
  have s5 := (HK2.out.below hb2).cell 5
  simp only [List.getElem?_toArray, List.getElem?_cons_zero, List.getElem?_cons_succ] at r5 s5
  clear hb2 HK HB1 HK1 HK2
  cases SK
  · go_wp2
    go_ret
    exact ⟨by rw [HN.out]; rfl, HB2.out⟩
  · go_wp2
    go_ret
    exact ⟨by rw [HN.out]; simp, HB2.out⟩

theorem conf_out {x1 e k wq : Int} {f d : Int} (h : ¬ (f = 1 ∧ Lk.within d 0 3 = true)) (hx : x1 = 0) : (if x1 = 0 then (if f = 1 ∧ Lk.within d 0 3 = true then (if (if e = 0 then (if 0 ≤ k then 8 else 0) else e) = 0 then wq else (if e = 0 then (if 0 ≤ k then 8 else 0) else e)) else 3) else x1) = 3 := by rw [if_pos hx, if_neg h]
set_option maxHeartbeats 8000000 in
set_option maxRecDepth 100000 in
theorem ckConfR_any (cf : Ld.Config) (A B D : Value) (w : World) (hC : CfAt w cf A B D) :
    Calls Try.prog 9 #[cfV cf A B D] w fun e w' => e = .returned (.int .i64 (Ld.chkConfig cf)) ∧ Below w.heap.size w w' := by
  have HQ : Hid (Ld.chkConfig cf = if Lk.chkRel cf.fid cf.flock = 0 then (if cf.fid = 1 ∧ Lk.within cf.budget 0 3 = true then (if (if Rk.brokenErr cf.flock cf.rules = 0 then (if 0 ≤ Rk.broken cf.flock cf.rules then 8 else 0) else Rk.brokenErr cf.flock cf.rules) = 0 then Wv.chk cf.waves (agR cf) else (if Rk.brokenErr cf.flock cf.rules = 0 then (if 0 ≤ Rk.broken cf.flock cf.rules then 8 else 0) else Rk.brokenErr cf.flock cf.rules)) else 3) else Lk.chkRel cf.fid cf.flock) := by
    show _ = _
    unfold Ld.chkConfig Ld.ruled
    rw [agR_chk]
  have HRl : Hid (∀ w', Below w.heap.size w w' → Calls Try.prog 34 #[relV cf.fid A] w' fun e w'' => e = .returned (.int .i64 (Lk.chkRel cf.fid cf.flock)) ∧ Below w'.heap.size w' w'') := fun w' hb => releaseR_any cf.fid A cf.flock w' (hC.1.below hb)
  have HFB : Hid (∀ w', Below w.heap.size w w' → Calls Try.prog 36 #[A, B] w' fun e w'' => e = .returned (.tuple #[.int .i64 (Rk.broken cf.flock cf.rules), .int .i64 (Rk.brokenErr cf.flock cf.rules)]) ∧ Below w'.heap.size w' w'') := fun w' hb => fbroken_any A B cf.flock cf.rules w' (hC.1.below hb) (hC.2.1.below hb)
  have HAG : Hid (∀ w', Below w.heap.size w w' → Calls Try.prog 18 #[cfV cf A B D] w' fun e w'' => e = .returned (.int .i64 (agR cf)) ∧ Below w'.heap.size w' w'') := fun w' hb => agR_any cf A B D w' (hC.below hb)
  have HCW : Hid (∀ w', Below w.heap.size w w' → Calls Try.prog 37 #[D, .int .i64 (agR cf)] w' fun e w'' => e = .returned (.int .i64 (Wv.chk cf.waves (agR cf))) ∧ Below w'.heap.size w' w'') := fun w' hb => checkWR_any D cf.waves (agR cf) w' (hC.2.2.below hb)
  obtain ⟨f, L, R, W, d⟩ := cf
  obtain ⟨a1, c1, rfl⟩ := pins_slice hC.1
  obtain ⟨a2, c2, rfl⟩ := rules_slice hC.2.1
  obtain ⟨a3, c3, rfl⟩ := waves_slice hC.2.2
  unfold cfV cfC at HAG
  unfold relV at HRl
  unfold cfV cfC
  simp only at HQ HRl HFB HAG HCW ⊢
  clear hC
  generalize Ld.chkConfig ⟨f, L, R, W, d⟩ = Q at HQ ⊢
  generalize Lk.chkRel f L = X1 at HQ HRl
  generalize Rk.brokenErr L R = E at HQ HFB
  generalize Rk.broken L R = K at HQ HFB
  generalize Wv.chk W (agR ⟨f, L, R, W, d⟩) = WQ at HQ HCW
  generalize agR ⟨f, L, R, W, d⟩ = M at HAG HCW
  generalize L.length = n1 at *
  generalize R.length = n2 at *
  generalize W.length = n3 at *
  obtain ⟨hB0, hK0⟩ := box1 w #[.int .i64 f, .slice a1 n1 c1, .slice a2 n2 c2, .slice a3 n3 c3, .int .i64 d] 28
  have HB0 : Hid (Below w.heap.size w (w.alloc (.cells #[.int .i64 f, .slice a1 n1 c1, .slice a2 n2 c2, .slice a3 n3 c3, .int .i64 d] 28))) := hB0
  have HK0 : Hid (Blk (w.alloc (.cells #[.int .i64 f, .slice a1 n1 c1, .slice a2 n2 c2, .slice a3 n3 c3, .int .i64 d] 28)) w.heap.size #[.int .i64 f, .slice a1 n1 c1, .slice a2 n2 c2, .slice a3 n3 c3, .int .i64 d] 28) := hK0
  have k00 := hK0.cell 0
  have k01 := hK0.cell 1
  have k02 := hK0.cell 2
  have k03 := hK0.cell 3
  have k04 := hK0.cell 4
  simp only [List.getElem?_toArray, List.getElem?_cons_zero, List.getElem?_cons_succ] at k00 k01 k02 k03 k04
  go_enter Try.func9, Try.ntmps9
  go_wp2_with fail
  generalize (w.alloc (.cells #[.int .i64 f, .slice a1 n1 c1, .slice a2 n2 c2, .slice a3 n3 c3, .int .i64 d] 28)) = V at *
  clear hB0 hK0
  refine (HRl.out _ HB0.out).mono ?_
  rintro e w1 ⟨rfl, hb1⟩
  have HB1 : Hid (Below w.heap.size w w1) := HB0.out.trans (hb1.mono HB0.out.size)
  have HK1 : Hid (Blk w1 w.heap.size #[.int .i64 f, .slice a1 n1 c1, .slice a2 n2 c2, .slice a3 n3 c3, .int .i64 d] 28) := HK0.out.below hb1
  clear hb1 HB0 HK0 HRl k00 k01 k02 k03 k04
  have k10 := HK1.out.cell 0
  have k11 := HK1.out.cell 1
  have k12 := HK1.out.cell 2
  have k13 := HK1.out.cell 3
  have k14 := HK1.out.cell 4
  simp only [List.getElem?_toArray, List.getElem?_cons_zero, List.getElem?_cons_succ] at k10 k11 k12 k13 k14
  by_cases x1 : X1 = 0
  rotate_left
  · have HE : Hid (Q = X1) := by rw [HQ.out, if_neg x1]; rfl
    have x1' : (X1 != 0) = true := by rw [bne_iff_ne]; exact x1
    clear x1 HQ HFB HAG HCW
    go_wp2
    go_ret
    exact ⟨by rw [HE.out]; rfl, HB1.out⟩
  subst x1
  by_cases xf : f = 1
  rotate_left
  · have HE : Hid (Q = 3) := by rw [HQ.out]; exact conf_out (fun h => xf h.1) rfl
    have xf' : (f != 1) = true := by rw [bne_iff_ne]; exact xf
    clear xf HQ HFB HAG HCW
    go_wp2
    go_ret
    exact ⟨by rw [HE.out]; rfl, HB1.out⟩
  subst xf
  by_cases d0 : 0 ≤ d
  rotate_left
  · have HE : Hid (Q = 3) := by rw [HQ.out]; exact conf_out (fun h => d0 (by simpa [Lk.within] using h.2 : 0 ≤ d ∧ d ≤ 3).1) rfl
    have d0' : decide (0 ≤ d) = false := decide_eq_false d0
    clear d0 HQ HFB HAG HCW
    go_wp2_with go_in
    go_ret
    exact ⟨by rw [HE.out]; rfl, HB1.out⟩
  have d0' : decide (0 ≤ d) = true := decide_eq_true d0
  by_cases d3 : d ≤ 3
  rotate_left
  · have HE : Hid (Q = 3) := by rw [HQ.out]; exact conf_out (fun h => d3 (by simpa [Lk.within] using h.2 : 0 ≤ d ∧ d ≤ 3).2) rfl
    have d3' : decide (d ≤ 3) = false := decide_eq_false d3
    clear d0 d3 HQ HFB HAG HCW
    go_wp2_with go_in
    go_ret
    exact ⟨by rw [HE.out]; rfl, HB1.out⟩
  have d3' : decide (d ≤ 3) = true := decide_eq_true d3
  have HQ2 : Hid (Q = if (if E = 0 then (if 0 ≤ K then 8 else 0) else E) = 0 then WQ else (if E = 0 then (if 0 ≤ K then 8 else 0) else E)) := by
    rw [HQ.out, if_pos rfl, if_pos ⟨rfl, by simp [Lk.within, d0, d3]⟩]; rfl
  clear HQ d0 d3
  go_wp2_with (first | fail | (go_at_call 35; go_in))
  refine (HFB.out _ HB1.out).mono ?_
  rintro e w2 ⟨rfl, hb2⟩
  have HB2 : Hid (Below w.heap.size w w2) := HB1.out.trans (hb2.mono HB1.out.size)
  have HK2 : Hid (Blk w2 w.heap.size #[.int .i64 1, .slice a1 n1 c1, .slice a2 n2 c2, .slice a3 n3 c3, .int .i64 d] 28) := HK1.out.below hb2
  clear hb2 HB1 HK1 HFB k10 k11 k12 k13 k14
  by_cases xe : E = 0
  rotate_left
  · have HE : Hid (Q = E) := by rw [HQ2.out, if_neg xe, if_neg xe]; rfl
    have xe1 : (E == 0) = false := by simpa using xe
    have xe2 : (E != 0) = true := by rw [bne_iff_ne]; exact xe
    clear xe HQ2 HAG HCW
    go_wp2
    go_ret
    exact ⟨by rw [HE.out]; rfl, HB2.out⟩
  subst xe
  by_cases xk : 0 ≤ K
  · have HE : Hid (Q = 8) := by rw [HQ2.out, if_pos rfl, if_pos xk]; rfl
    have xk' : decide (0 ≤ K) = true := decide_eq_true xk
    clear xk HQ2 HAG HCW
    go_wp2
    go_ret
    exact ⟨by rw [HE.out]; rfl, HB2.out⟩
  have HE : Hid (Q = WQ) := by rw [HQ2.out, if_pos rfl, if_neg xk, if_pos rfl]; rfl
  have xk' : decide (0 ≤ K) = false := decide_eq_false xk
  clear xk HQ2
  go_upto_region 11 with fail
  have cl1 := fun (d' : Nat) (os : Array Obj) => Calls.regrown_of (HAG.out (Sort.grow (redrawn w2 d') os) (HB2.out.trans ((below_regrown w2 d' os).mono HB2.out.size)))
  have cl2 := fun (d' : Nat) (os : Array Obj) => Calls.regrown_of (HCW.out (Sort.grow (redrawn w2 d') os) (HB2.out.trans ((below_regrown w2 d' os).mono HB2.out.size)))
  have k20 := cell_regrown (show _ = some _ from HK2.out.cell 0)
  have k21 := cell_regrown (show _ = some _ from HK2.out.cell 1)
  have k22 := cell_regrown (show _ = some _ from HK2.out.cell 2)
  have k23 := cell_regrown (show _ = some _ from HK2.out.cell 3)
  have k24 := cell_regrown (show _ = some _ from HK2.out.cell 4)
  clear HAG HCW HK2
  refine wp_region_quiet_below (by kernel_rfl) (by kernel_rfl) ?_
  repeat (go_big_quiet_step (first | exact cl1 _ _ | exact cl2 _ _))
  refine wpQuiet_nil ?_
  intro _ hw'
  obtain ⟨⟨dq, osq⟩, hw''⟩ := hw'
  subst hw''
  have HB5 : Hid (Below w.heap.size w (Sort.grow (redrawn w2 dq) osq)) := HB2.out.trans ((below_regrown w2 dq osq).mono HB2.out.size)
  clear cl1 cl2
  go_wp2
  go_ret
  exact ⟨by rw [HE.out]; rfl, HB5.out⟩
end Go.Proofs.Ytcnnejndmafniaa
