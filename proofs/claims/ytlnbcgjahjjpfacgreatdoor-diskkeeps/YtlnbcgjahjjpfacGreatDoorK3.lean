/- The walk of vanguardlaw.DiskKeeps. -/
import Derived.Test.YtlnbcgjahjjpfacGreatDoorK2
import Derived.Test.YtlnbcgjahjjpfacGreatDoorN8
namespace Go.Proofs.YtlnbcgjahjjpfacGreatDoor
open Go.RowKit
set_option maxHeartbeats 1000000 in
theorem at_any (n : Int) (m : Nat) (hm : 0 < m) (hm2 : m ≤ 1000000) (w : World) :
    Calls Tryz.prog 20 #[.int .i64 n, .int .i64 (m : Int)] w fun e w' => (∃ k : Nat, k < m ∧ e = .returned (.int .i64 (k : Int))) ∧ w' = w := by
  have h0 : ((m : Int) == 0) = false := by rw [beq_eq_false_iff_ne]; omega
  have hb1 : -(m : Int) < n.tmod m := by have := Int.lt_tmod_of_pos n (b := (m : Int)) (by omega); omega
  have hb2 : n.tmod (m : Int) < m := Int.tmod_lt_of_pos n (by omega)
  by_cases h : n.tmod (m : Int) < 0
  · go_enter Tryz.func20, Tryz.ntmps20
    go_wp2
    go_ret
    exact ⟨⟨(n.tmod m + m).toNat, by omega, by show Ending.returned (Value.int .i64 (n.tmod m + m)) = _; rw [Int.toNat_of_nonneg (by omega)]⟩, rfl⟩
  · have h' : 0 ≤ n.tmod (m : Int) := by omega
    go_enter Tryz.func20, Tryz.ntmps20
    go_wp2
    go_ret
    exact ⟨⟨(n.tmod m).toNat, by omega, by show Ending.returned (Value.int .i64 (n.tmod m)) = _; rw [Int.toNat_of_nonneg (by omega)]⟩, rfl⟩
theorem recsame2 (w : World) (va vb : Value) (ps qs : List (Lk.Note × Value)) (h1 : RecsAt w va ps) (h2 : RecsAt w vb qs) (he : ps.map Prod.fst = qs.map Prod.fst) :
    Calls Tryz.prog 17 #[va, vb, .func (.func 22) #[] #[]] w fun e w' => e = .returned (.bool true) ∧ Below w.heap.size w w' := by
  have := equalF_any 22 (fun _ _ => by simp [go_sem]) Lk.sameNote (fun r q v u w h h' => same_any r q v u w h h') va vb ps qs w h1 h2
  rwa [he, all2_self Lk.sameNote Lk.sameNote_self] at this
theorem recs_of {w w0 : World} {N : Nat} {v : Value} {ps : List (Lk.Note × Value)} (hO : w.ownsRow N 29 7 v ps.length (flatR ps)) (hp : ∀ x ∈ ps, PinsAt w0 x.2 x.1.lock) (hb : Below w0.heap.size w0 w) (hl : ps.length ≤ 1000) : RecsAt w v ps :=
  recs_owns rfl (by omega) hO (fun q hq => (hp q hq).below hb)
set_option maxHeartbeats 32000000 in
set_option maxRecDepth 100000 in
theorem diskKeeps_any (v1 v2 : Value) (ps1 ps2 : List (Lk.Note × Value)) (n : Int) (w : World) (hE : Env w) (h1 : RecsAt w v1 ps1) (h2 : RecsAt w v2 ps2) :
    Calls Tryz.prog 4 #[v1, v2, .int .i64 n] w fun e w' => e = .returned (.bool true) ∧ Below w.heap.size w w' := by
  obtain ⟨A, hAo, hAl, hAp, hAs⟩ := Lk.putFrom_texts (a := []) ok0 (by simp) ((ps1.take 20).map Prod.fst) [] [] ok0 (by simp [Lk.texts])
  simp only [List.nil_append] at hAp hAs
  have hA20 : A.length ≤ 20 := by rw [List.length_map, List.length_take] at hAl; omega
  have hS1 := Lk.sync_all hAo (by omega) (by simp [Lk.texts] at hAs ⊢; omega)
  obtain ⟨B, hBo, hBl, hBp, hBs⟩ := Lk.putFrom_texts hAo (by omega) ((ps2.take 20).map Prod.fst) [] [] ok0 (by simp [Lk.texts] at hAs ⊢; omega)
  simp only [List.nil_append] at hBp hBs
  have hB20 : B.length ≤ 20 := by rw [List.length_map, List.length_take] at hBl; omega
  have hCk : ∀ k : Nat, k ≤ (Lk.texts B).length → Lk.crashP ⟨Lk.texts A, Lk.texts B⟩ (k : Int) = (⟨Lk.texts A, (Lk.texts B).take k⟩, 0) := fun k hk => crash_ok (d := ⟨Lk.texts A, Lk.texts B⟩) (Lk.chk_texts hAo (by omega) hBs) hk
  have hRk : ∀ k : Nat, ∃ TR LR : _, LR.length ≤ A.length + B.length ∧ A.length ≤ LR.length ∧ (A ++ B).take LR.length = LR ∧ Lk.recovP ⟨Lk.texts A, (Lk.texts B).take k⟩ = (⟨TR, []⟩, LR, 0) ∧ Lk.recovP ⟨TR, []⟩ = (⟨TR, []⟩, LR, 0) := fun k => by
    obtain ⟨j, j1, j2, j3⟩ := Lk.recov_all hAo hBo (by omega) hBs k
    have hl : (A ++ B.take j).length = A.length + j := by rw [List.length_append, List.length_take]; omega
    exact ⟨_, _, by omega, by omega, by rw [hl]; exact Lk.take_two A B j, j2, j3⟩
  have e0 : Lk.texts [] = [] := rfl
  rw [e0] at hAp hS1 hBp
  have hTB : (Lk.texts B).length ≤ 60000 := by omega
  clear hAo hBo hAl hBl hAs hBs e0
  generalize Lk.texts A = TA at hAp hS1 hBp hCk hRk
  generalize Lk.texts B = TB at hBp hCk hRk hTB
  obtain ⟨p1, c1, rfl⟩ := recs_slice h1
  obtain ⟨p2, c2, rfl⟩ := recs_slice h2
  have HE : Hid (Env w) := hE
  have HFi : Hid (Calls Tryz.prog 10 #[] w fun e w' => e = .returned (.bool true) ∧ Below w.heap.size w w') := filed_any w hE
  have HP1 : Hid (∀ W g, Below w.heap.size w W → w.heap.size ≤ g → DskAt W g [] [] → Calls Tryz.prog 19 #[.slice p1 ps1.length c1, .pointer (some ⟨g, 0, none⟩)] W fun e W' => putR W w g (⟨[], TA⟩, A) W' e) := fun W g hb hg hd => by
    rw [← hAp]; exact putC_any g _ ps1 ⟨[], []⟩ w W hE hb hg h1 hd
  have HP2 : Hid (∀ W g, Below w.heap.size w W → w.heap.size ≤ g → DskAt W g TA [] → Calls Tryz.prog 19 #[.slice p2 ps2.length c2, .pointer (some ⟨g, 0, none⟩)] W fun e W' => putR W w g (⟨TA, TB⟩, B) W' e) := fun W g hb hg hd => by
    rw [← hBp]; exact putC_any g _ ps2 ⟨TA, []⟩ w W hE hb hg h2 hd
  have HSy : Hid (∀ w' va vb, Below w.heap.size w w' → BytesAt w' va [] → BytesAt w' vb TA → Calls Tryz.prog 6 #[.agg #[va, vb]] w' fun e w'' => diskN w'.heap.size w'' (⟨TA, []⟩, 0) e ∧ Below w'.heap.size w' w'') := fun w' va vb hb ha hc => by
    have := sync_any va vb [] TA w' (hE.below hb) ha hc
    rwa [hS1] at this
  have HCr : Hid (∀ k : Nat, k ≤ TB.length → ∀ w' va vb, Below w.heap.size w w' → BytesAt w' va TA → BytesAt w' vb TB → Calls Tryz.prog 7 #[.agg #[va, vb], .int .i64 (k : Int)] w' fun e w'' => (∃ ua ub T, e = .returned (.tuple #[.agg #[ua, ub], .int .i64 0]) ∧ NewBytes w'.heap.size w'' ua TA ∧ NewBytes w'.heap.size w'' ub T ∧ T = TB.take k) ∧ Below w'.heap.size w' w'') := fun k hk w' va vb hb ha hc => by
    refine (crash_any va vb TA TB (k : Int) w' (hE.below hb) ha hc).mono ?_
    rw [hCk k hk]
    rintro e w'' ⟨⟨ua, ub, he, g1, g2⟩, hb'⟩
    exact ⟨⟨ua, ub, _, he, g1, g2, rfl⟩, hb'⟩
  have HRc : Hid (∀ (X Y : List UInt8) Q, Lk.recovP ⟨X, Y⟩ = Q → ∀ w' va vb, Below w.heap.size w w' → BytesAt w' va X → BytesAt w' vb Y → Calls Tryz.prog 8 #[.agg #[va, vb]] w' fun e w'' => recovN w'.heap.size w'' Q e ∧ Below w'.heap.size w' w'') := fun X Y Q hq w' va vb hb ha hc => by
    rw [← hq]; exact recover_any va vb X Y w' (hE.below hb) ha hc
  have HAt : Hid (∀ w', Calls Tryz.prog 20 #[.int .i64 n, .int .i64 (IntKind.i64.wrap ((TB.length : Int) + 1))] w' fun e w'' => (∃ k : Nat, k ≤ TB.length ∧ e = .returned (.int .i64 (k : Int))) ∧ w'' = w') := fun w' => by
    have := at_any n (TB.length + 1) (by omega) (by omega) w'
    rw [show (((TB.length + 1 : Nat)) : Int) = IntKind.i64.wrap ((TB.length : Int) + 1) from by rw [IntKind.wrap_i64]; omega] at this
    refine this.mono ?_
    rintro e w'' ⟨⟨k, hk, he⟩, hw⟩
    exact ⟨⟨k, by omega, he⟩, hw⟩
  have HRk : Hid (∀ k : Nat, ∃ TR LR : _, LR.length ≤ A.length + B.length ∧ A.length ≤ LR.length ∧ (A ++ B).take LR.length = LR ∧ Lk.recovP ⟨TA, TB.take k⟩ = (⟨TR, []⟩, LR, 0) ∧ Lk.recovP ⟨TR, []⟩ = (⟨TR, []⟩, LR, 0)) := hRk
  clear hE h1 h2 hAp hBp hS1 hCk hRk
  go_enter Tryz.func4, Tryz.ntmps4
  go_wp2_with fail
  refine HFi.out.mono ?_
  rintro e w1 ⟨rfl, hb1⟩
  have HB1 : Hid (Below w.heap.size w (w1.alloc (.cells #[.slice none 0 0, .slice none 0 0] 24))) := hb1.alloc hb1.size _
  have HD1 : Hid (DskAt (w1.alloc (.cells #[.slice none 0 0, .slice none 0 0] 24)) w1.heap.size [] []) := dsk_new (bytes_none _) (bytes_none _)
  have hgw : w.heap.size ≤ w1.heap.size := hb1.size
  have hgs : (w1.alloc (.cells #[.slice none 0 0, .slice none 0 0] 24)).heap.size = w1.heap.size + 1 := by simp
  clear hb1 HFi
  go_wp2_with fail
  refine (HP1.out _ _ HB1.out hgw HD1.out).mono ?_
  rintro e w2 ⟨va, qa, rfl, hOa, hMa, hPa, hLa, hD2, hG2⟩
  rw [hgs] at hOa
  have HB2 : Hid (Below w.heap.size w w2) := kbelow_grown HB1.out hG2 hgw
  have HOa : Hid (w2.ownsRow (w1.heap.size + 1) 29 7 va qa.length (flatR qa)) := hOa
  have HMa : Hid (qa.map Prod.fst = A) := hMa
  have HPa : Hid (∀ x ∈ qa, PinsAt w x.2 x.1.lock) := hPa
  obtain ⟨ra, rc, rfl⟩ := slice_of_owns hOa
  have HD2 : Hid (DskAt w2 w1.heap.size [] TA) := hD2
  clear hOa hMa hPa hD2 hG2 hgs HB1 HD1 HP1
  generalize w1.heap.size = g at hgw HOa HD2 ⊢
  -- Sync
  obtain ⟨xa, xb, hk, hX, hY⟩ := HD2.out
  obtain ⟨da, dc, rfl⟩ := bytes_slice hX
  obtain ⟨da', dc', rfl⟩ := bytes_slice hY
  have HK2 : Hid (Blk w2 g #[.slice da ([] : List UInt8).length dc, .slice da' TA.length dc'] 24) := hk
  have k0 := hk.cell 0
  have k1 := hk.cell 1
  simp only [List.getElem?_toArray, List.getElem?_cons_zero, List.getElem?_cons_succ] at k0 k1
  have HC : Hid (Calls Tryz.prog 6 #[.agg #[.slice da ([] : List UInt8).length dc, .slice da' TA.length dc']] w2 fun e w'' => diskN w2.heap.size w'' (⟨TA, []⟩, 0) e ∧ Below w2.heap.size w2 w'') := HSy.out _ _ _ HB2.out hX hY
  clear hk hX hY HD2 HSy
  go_wp2_with fail
  clear k0 k1
  refine HC.out.mono ?_
  rintro e w3 ⟨⟨ua, ub, rfl, hua, hub⟩, hb3⟩
  simp only at hua hub ⊢
  obtain ⟨ea, ec, rfl⟩ := bytes_slice hua.1
  obtain ⟨ea', ec', rfl⟩ := bytes_slice hub.1
  have hgl : g < w2.heap.size := HK2.out.lt
  have hk := HK2.out.below hb3
  have k0 := hk.cell 0
  have k1 := hk.cell 1
  have f0 := hk.free 0
  have f1 := hk.free 1
  simp only [List.getElem?_toArray, List.getElem?_cons_zero, List.getElem?_cons_succ] at k0 k1
  have HBc : Hid (Below w.heap.size w w3) := HB2.out.trans (hb3.mono HB2.out.size)
  have HB3 : Hid (Below w.heap.size w ((w3.setCell ⟨g, 0, none⟩ (.slice ea TA.length ec)).setCell ⟨g, 1, none⟩ (.slice ea' ([] : List UInt8).length ec'))) := (HBc.out.setCell (p := ⟨g, 0, none⟩) hgw _).setCell (p := ⟨g, 1, none⟩) hgw _
  have HD3 : Hid (DskAt ((w3.setCell ⟨g, 0, none⟩ (.slice ea TA.length ec)).setCell ⟨g, 1, none⟩ (.slice ea' ([] : List UInt8).length ec')) g TA []) := ⟨_, _, Blk.put2 hk, ((hua.set _ hgl).set _ hgl).1, ((hub.set _ hgl).set _ hgl).1⟩
  have HOa3 : Hid (((w3.setCell ⟨g, 0, none⟩ (.slice ea TA.length ec)).setCell ⟨g, 1, none⟩ (.slice ea' ([] : List UInt8).length ec')).ownsRow (g + 1) 29 7 (.slice ra qa.length rc) qa.length (flatR qa)) := ownsRow_setCell_below (ownsRow_setCell_below (owns_below HOa.out hb3) (a := ⟨g, 0, none⟩) (by show g < g + 1; omega) _) (a := ⟨g, 1, none⟩) (by show g < g + 1; omega) _
  clear hua hub hb3 hk HC HK2 HBc HOa HB2 hgl
  generalize ([] : List UInt8).length = n0 at HB3 HD3 HOa3 k0 k1 ⊢
  go_upto_region 9 with fail
  clear k0 k1 f0 f1
  generalize (w3.setCell ⟨g, 0, none⟩ (.slice ea TA.length ec)).setCell ⟨g, 1, none⟩ (.slice ea' n0 ec') = W3 at HB3 HD3 HOa3 ⊢
  -- put again
  go_wp2_with fail
  refine (HP2.out _ _ HB3.out hgw HD3.out).mono ?_
  rintro e w4 ⟨vb, qb, rfl, hOb, hMb, hPb, hLb, hD4, hG4⟩
  have hgW3 : g < W3.heap.size := by obtain ⟨_, _, h, _⟩ := HD3.out; exact h.lt
  have HB4 : Hid (Below w.heap.size w w4) := kbelow_grown HB3.out hG4 hgw
  have HOa4 : Hid (w4.ownsRow (g + 1) 29 7 (.slice ra qa.length rc) qa.length (flatR qa)) := HOa3.out.kept hG4 (.inr (fun e => by have := (HOa3.out.lt g e).1; omega))
  have HOb4 : Hid (w4.ownsRow (g + 1) 29 7 vb qb.length (flatR qb)) := owns_less hOb (by omega)
  have HMb : Hid (qb.map Prod.fst = B) := hMb
  have HPb : Hid (∀ x ∈ qb, PinsAt w x.2 x.1.lock) := hPb
  obtain ⟨rb, rd, rfl⟩ := slice_of_owns hOb
  obtain ⟨xa, xb, hk, hX, hY⟩ := hD4
  obtain ⟨fa, fc, rfl⟩ := bytes_slice hX
  obtain ⟨fa', fc', rfl⟩ := bytes_slice hY
  have HK4 : Hid (Blk w4 g #[.slice fa TA.length fc, .slice fa' TB.length fc'] 24) := hk
  have HX4 : Hid (BytesAt w4 (.slice fa TA.length fc) TA) := hX
  have HY4 : Hid (BytesAt w4 (.slice fa' TB.length fc') TB) := hY
  have k0 := hk.cell 0
  have k1 := hk.cell 1
  have f0 := hk.free 0
  have f1 := hk.free 1
  simp only [List.getElem?_toArray, List.getElem?_cons_zero, List.getElem?_cons_succ] at k0 k1
  clear hOb hMb hPb hG4 hk hX hY HB3 HD3 HOa3 HP2
  have hbd : Below w4.heap.size w4 w4.drew := (Below.refl _ _).drew
  have HCr' : Hid (∀ k : Nat, k ≤ TB.length → Calls Tryz.prog 7 #[.agg #[.slice fa TA.length fc, .slice fa' TB.length fc'], .int .i64 (k : Int)] w4.drew fun e w'' => (∃ ua ub T, e = .returned (.tuple #[.agg #[ua, ub], .int .i64 0]) ∧ NewBytes w4.heap.size w'' ua TA ∧ NewBytes w4.heap.size w'' ub T ∧ T = TB.take k) ∧ Below w4.heap.size w4 w'') := fun k hk => by
    refine (HCr.out k hk w4.drew _ _ (HB4.out.trans (hbd.mono HB4.out.size)) (HX4.out.below hbd) (HY4.out.below hbd)).mono ?_
    rintro e w'' ⟨h, hb⟩
    exact ⟨h, hbd.trans (hb.mono hbd.size)⟩
  have HKN : Hid (∀ y, Below w4.heap.size w4 y → y.cell? ⟨g, 0, none⟩ = some (.slice fa TA.length fc) ∧ y.cell? ⟨g, 1, none⟩ = some (.slice fa' TB.length fc') ∧ y.frozen? ⟨g, 0, none⟩ = false ∧ y.frozen? ⟨g, 1, none⟩ = false) := fun y hb => ⟨(HK4.out.below hb).cell 0, (HK4.out.below hb).cell 1, (HK4.out.below hb).free 0, (HK4.out.below hb).free 1⟩
  clear HCr hbd
  go_upto_region 10 with fail
  go_cut [10] from 32 to 42 (fun s10 wx => s10 = .int .i64 0 ∧ ∃ (k : Nat) (T : List UInt8), T = TB.take k ∧ Hid (DskAt wx g TA T) ∧ Hid (Below w.heap.size w wx) ∧ Hid (wx.ownsRow (g + 1) 29 7 (.slice ra qa.length rc) qa.length (flatR qa)) ∧ Hid (wx.ownsRow (g + 1) 29 7 (.slice rb qb.length rd) qb.length (flatR qb)))
  case first =>
    go_region_with (first
      | (go_at_call 20; refine (HAt.out _).mono ?_; rintro e yA ⟨⟨kk, hkk, rfl⟩, hyA⟩; replace hyA := hyA.symm; subst hyA)
      | (go_at_call 7; refine (HCr'.out kk hkk).mono ?_; rintro e yB ⟨⟨ua, ub, T, rfl, hua, hub, hT⟩, hbB⟩; have HTT : Hid (T = TB.take kk) := hT; clear hT; obtain ⟨ea, ec, rfl⟩ := bytes_slice hua.1; obtain ⟨ea', ec', rfl⟩ := bytes_slice hub.1; obtain ⟨k0, k1, f0, f1⟩ := HKN.out yB hbB))
    all_goals
      have HBy : Hid (Below w.heap.size w ((yB.setCell ⟨g, 0, none⟩ (.slice ea TA.length ec)).setCell ⟨g, 1, none⟩ (.slice ea' T.length ec'))) := ((HB4.out.trans (hbB.mono HB4.out.size)).setCell (p := ⟨g, 0, none⟩) hgw _).setCell (p := ⟨g, 1, none⟩) hgw _
      have hgl : g < w4.heap.size := HK4.out.lt
      have HDy : Hid (DskAt ((yB.setCell ⟨g, 0, none⟩ (.slice ea TA.length ec)).setCell ⟨g, 1, none⟩ (.slice ea' T.length ec')) g TA T) := ⟨_, _, Blk.put2 (HK4.out.below hbB), ((hua.set _ hgl).set _ hgl).1, ((hub.set _ hgl).set _ hgl).1⟩
      have HOay : Hid (((yB.setCell ⟨g, 0, none⟩ (.slice ea TA.length ec)).setCell ⟨g, 1, none⟩ (.slice ea' T.length ec')).ownsRow (g + 1) 29 7 (.slice ra qa.length rc) qa.length (flatR qa)) := ownsRow_setCell_below (ownsRow_setCell_below (owns_below HOa4.out hbB) (a := ⟨g, 0, none⟩) (by show g < g + 1; omega) _) (a := ⟨g, 1, none⟩) (by show g < g + 1; omega) _
      have HOby : Hid (((yB.setCell ⟨g, 0, none⟩ (.slice ea TA.length ec)).setCell ⟨g, 1, none⟩ (.slice ea' T.length ec')).ownsRow (g + 1) 29 7 (.slice rb qb.length rd) qb.length (flatR qb)) := ownsRow_setCell_below (ownsRow_setCell_below (owns_below HOb4.out hbB) (a := ⟨g, 0, none⟩) (by show g < g + 1; omega) _) (a := ⟨g, 1, none⟩) (by show g < g + 1; omega) _
      clear hua hub
      go_wp2_with fail
      go_meet
      exact ⟨rfl, kk, T, HTT.out, HDy, HBy, HOay, HOby⟩
  case rest =>
    obtain ⟨rfl, kk, T, hT, HD5, HB5, HOa5, HOb5⟩ := hcut
    obtain ⟨TR, LR, hl1, hl2, hl3, hr1, hr2⟩ := HRk.out kk
    rw [← hT] at hr1
    have HLR : Hid ((A ++ B).take LR.length = LR) := hl3
    have HR1 := HRc.out _ _ _ hr1
    have HR2 := HRc.out _ _ _ hr2
    have HR1' : Hid (∀ w' va vb, Below w.heap.size w w' → BytesAt w' va TA → BytesAt w' vb T → Calls Tryz.prog 8 #[.agg #[va, vb]] w' fun e w'' => recovN w'.heap.size w'' (⟨TR, []⟩, LR, 0) e ∧ Below w'.heap.size w' w'') := HR1
    have HR2' : Hid (∀ w' va vb, Below w.heap.size w w' → BytesAt w' va TR → BytesAt w' vb [] → Calls Tryz.prog 8 #[.agg #[va, vb]] w' fun e w'' => recovN w'.heap.size w'' (⟨TR, []⟩, LR, 0) e ∧ Below w'.heap.size w' w'') := HR2
    clear hT hl3 hr1 hr2 HR1 HR2 HRk HRc HK4 HX4 HY4 HB4 HOa4 HOb4 HCr' HKN HAt k0 k1 f0 f1 hgW3
    obtain ⟨da, dc, da', dc', hX, hY, k0, k1⟩ := dsk_open HD5.out
    have HC : Hid (Calls Tryz.prog 8 #[.agg #[.slice da TA.length dc, .slice da' T.length dc']] wc fun e w'' => recovN wc.heap.size w'' (⟨TR, []⟩, LR, 0) e ∧ Below wc.heap.size wc w'') := HR1'.out _ _ _ HB5.out hX hY
    clear hX hY HR1' HD5
    go_wp2_with fail
    clear k0 k1
    refine HC.out.mono ?_
    rintro e w6 ⟨⟨va, vb, vl, ps6, rfl, hva, hvb, hO6, hL6, hm6⟩, hb6⟩
    simp only at hva hvb hm6 ⊢
    obtain ⟨a6, c6, rfl⟩ := bytes_slice hva.1
    obtain ⟨b6, d6, rfl⟩ := bytes_slice hvb.1
    have hpl6 : ps6.length = LR.length := by have := congrArg List.length hm6; rwa [List.length_map] at this
    have hqa : qa.length = A.length := by have := congrArg List.length HMa.out; rwa [List.length_map] at this
    have hqb : qb.length = B.length := by have := congrArg List.length HMb.out; rwa [List.length_map] at this
    have hR6 : RecsAt w6 vl ps6 := recs_owns rfl (by omega) hO6 (fun q hq => (hL6 q hq).1)
    obtain ⟨rl, rlc, rfl⟩ := recs_slice hR6
    have hbA : Below w6.heap.size w6 (w6.alloc (.cells #[.slice a6 TR.length c6, .slice b6 ([] : List UInt8).length d6] 24)) := (Below.refl _ _).alloc (Nat.le_refl _) _
    have hbB : Below wc.heap.size wc (w6.alloc (.cells #[.slice a6 TR.length c6, .slice b6 ([] : List UInt8).length d6] 24)) := hb6.trans (hbA.mono hb6.size)
    have HB6 : Hid (Below w.heap.size w (w6.alloc (.cells #[.slice a6 TR.length c6, .slice b6 ([] : List UInt8).length d6] 24))) := HB5.out.trans (hbB.mono HB5.out.size)
    have HDr : Hid (DskAt (w6.alloc (.cells #[.slice a6 TR.length c6, .slice b6 ([] : List UInt8).length d6] 24)) w6.heap.size TR []) := dsk_new hva.1 hvb.1
    have HRl : Hid (RecsAt (w6.alloc (.cells #[.slice a6 TR.length c6, .slice b6 ([] : List UInt8).length d6] 24)) (.slice rl ps6.length rlc) ps6) := hR6.below hbA
    have HRa : Hid (RecsAt (w6.alloc (.cells #[.slice a6 TR.length c6, .slice b6 ([] : List UInt8).length d6] 24)) (.slice ra qa.length rc) qa) := recs_of (owns_below HOa5.out hbB) HPa.out HB6.out (by omega)
    have HRb : Hid (RecsAt (w6.alloc (.cells #[.slice a6 TR.length c6, .slice b6 ([] : List UInt8).length d6] 24)) (.slice rb qb.length rd) qb) := recs_of (owns_below HOb5.out hbB) HPb.out HB6.out (by omega)
    have HM6 : Hid (ps6.map Prod.fst = LR) := hm6
    have hq1 : qa.length ≤ ps6.length := by omega
    have hq2 : ps6.length ≤ qa.length + qb.length := by omega
    have hq3 : qa.length + qb.length ≤ 40 := by omega
    clear hva hvb hm6 hb6 hbA hbB hO6 hL6 hR6 HOa5 HOb5 HB5 HC hl1 hl2 hpl6 hqa hqb
    generalize ([] : List UInt8).length = n0 at HB6 HDr HRl HRa HRb ⊢
    have hq1' : (qa.length : Int) ≤ (ps6.length : Int) := by omega
    have hq2' : (ps6.length : Int) ≤ (qa.length : Int) + (qb.length : Int) := by omega
    go_upto_region 14 with fail
    generalize w6.alloc (.cells #[.slice a6 TR.length c6, .slice b6 n0 d6] 24) = W6 at HB6 HDr HRl HRa HRb ⊢
    generalize w6.heap.size = gr at HDr ⊢
    have HCc : Hid (∀ w' b, Below W6.heap.size W6 w' → w'.cell? ⟨b, 0, none⟩ = some (.slice ra qa.length rc) → w'.cell? ⟨b, 1, none⟩ = some (.slice rb qb.length rd) → Calls Tryz.prog 21 #[.slice (some ⟨b, 0, none⟩) 2 2] w' fun e w'' => (∃ x, e = .returned x ∧ RecsAt w'' x (qa ++ qb)) ∧ Below w'.heap.size w' w'') := fun w' b hb h0 h1 => concatR_any b _ _ qa qb w' h0 h1 (HRa.out.below hb) (HRb.out.below hb) (by omega)
    have hbz : Below W6.heap.size W6 (W6.alloc (.cells #[.slice ra qa.length rc, .slice rb qb.length rd] 35)) := (Below.refl _ _).alloc (Nat.le_refl _) _
    have Hbz : Hid (Below W6.heap.size W6 (W6.alloc (.cells #[.slice ra qa.length rc, .slice rb qb.length rd] 35))) := hbz
    clear hbz
    go_wp2_with fail
    refine (HCc.out _ _ Hbz.out (by simp [go_sem]) (by simp [go_sem])).mono ?_
    rintro e w7 ⟨⟨x, rfl, hx⟩, hb7⟩
    obtain ⟨xa, xc, rfl⟩ := recs_slice hx
    have hxr : (qa ++ qb).length ≤ xc := by
      obtain ⟨_, p', c', e, hc, _⟩ := hx
      simp only [Value.slice.injEq] at e
      rw [e.2.2]; exact hc
    have hb7' := Hbz.out.trans (hb7.mono Hbz.out.size)
    have HB7 : Hid (Below w.heap.size w w7) := HB6.out.trans (hb7'.mono HB6.out.size)
    have HDr7 : Hid (DskAt w7 gr TR []) := HDr.out.below hb7'
    have HRl7 : Hid (RecsAt w7 (.slice rl ps6.length rlc) ps6) := HRl.out.below hb7'
    have hxl : (qa ++ qb).length = qa.length + qb.length := List.length_append
    have HXt : Hid (RecsAt w7 (.slice xa ps6.length xc) ((qa ++ qb).take ps6.length)) := recs_take hx ps6.length (by omega)
    have HXe : Hid (ps6.map Prod.fst = ((qa ++ qb).take ps6.length).map Prod.fst) := by
      show List.map _ _ = _
      have e1 : ps6.length = LR.length := by have := congrArg List.length HM6.out; rwa [List.length_map] at this
      rw [List.map_take, List.map_append, HMa.out, HMb.out, HM6.out, e1, HLR.out]
    rw [hxl] at hxr ⊢
    have hxc : (ps6.length : Int) ≤ (xc : Int) := by omega
    have HEq : Hid (Calls Tryz.prog 17 #[.slice rl ps6.length rlc, .slice xa ps6.length xc, .func (.func 22) #[] #[]] w7 fun e w' => e = .returned (.bool true) ∧ Below w7.heap.size w7 w') := recsame2 _ _ _ _ _ HRl7.out HXt.out HXe.out
    clear hx hb7 hb7' hxl HXt HXe HCc Hbz HB6 HDr HRl HRa HRb
    go_wp2_with fail
    refine HEq.out.mono ?_
    rintro e w8 ⟨rfl, hb8⟩
    have HB8 : Hid (Below w.heap.size w w8) := HB7.out.trans (hb8.mono HB7.out.size)
    have HRl8 : Hid (RecsAt w8 (.slice rl ps6.length rlc) ps6) := HRl7.out.below hb8
    have HDr8 : Hid (DskAt w8 gr TR []) := HDr7.out.below hb8
    clear hb8 HEq HB7 HRl7 HDr7
    obtain ⟨da, dc, da', dc', hX, hY, k0, k1⟩ := dsk_open HDr8.out
    have HC : Hid (Calls Tryz.prog 8 #[.agg #[.slice da TR.length dc, .slice da' ([] : List UInt8).length dc']] w8 fun e w'' => recovN w8.heap.size w'' (⟨TR, []⟩, LR, 0) e ∧ Below w8.heap.size w8 w'') := HR2'.out _ _ _ HB8.out hX hY
    clear hX hY HR2'
    go_wp2_with fail
    clear k0 k1
    refine HC.out.mono ?_
    rintro e w9 ⟨⟨va, vb, vm, ps9, rfl, hva, hvb, hO9, hL9, hm9⟩, hb9⟩
    simp only at hva hvb hm9 ⊢
    obtain ⟨a9, c9, rfl⟩ := bytes_slice hva.1
    obtain ⟨b9, d9, rfl⟩ := bytes_slice hvb.1
    have hpl9 : ps9.length = LR.length := by have := congrArg List.length hm9; rwa [List.length_map] at this
    have hpl6 : ps6.length = LR.length := by have := congrArg List.length HM6.out; rwa [List.length_map] at this
    have hR9 : RecsAt w9 vm ps9 := recs_owns rfl (by omega) hO9 (fun q hq => (hL9 q hq).1)
    obtain ⟨rm, rmc, rfl⟩ := recs_slice hR9
    have hbA : Below w9.heap.size w9 (w9.alloc (.cells #[.slice a9 TR.length c9, .slice b9 ([] : List UInt8).length d9] 24)) := (Below.refl _ _).alloc (Nat.le_refl _) _
    have hbB : Below w8.heap.size w8 (w9.alloc (.cells #[.slice a9 TR.length c9, .slice b9 ([] : List UInt8).length d9] 24)) := hb9.trans (hbA.mono hb9.size)
    have HB9 : Hid (Below w.heap.size w (w9.alloc (.cells #[.slice a9 TR.length c9, .slice b9 ([] : List UInt8).length d9] 24))) := HB8.out.trans (hbB.mono HB8.out.size)
    have HDq : Hid (DskAt (w9.alloc (.cells #[.slice a9 TR.length c9, .slice b9 ([] : List UInt8).length d9] 24)) w9.heap.size TR []) := dsk_new hva.1 hvb.1
    have HDr9 : Hid (DskAt (w9.alloc (.cells #[.slice a9 TR.length c9, .slice b9 ([] : List UInt8).length d9] 24)) gr TR []) := HDr8.out.below hbB
    have HRm : Hid (RecsAt (w9.alloc (.cells #[.slice a9 TR.length c9, .slice b9 ([] : List UInt8).length d9] 24)) (.slice rm ps9.length rmc) ps9) := hR9.below hbA
    have HRl9 : Hid (RecsAt (w9.alloc (.cells #[.slice a9 TR.length c9, .slice b9 ([] : List UInt8).length d9] 24)) (.slice rl ps6.length rlc) ps6) := HRl8.out.below hbB
    have HME : Hid (ps9.map Prod.fst = ps6.map Prod.fst) := hm9.trans HM6.out.symm
    clear hva hvb hm9 hb9 hbA hbB hO9 hL9 hR9 HB8 HDr8 HRl8 HC hpl9 hpl6
    generalize ([] : List UInt8).length = n1 at HB9 HDq HDr9 HRm HRl9 ⊢
    go_upto_region 17 with fail
    generalize w9.alloc (.cells #[.slice a9 TR.length c9, .slice b9 n1 d9] 24) = W9 at HB9 HDq HDr9 HRm HRl9 ⊢
    generalize w9.heap.size = gq at HDq ⊢
    obtain ⟨sa, sc, sa', sc', g1, g2, k0, k1⟩ := dsk_open HDq.out
    obtain ⟨ta, tc, ta', tc', g3, g4, m0, m1⟩ := dsk_open HDr9.out
    have HST : Hid (Calls Tryz.prog 12 #[.agg #[.slice sa TR.length sc, .slice sa' ([] : List UInt8).length sc'], .agg #[.slice ta TR.length tc, .slice ta' ([] : List UInt8).length tc']] W9 fun e w' => e = .returned (.bool true) ∧ Below W9.heap.size W9 w') := by
      have := sameDisk_any _ _ _ _ TR [] TR [] W9 g1 g2 g3 g4
      rwa [sameDisk_self] at this
    clear g1 g2 g3 g4
    go_wp2_with fail
    clear k0 k1 m0 m1
    refine HST.out.mono ?_
    rintro e y1 ⟨rfl, hb⟩
    have HBy : Hid (Below w.heap.size w y1) := HB9.out.trans (hb.mono HB9.out.size)
    have HEq : Hid (Calls Tryz.prog 17 #[.slice rm ps9.length rmc, .slice rl ps6.length rlc, .func (.func 22) #[] #[]] y1 fun e w' => e = .returned (.bool true) ∧ Below y1.heap.size y1 w') := recsame2 _ _ _ _ _ (HRm.out.below hb) (HRl9.out.below hb) HME.out
    have HDz : Hid (DskAt y1 gr TR []) := HDr9.out.below hb
    clear hb HB9 HDq HDr9 HRm HRl9 HST
    go_wp2_with fail
    refine HEq.out.mono ?_
    rintro e y2 ⟨rfl, hb⟩
    have HBz : Hid (Below w.heap.size w y2) := HBy.out.trans (hb.mono HBy.out.size)
    obtain ⟨ta, tc, ta', tc', -, -, m0, m1⟩ := dsk_open (HDz.out.below hb)
    rw [show ([] : List UInt8).length = 0 from rfl] at m1
    clear hb HBy HDz HEq
    go_wp2
    go_ret
    exact ⟨rfl, HBz.out⟩
end Go.Proofs.YtlnbcgjahjjpfacGreatDoor
