/- The walk of the law LeadReplays. (Written by tools/gen_leadlaws.py.) -/
import Derived.Test.YtmlhipdfjnamiaaGreatLGB
import Derived.Test.YtmlhipdfjnamiaaGreatLNW
namespace Go.Proofs.YtmlhipdfjnamiaaGreat
open Go.RowKit
set_option maxHeartbeats 8000000 in
set_option maxRecDepth 100000 in
theorem lreps_any (cf : Ld.Config) (A B D : Value) (ps : List (Lk.Note × Value)) (v : Value) (w : World) (hC : CfAt w cf A B D) (hRs : RecsAt w v ps) (hwk : ∀ p ∈ ps, (Lit.int .i64 p.1.kind).wf = true) :
    Calls Tryz.prog 4 #[cfV cf A B D, v] w fun e w' => e = .returned (.bool true) ∧ Below w.heap.size w w' := by
  obtain ⟨pa, pc, rfl⟩ := recs_slice hRs
  have HR1 : Hid (∀ w', Below w.heap.size w w' → Calls Tryz.prog 9 #[cfV cf A B D, .slice pa ps.length pc] w' fun e w'' => leL w'' (Ld.replayL cf (ps.map Prod.fst)) e ∧ Below w'.heap.size w' w'') := fun w' hb => (ldReplay_any cf A B D ps _ w' (hC.below hb) (hRs.below hb)).mono (fun e w'' h => ⟨leL_n h.1, h.2⟩)
  have HR2 : Hid (∀ w', Below w.heap.size w w' → Calls Tryz.prog 10 #[cfV cf A B D, .slice pa ps.length pc] w' fun e w'' => leL w'' (Ld.replayL cf (ps.map Prod.fst)) e ∧ Below w'.heap.size w' w'') := fun w' hb => ldReplayR_any cf A B D ps _ w' (hC.below hb) (hRs.below hb) hwk
  generalize Ld.replayL cf (ps.map Prod.fst) = Q at HR1 HR2
  obtain ⟨f, L, R, W, d⟩ := cf
  obtain ⟨a1, c1, rfl⟩ := pins_slice hC.1
  obtain ⟨a2, c2, rfl⟩ := rules_slice hC.2.1
  obtain ⟨a3, c3, rfl⟩ := waves_slice hC.2.2
  unfold cfV cfC at HR1 HR2
  unfold cfV cfC
  simp only at HR1 HR2 ⊢
  clear hC hRs hwk
  generalize ps.length = m at *
  generalize L.length = n1 at *
  generalize R.length = n2 at *
  generalize W.length = n3 at *
  obtain ⟨⟨ql, qn, qg, qb, qk, qx⟩, QE⟩ := Q
  obtain ⟨hB0, hK0⟩ := box1 w #[.int .i64 f, .slice a1 n1 c1, .slice a2 n2 c2, .slice a3 n3 c3, .int .i64 d] 28
  go_enter Tryz.func4, Tryz.ntmps4
  go_upto_region 1 with fail
  generalize (w.alloc (.cells #[.int .i64 f, .slice a1 n1 c1, .slice a2 n2 c2, .slice a3 n3 c3, .int .i64 d] 28)) = w0 at hB0 hK0 ⊢
  have HB0 : Hid (Below w.heap.size w w0) := hB0
  have HK0 : Hid (Blk w0 w.heap.size #[.int .i64 f, .slice a1 n1 c1, .slice a2 n2 c2, .slice a3 n3 c3, .int .i64 d] 28) := hK0
  clear hB0 hK0
  have kc0 := HK0.out.cell 0
  have kc1 := HK0.out.cell 1
  have kc2 := HK0.out.cell 2
  have kc3 := HK0.out.cell 3
  have kc4 := HK0.out.cell 4
  simp only [List.getElem?_toArray, List.getElem?_cons_zero, List.getElem?_cons_succ] at kc0 kc1 kc2 kc3 kc4
  go_wp2_with fail
  refine (HR1.out _ HB0.out).mono ?_
  rintro e w1 ⟨⟨z1, z2, rfl, hz⟩, hb1⟩
  obtain ⟨sa, sc, rfl⟩ := relA_slice hz.1
  obtain ⟨ta, tc, rfl⟩ := knows_slice hz.2
  simp only [leV, leC]
  generalize hsn : ql.length = sn at hz ⊢
  generalize htn : qk.length = tn at hz ⊢
  have HSn : Hid (ql.length = sn ∧ qk.length = tn) := ⟨hsn, htn⟩
  clear hsn htn kc0 kc1 kc2 kc3 kc4
  have hbA : Below w1.heap.size w1 (w1.alloc (.cells #[.slice sa sn sc, .int .i64 qn, .int .i64 qg, .bool qb, .slice ta tn tc, .int .i64 qx] 32)) := al_below w1 _
  have hbX : Below w0.heap.size w0 (w1.alloc (.cells #[.slice sa sn sc, .int .i64 qn, .int .i64 qg, .bool qb, .slice ta tn tc, .int .i64 qx] 32)) := hb1.trans (hbA.mono hb1.size)
  have HB1 : Hid (Below w.heap.size w (w1.alloc (.cells #[.slice sa sn sc, .int .i64 qn, .int .i64 qg, .bool qb, .slice ta tn tc, .int .i64 qx] 32))) := HB0.out.trans (hbX.mono HB0.out.size)
  have HK1 : Hid (Blk (w1.alloc (.cells #[.slice sa sn sc, .int .i64 qn, .int .i64 qg, .bool qb, .slice ta tn tc, .int .i64 qx] 32)) _ _ _) := HK0.out.below hbX
  have HX1 : Hid (Blk (w1.alloc (.cells #[.slice sa sn sc, .int .i64 qn, .int .i64 qg, .bool qb, .slice ta tn tc, .int .i64 qx] 32)) w1.heap.size #[.slice sa sn sc, .int .i64 qn, .int .i64 qg, .bool qb, .slice ta tn tc, .int .i64 qx] 32) := blk_alloc w1 _ _
  have HZ1 : Hid (LdAt (w1.alloc (.cells #[.slice sa sn sc, .int .i64 qn, .int .i64 qg, .bool qb, .slice ta tn tc, .int .i64 qx] 32)) ⟨ql, qn, qg, qb, qk, qx⟩ (.slice sa sn sc) (.slice ta tn tc)) := hz.below hbA
  clear hbA hbX hb1 hz HB0 HR1 HK0
  go_upto_region 2 with fail
  generalize (w1.alloc (.cells #[.slice sa sn sc, .int .i64 qn, .int .i64 qg, .bool qb, .slice ta tn tc, .int .i64 qx] 32)) = W1 at HB1 HX1 HZ1 HK1 ⊢
  generalize w1.heap.size = g1 at HX1 ⊢
  have kc0 := HK1.out.cell 0
  have kc1 := HK1.out.cell 1
  have kc2 := HK1.out.cell 2
  have kc3 := HK1.out.cell 3
  have kc4 := HK1.out.cell 4
  simp only [List.getElem?_toArray, List.getElem?_cons_zero, List.getElem?_cons_succ] at kc0 kc1 kc2 kc3 kc4
  go_wp2_with fail
  refine (HR2.out _ HB1.out).mono ?_
  rintro e w2 ⟨⟨z1, z2, rfl, hz⟩, hb2⟩
  obtain ⟨ua, uc, rfl⟩ := relA_slice hz.1
  obtain ⟨va, vc, rfl⟩ := knows_slice hz.2
  simp only [leV, leC]
  simp only [HSn.out.1, HSn.out.2] at hz ⊢
  have hbA : Below w2.heap.size w2 (w2.alloc (.cells #[.slice ua sn uc, .int .i64 qn, .int .i64 qg, .bool qb, .slice va tn vc, .int .i64 qx] 32)) := al_below w2 _
  have hbX : Below W1.heap.size W1 (w2.alloc (.cells #[.slice ua sn uc, .int .i64 qn, .int .i64 qg, .bool qb, .slice va tn vc, .int .i64 qx] 32)) := hb2.trans (hbA.mono hb2.size)
  have HB2 : Hid (Below w.heap.size w (w2.alloc (.cells #[.slice ua sn uc, .int .i64 qn, .int .i64 qg, .bool qb, .slice va tn vc, .int .i64 qx] 32))) := HB1.out.trans (hbX.mono HB1.out.size)
  have HX2 : Hid (Blk (w2.alloc (.cells #[.slice ua sn uc, .int .i64 qn, .int .i64 qg, .bool qb, .slice va tn vc, .int .i64 qx] 32)) g1 #[.slice sa sn sc, .int .i64 qn, .int .i64 qg, .bool qb, .slice ta tn tc, .int .i64 qx] 32) := HX1.out.below hbX
  have HY2 : Hid (Blk (w2.alloc (.cells #[.slice ua sn uc, .int .i64 qn, .int .i64 qg, .bool qb, .slice va tn vc, .int .i64 qx] 32)) w2.heap.size #[.slice ua sn uc, .int .i64 qn, .int .i64 qg, .bool qb, .slice va tn vc, .int .i64 qx] 32) := blk_alloc w2 _ _
  have HSA : Hid (∀ w', Below ((w2.alloc (.cells #[.slice ua sn uc, .int .i64 qn, .int .i64 qg, .bool qb, .slice va tn vc, .int .i64 qx] 32))).heap.size (w2.alloc (.cells #[.slice ua sn uc, .int .i64 qn, .int .i64 qg, .bool qb, .slice va tn vc, .int .i64 qx] 32)) w' → Calls Tryz.prog 8 #[.agg #[.slice sa sn sc, .int .i64 qn, .int .i64 qg, .bool qb, .slice ta tn tc, .int .i64 qx], .agg #[.slice ua sn uc, .int .i64 qn, .int .i64 qg, .bool qb, .slice va tn vc, .int .i64 qx]] w' fun e w'' => e = .returned (.bool true) ∧ Below w'.heap.size w' w'') := fun w' hb => by
    have := sameLR_any ⟨ql, qn, qg, qb, qk, qx⟩ ⟨ql, qn, qg, qb, qk, qx⟩ _ _ _ _ w' ((HZ1.out.below hbX).below hb) ((hz.below hbA).below hb)
    rw [Ld.sameLeader_self] at this
    exact this
  clear hbA hbX hb2 hz HB1 HX1 HZ1 HR2 HSn HK1 kc0 kc1 kc2 kc3 kc4
  go_upto_region 3 with fail
  generalize (w2.alloc (.cells #[.slice ua sn uc, .int .i64 qn, .int .i64 qg, .bool qb, .slice va tn vc, .int .i64 qx] 32)) = W2 at HB2 HX2 HY2 HSA ⊢
  generalize w2.heap.size = g2 at HY2 ⊢
  go_wp2_with fail
  refine (led_any _).mono ?_
  rintro e w3 ⟨rfl, hb3⟩
  have HB3 : Hid (Below w.heap.size w w3) := HB2.out.trans (hb3.mono HB2.out.size)
  have HX3 : Hid (Blk w3 _ _ _) := HX2.out.below hb3
  have HY3 : Hid (Blk w3 _ _ _) := HY2.out.below hb3
  have HSB : Hid (Calls Tryz.prog 8 #[.agg #[.slice sa sn sc, .int .i64 qn, .int .i64 qg, .bool qb, .slice ta tn tc, .int .i64 qx], .agg #[.slice ua sn uc, .int .i64 qn, .int .i64 qg, .bool qb, .slice va tn vc, .int .i64 qx]] w3 fun e w'' => e = .returned (.bool true) ∧ Below w3.heap.size w3 w'') := HSA.out w3 hb3
  clear hb3 HB2 HX2 HY2 HSA
  have kx0 := HX3.out.cell 0
  have kx1 := HX3.out.cell 1
  have kx2 := HX3.out.cell 2
  have kx3 := HX3.out.cell 3
  have kx4 := HX3.out.cell 4
  have kx5 := HX3.out.cell 5
  simp only [List.getElem?_toArray, List.getElem?_cons_zero, List.getElem?_cons_succ] at kx0 kx1 kx2 kx3 kx4 kx5
  have ky0 := HY3.out.cell 0
  have ky1 := HY3.out.cell 1
  have ky2 := HY3.out.cell 2
  have ky3 := HY3.out.cell 3
  have ky4 := HY3.out.cell 4
  have ky5 := HY3.out.cell 5
  simp only [List.getElem?_toArray, List.getElem?_cons_zero, List.getElem?_cons_succ] at ky0 ky1 ky2 ky3 ky4 ky5
  have hqe : (QE == QE) = true := by simp
  go_wp2_with fail
  refine HSB.out.mono ?_
  rintro e w4 ⟨rfl, hb4⟩
  have HB4 : Hid (Below w.heap.size w w4) := HB3.out.trans (hb4.mono HB3.out.size)
  clear hb4 HB3 HX3 HY3 HSB kx0 kx1 kx2 kx3 kx4 kx5 ky0 ky1 ky2 ky3 ky4 ky5
  go_wp2
  go_ret
  exact ⟨rfl, HB4.out⟩
end Go.Proofs.YtmlhipdfjnamiaaGreat
