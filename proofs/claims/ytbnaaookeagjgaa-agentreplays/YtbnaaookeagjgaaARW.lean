/- The walk of AgentReplays. -/
import Derived.Test.YtbnaaookeagjgaaAGo
import Derived.Test.YtbnaaookeagjgaaAG2
import Derived.Test.YtbnaaookeagjgaaAG6
import Derived.Test.YtbnaaookeagjgaaN6
namespace Go.Proofs.Ytbnaaookeagjgaa
open Go.RowKit
set_option maxHeartbeats 8000000 in
set_option maxRecDepth 100000 in
theorem agReplays_any (i : Int) (v vs : Value) (l : List (Int × Int)) (ps : List (Lk.Note × Value)) (w : World) (hP : PinsAt w v l) (hR : RecsAt w vs ps) (hW : ∀ q ∈ ps, (Lit.int .i64 q.1.kind).wf = true) :
    Calls Try.prog 4 #[relV i v, vs] w fun e w' => e = .returned (.bool true) ∧ Below w.heap.size w w' := by
  obtain ⟨a, c, rfl⟩ := pins_slice hP
  obtain ⟨pa, pc, rfl⟩ := recs_slice hR
  have HR1 : Hid (∀ w', Below w.heap.size w w' → Calls Try.prog 18 #[.agg #[.int .i64 i, .slice a l.length c], .slice pa ps.length pc] w' fun e w'' => agR w'' (Ag.replayA i l (ps.map Prod.fst)) e ∧ Below w'.heap.size w' w'') := fun w' hb => agReplay_any i _ _ l ps w' (hP.below hb) (hR.below hb)
  have HR2 : Hid (∀ w', Below w.heap.size w w' → Calls Try.prog 19 #[.agg #[.int .i64 i, .slice a l.length c], .slice pa ps.length pc] w' fun e w'' => agR w'' (Ag.replayA i l (ps.map Prod.fst)) e ∧ Below w'.heap.size w' w'') := fun w' hb => agReplayR_any i _ _ l ps w' (hP.below hb) (hR.below hb) (fun q hq w'' hp => recR_any q.1 q.2 w'' hp (hW q hq))
  clear hP hR hW
  generalize Ag.replayA i l (ps.map Prod.fst) = Q at HR1 HR2
  obtain ⟨⟨ql, qa, qt, qg, qi, qm, qd⟩, QE⟩ := Q
  unfold relV
  generalize l.length = n at HR1 HR2 ⊢
  generalize ps.length = m at HR1 HR2 ⊢
  have HB0 : Hid (Below w.heap.size w (w.alloc (.cells #[.int .i64 i, .slice a n c] 24))) := (Below.refl _ w).alloc (Nat.le_refl _) _
  have HK0 : Hid (Blk (w.alloc (.cells #[.int .i64 i, .slice a n c] 24)) w.heap.size #[.int .i64 i, .slice a n c] 24) := blk_alloc w _ _
  go_enter Try.func4, Try.ntmps4
  go_upto_region 1 with fail
  generalize (w.alloc (.cells #[.int .i64 i, .slice a n c] 24)) = w0 at HB0 HK0 ⊢
  have k0 := HK0.out.cell 0
  have k1 := HK0.out.cell 1
  simp only [List.getElem?_toArray, List.getElem?_cons_zero, List.getElem?_cons_succ] at k0 k1
  go_wp2_with fail
  refine (HR1.out _ HB0.out).mono ?_
  rintro e w1 ⟨⟨z1, z2, rfl, hz1, hz2⟩, hb1⟩
  simp only at hz1 hz2
  obtain ⟨sa, sc, rfl⟩ := pins_slice hz1
  obtain ⟨ta, tc, rfl⟩ := pins_slice hz2
  simp only [agV, agC]
  generalize hsn : ql.length = sn at hz1 ⊢
  generalize htn : qm.length = tn at hz2 ⊢
  have HSn : Hid (ql.length = sn ∧ qm.length = tn) := ⟨hsn, htn⟩
  clear hsn htn k0 k1
  have hbA : Below w1.heap.size w1 (w1.alloc (.cells #[.slice sa sn sc, .int .i64 qa, .int .i64 qt, .bool qg, .int .i64 qi, .slice ta tn tc, .bool qd] 26)) := (Below.refl _ _).alloc (Nat.le_refl _) _
  have hbX : Below w0.heap.size w0 (w1.alloc (.cells #[.slice sa sn sc, .int .i64 qa, .int .i64 qt, .bool qg, .int .i64 qi, .slice ta tn tc, .bool qd] 26)) := hb1.trans (hbA.mono hb1.size)
  have HB1 : Hid (Below w.heap.size w (w1.alloc (.cells #[.slice sa sn sc, .int .i64 qa, .int .i64 qt, .bool qg, .int .i64 qi, .slice ta tn tc, .bool qd] 26))) := HB0.out.trans (hbX.mono HB0.out.size)
  have HK1 : Hid (Blk (w1.alloc (.cells #[.slice sa sn sc, .int .i64 qa, .int .i64 qt, .bool qg, .int .i64 qi, .slice ta tn tc, .bool qd] 26)) w.heap.size #[.int .i64 i, .slice a n c] 24) := HK0.out.below hbX
  have HX1 : Hid (Blk (w1.alloc (.cells #[.slice sa sn sc, .int .i64 qa, .int .i64 qt, .bool qg, .int .i64 qi, .slice ta tn tc, .bool qd] 26)) w1.heap.size #[.slice sa sn sc, .int .i64 qa, .int .i64 qt, .bool qg, .int .i64 qi, .slice ta tn tc, .bool qd] 26) := blk_alloc w1 _ _
  have HP1 : Hid (PinsAt (w1.alloc (.cells #[.slice sa sn sc, .int .i64 qa, .int .i64 qt, .bool qg, .int .i64 qi, .slice ta tn tc, .bool qd] 26)) (.slice sa sn sc) ql) := hz1.below hbA
  have HP2 : Hid (PinsAt (w1.alloc (.cells #[.slice sa sn sc, .int .i64 qa, .int .i64 qt, .bool qg, .int .i64 qi, .slice ta tn tc, .bool qd] 26)) (.slice ta tn tc) qm) := hz2.below hbA
  clear hbA hbX hb1 hz1 hz2 HB0 HK0 HR1
  go_upto_region 2 with fail
  generalize (w1.alloc (.cells #[.slice sa sn sc, .int .i64 qa, .int .i64 qt, .bool qg, .int .i64 qi, .slice ta tn tc, .bool qd] 26)) = W1 at HB1 HK1 HX1 HP1 HP2 ⊢
  generalize w1.heap.size = g1 at HX1 ⊢
  have k0 := HK1.out.cell 0
  have k1 := HK1.out.cell 1
  simp only [List.getElem?_toArray, List.getElem?_cons_zero, List.getElem?_cons_succ] at k0 k1
  go_wp2_with fail
  refine (HR2.out _ HB1.out).mono ?_
  rintro e w2 ⟨⟨z1, z2, rfl, hz1, hz2⟩, hb2⟩
  simp only at hz1 hz2
  obtain ⟨ua, uc, rfl⟩ := pins_slice hz1
  obtain ⟨va, vc, rfl⟩ := pins_slice hz2
  simp only [agV, agC]
  rw [HSn.out.1] at hz1
  rw [HSn.out.2] at hz2
  rw [HSn.out.1, HSn.out.2]
  clear k0 k1
  have hbA : Below w2.heap.size w2 (w2.alloc (.cells #[.slice ua sn uc, .int .i64 qa, .int .i64 qt, .bool qg, .int .i64 qi, .slice va tn vc, .bool qd] 26)) := (Below.refl _ _).alloc (Nat.le_refl _) _
  have hbX : Below W1.heap.size W1 (w2.alloc (.cells #[.slice ua sn uc, .int .i64 qa, .int .i64 qt, .bool qg, .int .i64 qi, .slice va tn vc, .bool qd] 26)) := hb2.trans (hbA.mono hb2.size)
  have HB2 : Hid (Below w.heap.size w (w2.alloc (.cells #[.slice ua sn uc, .int .i64 qa, .int .i64 qt, .bool qg, .int .i64 qi, .slice va tn vc, .bool qd] 26))) := HB1.out.trans (hbX.mono HB1.out.size)
  have HX2 : Hid (Blk (w2.alloc (.cells #[.slice ua sn uc, .int .i64 qa, .int .i64 qt, .bool qg, .int .i64 qi, .slice va tn vc, .bool qd] 26)) g1 #[.slice sa sn sc, .int .i64 qa, .int .i64 qt, .bool qg, .int .i64 qi, .slice ta tn tc, .bool qd] 26) := HX1.out.below hbX
  have HY2 : Hid (Blk (w2.alloc (.cells #[.slice ua sn uc, .int .i64 qa, .int .i64 qt, .bool qg, .int .i64 qi, .slice va tn vc, .bool qd] 26)) w2.heap.size #[.slice ua sn uc, .int .i64 qa, .int .i64 qt, .bool qg, .int .i64 qi, .slice va tn vc, .bool qd] 26) := blk_alloc w2 _ _
  have HSA : Hid (∀ w', Below ((w2.alloc (.cells #[.slice ua sn uc, .int .i64 qa, .int .i64 qt, .bool qg, .int .i64 qi, .slice va tn vc, .bool qd] 26))).heap.size (w2.alloc (.cells #[.slice ua sn uc, .int .i64 qa, .int .i64 qt, .bool qg, .int .i64 qi, .slice va tn vc, .bool qd] 26)) w' → Calls Try.prog 16 #[.agg #[.slice sa sn sc, .int .i64 qa, .int .i64 qt, .bool qg, .int .i64 qi, .slice ta tn tc, .bool qd], .agg #[.slice ua sn uc, .int .i64 qa, .int .i64 qt, .bool qg, .int .i64 qi, .slice va tn vc, .bool qd]] w' fun e w'' => e = .returned (.bool true) ∧ Below w'.heap.size w' w'') := fun w' hb => by
    have := sameAgR_any ql qm ql qm qa qt qi qa qt qi qg qd qg qd _ _ _ _ w' ((HP1.out.below hbX).below hb) ((HP2.out.below hbX).below hb) ((hz1.below hbA).below hb) ((hz2.below hbA).below hb)
    rw [Ag.sameAgent_self] at this
    exact this
  clear hbA hbX hb2 hz1 hz2 HB1 HK1 HX1 HP1 HP2 HR2 HSn
  go_upto_region 3 with fail
  generalize (w2.alloc (.cells #[.slice ua sn uc, .int .i64 qa, .int .i64 qt, .bool qg, .int .i64 qi, .slice va tn vc, .bool qd] 26)) = W2 at HB2 HX2 HY2 HSA ⊢
  generalize w2.heap.size = g2 at HY2 ⊢
  go_wp2_with fail
  refine (gone_any _).mono ?_
  rintro e w3 ⟨rfl, hb3⟩
  have HB3 : Hid (Below w.heap.size w w3) := HB2.out.trans (hb3.mono HB2.out.size)
  have HX3 : Hid (Blk w3 _ _ _) := HX2.out.below hb3
  have HY3 : Hid (Blk w3 _ _ _) := HY2.out.below hb3
  have HSB : Hid (Calls Try.prog 16 #[.agg #[.slice sa sn sc, .int .i64 qa, .int .i64 qt, .bool qg, .int .i64 qi, .slice ta tn tc, .bool qd], .agg #[.slice ua sn uc, .int .i64 qa, .int .i64 qt, .bool qg, .int .i64 qi, .slice va tn vc, .bool qd]] w3 fun e w'' => e = .returned (.bool true) ∧ Below w3.heap.size w3 w'') := HSA.out w3 hb3
  clear hb3 HB2 HX2 HY2 HSA
  have k0 := HX3.out.cell 0
  have k1 := HX3.out.cell 1
  have k2 := HX3.out.cell 2
  have k3 := HX3.out.cell 3
  have k4 := HX3.out.cell 4
  have k5 := HX3.out.cell 5
  have k6 := HX3.out.cell 6
  simp only [List.getElem?_toArray, List.getElem?_cons_zero, List.getElem?_cons_succ] at k0 k1 k2 k3 k4 k5 k6
  have x0 := HY3.out.cell 0
  have x1 := HY3.out.cell 1
  have x2 := HY3.out.cell 2
  have x3 := HY3.out.cell 3
  have x4 := HY3.out.cell 4
  have x5 := HY3.out.cell 5
  have x6 := HY3.out.cell 6
  simp only [List.getElem?_toArray, List.getElem?_cons_zero, List.getElem?_cons_succ] at x0 x1 x2 x3 x4 x5 x6
  have hqe : (QE == QE) = true := by simp
  go_wp2_with fail
  refine HSB.out.mono ?_
  rintro e w4 ⟨rfl, hb4⟩
  have HB4 : Hid (Below w.heap.size w w4) := HB3.out.trans (hb4.mono HB3.out.size)
  clear hb4 HB3 HX3 HY3 HSB k0 k1 k2 k3 k4 k5 k6 x0 x1 x2 x3 x4 x5 x6
  go_wp2
  go_ret
  exact ⟨rfl, HB4.out⟩
end Go.Proofs.Ytbnaaookeagjgaa
