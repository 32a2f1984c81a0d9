/- The walk of the law LeadNext. (Written by tools/gen_leadlaws.py.) -/
import Derived.Test.YtmlhipdfjnamiaaGreatLGA
import Derived.Test.YtmlhipdfjnamiaaGreatME
import Derived.Test.YtmlhipdfjnamiaaGreatLL1
namespace Go.Proofs.YtmlhipdfjnamiaaGreat
open Go.RowKit
/-- what Next, Replay and their like answer, plainly -/
def leL (w : World) (q : Ld.Leader × Int) (e : Ending) : Prop := ∃ Y Z, e = .returned (.tuple #[leV q.1 Y Z, .int .i64 q.2]) ∧ LdAt w q.1 Y Z
theorem leL_n {w : World} {base : Nat} {q : Ld.Leader × Int} {e : Ending} (h : leN w base q e) : leL w q e := by
  obtain ⟨Y, Z, h1, h2⟩ := h; exact ⟨Y, Z, h1, h2.here⟩
theorem leL_s {S : Nat → Prop} {w : World} {q : Ld.Leader × Int} {e : Ending} (h : leS S w q e) : leL w q e := by
  obtain ⟨Y, Z, h1, h2⟩ := h; exact ⟨Y, Z, h1, h2.ld⟩
set_option maxHeartbeats 8000000 in
set_option maxRecDepth 100000 in
theorem lnext_any (cf : Ld.Config) (A B D : Value) (ld : Ld.Leader) (Y Z : Value) (rk ra rt rn ri : Int) (rg : Bool) (lk : List (Int × Int)) (z : Value) (w : World) (hC : CfAt w cf A B D) (hL : LdAt w ld Y Z) (hP : PinsAt w z lk) (hw : ∀ p ∈ ld.rels, -9223372036854775808 ≤ p.1 ∧ p.1 < 9223372036854775808) (hwk : (Lit.int .i64 rk).wf = true) :
    Calls Tryz.prog 3 #[cfV cf A B D, leV ld Y Z, .agg #[.int .i64 rk, .int .i64 ra, .int .i64 rt, .int .i64 rn, .bool rg, .int .i64 ri, z]] w fun e w' => e = .returned (.bool true) ∧ Below w.heap.size w w' := by
  obtain ⟨az, cz, rfl⟩ := pins_slice hP
  have hS : LdS (fun _ => False) w ld Y Z := ⟨Keep.older hL (ld_stab _ _ _) (fun b h => h.elim) (Below.refl _ w), fun _ _ _ _ h => h⟩
  have hPS : Keep (fun _ => False) (fun w => PinsAt w (.slice az lk.length cz) lk) w := Keep.older hP (pins_stab _ _) (fun b h => h.elim) (Below.refl _ w)
  have HR1 : Hid (∀ w', Below w.heap.size w w' → Calls Tryz.prog 5 #[cfV cf A B D, leV ld Y Z, .agg #[.int .i64 rk, .int .i64 ra, .int .i64 rt, .int .i64 rn, .bool rg, .int .i64 ri, .slice az lk.length cz]] w' fun e w'' => leL w'' (Ld.nextL cf ld ⟨rk, ra, rt, rn, rg, ri, lk⟩) e ∧ Below w'.heap.size w' w'') := fun w' hb => (ldNext_any cf A B D ld Y Z rk ra rt rn ri rg lk _ w' (hC.below hb) (hL.below hb) (hP.below hb)).mono (fun e w'' h => ⟨leL_n h.1, h.2⟩)
  have HR2 : Hid (∀ w', Below w.heap.size w w' → Calls Tryz.prog 6 #[cfV cf A B D, leV ld Y Z, .agg #[.int .i64 rk, .int .i64 ra, .int .i64 rt, .int .i64 rn, .bool rg, .int .i64 ri, .slice az lk.length cz]] w' fun e w'' => leL w'' (Ld.nextL cf ld ⟨rk, ra, rt, rn, rg, ri, lk⟩) e ∧ Below w'.heap.size w' w'') := fun w' hb => (ldNextR_any (fun _ => False) cf A B D ld Y Z rk ra rt rn ri rg lk _ w' (fun _ h => h.elim) (hC.below hb) (hS.below hb) (hPS.below hb) hw hwk).mono (fun e w'' h => ⟨leL_s h.1, h.2⟩)
  generalize Ld.nextL cf ld ⟨rk, ra, rt, rn, rg, ri, lk⟩ = Q at HR1 HR2
  obtain ⟨f, L, R, W, d⟩ := cf
  obtain ⟨a1, c1, rfl⟩ := pins_slice hC.1
  obtain ⟨a2, c2, rfl⟩ := rules_slice hC.2.1
  obtain ⟨a3, c3, rfl⟩ := waves_slice hC.2.2
  obtain ⟨rs, nw, g, bk, ks, nx⟩ := ld
  obtain ⟨a4, c4, rfl⟩ := relA_slice hL.1
  obtain ⟨a5, c5, rfl⟩ := knows_slice hL.2
  unfold cfV cfC leV leC at HR1 HR2
  unfold cfV cfC leV leC
  simp only at HR1 HR2 ⊢
  clear hC hL hP hS hPS hw hwk
  generalize rs.length = n4 at *
  generalize ks.length = n5 at *
  generalize lk.length = nz at *
  generalize L.length = n1 at *
  generalize R.length = n2 at *
  generalize W.length = n3 at *
  obtain ⟨⟨ql, qn, qg, qb, qk, qx⟩, QE⟩ := Q
  obtain ⟨hB0, hK0, hL0, hR0⟩ := box3 w #[.int .i64 f, .slice a1 n1 c1, .slice a2 n2 c2, .slice a3 n3 c3, .int .i64 d] #[.slice a4 n4 c4, .int .i64 nw, .int .i64 g, .bool bk, .slice a5 n5 c5, .int .i64 nx] #[.int .i64 rk, .int .i64 ra, .int .i64 rt, .int .i64 rn, .bool rg, .int .i64 ri, .slice az nz cz] 28 32 34
  go_enter Tryz.func3, Tryz.ntmps3
  go_upto_region 1 with fail
  generalize (((w.alloc (.cells #[.int .i64 f, .slice a1 n1 c1, .slice a2 n2 c2, .slice a3 n3 c3, .int .i64 d] 28)).alloc (.cells #[.slice a4 n4 c4, .int .i64 nw, .int .i64 g, .bool bk, .slice a5 n5 c5, .int .i64 nx] 32)).alloc (.cells #[.int .i64 rk, .int .i64 ra, .int .i64 rt, .int .i64 rn, .bool rg, .int .i64 ri, .slice az nz cz] 34)) = w0 at hB0 hK0 hL0 hR0 ⊢
  have HB0 : Hid (Below w.heap.size w w0) := hB0
  have HK0 : Hid (Blk w0 w.heap.size #[.int .i64 f, .slice a1 n1 c1, .slice a2 n2 c2, .slice a3 n3 c3, .int .i64 d] 28) := hK0
  have HL0 : Hid (Blk w0 (w.heap.size + 1) #[.slice a4 n4 c4, .int .i64 nw, .int .i64 g, .bool bk, .slice a5 n5 c5, .int .i64 nx] 32) := hL0
  have HQ0 : Hid (Blk w0 (w.heap.size + 1 + 1) #[.int .i64 rk, .int .i64 ra, .int .i64 rt, .int .i64 rn, .bool rg, .int .i64 ri, .slice az nz cz] 34) := hR0
  clear hB0 hK0 hL0 hR0
  have kc0 := HK0.out.cell 0
  have kc1 := HK0.out.cell 1
  have kc2 := HK0.out.cell 2
  have kc3 := HK0.out.cell 3
  have kc4 := HK0.out.cell 4
  simp only [List.getElem?_toArray, List.getElem?_cons_zero, List.getElem?_cons_succ] at kc0 kc1 kc2 kc3 kc4
  have kl0 := HL0.out.cell 0
  have kl1 := HL0.out.cell 1
  have kl2 := HL0.out.cell 2
  have kl3 := HL0.out.cell 3
  have kl4 := HL0.out.cell 4
  have kl5 := HL0.out.cell 5
  simp only [List.getElem?_toArray, List.getElem?_cons_zero, List.getElem?_cons_succ] at kl0 kl1 kl2 kl3 kl4 kl5
  have kr0 := HQ0.out.cell 0
  have kr1 := HQ0.out.cell 1
  have kr2 := HQ0.out.cell 2
  have kr3 := HQ0.out.cell 3
  have kr4 := HQ0.out.cell 4
  have kr5 := HQ0.out.cell 5
  have kr6 := HQ0.out.cell 6
  simp only [List.getElem?_toArray, List.getElem?_cons_zero, List.getElem?_cons_succ] at kr0 kr1 kr2 kr3 kr4 kr5 kr6
  go_wp2_with fail
  refine (HR1.out _ HB0.out).mono ?_
  rintro e w1 ⟨⟨z1, z2, rfl, hz⟩, hb1⟩
  obtain ⟨sa, sc, rfl⟩ := relA_slice hz.1
  obtain ⟨ta, tc, rfl⟩ := knows_slice hz.2
  simp only [leV, leC]
  generalize hsn : ql.length = sn at hz ⊢
  generalize htn : qk.length = tn at hz ⊢
  have HSn : Hid (ql.length = sn ∧ qk.length = tn) := ⟨hsn, htn⟩
  clear hsn htn kc0 kc1 kc2 kc3 kc4 kl0 kl1 kl2 kl3 kl4 kl5 kr0 kr1 kr2 kr3 kr4 kr5 kr6
  have hbA : Below w1.heap.size w1 (w1.alloc (.cells #[.slice sa sn sc, .int .i64 qn, .int .i64 qg, .bool qb, .slice ta tn tc, .int .i64 qx] 32)) := al_below w1 _
  have hbX : Below w0.heap.size w0 (w1.alloc (.cells #[.slice sa sn sc, .int .i64 qn, .int .i64 qg, .bool qb, .slice ta tn tc, .int .i64 qx] 32)) := hb1.trans (hbA.mono hb1.size)
  have HB1 : Hid (Below w.heap.size w (w1.alloc (.cells #[.slice sa sn sc, .int .i64 qn, .int .i64 qg, .bool qb, .slice ta tn tc, .int .i64 qx] 32))) := HB0.out.trans (hbX.mono HB0.out.size)
  have HK1 : Hid (Blk (w1.alloc (.cells #[.slice sa sn sc, .int .i64 qn, .int .i64 qg, .bool qb, .slice ta tn tc, .int .i64 qx] 32)) _ _ _) := HK0.out.below hbX
  have HL1 : Hid (Blk (w1.alloc (.cells #[.slice sa sn sc, .int .i64 qn, .int .i64 qg, .bool qb, .slice ta tn tc, .int .i64 qx] 32)) _ _ _) := HL0.out.below hbX
  have HQ1 : Hid (Blk (w1.alloc (.cells #[.slice sa sn sc, .int .i64 qn, .int .i64 qg, .bool qb, .slice ta tn tc, .int .i64 qx] 32)) _ _ _) := HQ0.out.below hbX
  have HX1 : Hid (Blk (w1.alloc (.cells #[.slice sa sn sc, .int .i64 qn, .int .i64 qg, .bool qb, .slice ta tn tc, .int .i64 qx] 32)) w1.heap.size #[.slice sa sn sc, .int .i64 qn, .int .i64 qg, .bool qb, .slice ta tn tc, .int .i64 qx] 32) := blk_alloc w1 _ _
  have HZ1 : Hid (LdAt (w1.alloc (.cells #[.slice sa sn sc, .int .i64 qn, .int .i64 qg, .bool qb, .slice ta tn tc, .int .i64 qx] 32)) ⟨ql, qn, qg, qb, qk, qx⟩ (.slice sa sn sc) (.slice ta tn tc)) := hz.below hbA
  clear hbA hbX hb1 hz HB0 HR1 HK0 HL0 HQ0
  go_upto_region 2 with fail
  generalize (w1.alloc (.cells #[.slice sa sn sc, .int .i64 qn, .int .i64 qg, .bool qb, .slice ta tn tc, .int .i64 qx] 32)) = W1 at HB1 HX1 HZ1 HK1 HL1 HQ1 ⊢
  generalize w1.heap.size = g1 at HX1 ⊢
  have kc0 := HK1.out.cell 0
  have kc1 := HK1.out.cell 1
  have kc2 := HK1.out.cell 2
  have kc3 := HK1.out.cell 3
  have kc4 := HK1.out.cell 4
  simp only [List.getElem?_toArray, List.getElem?_cons_zero, List.getElem?_cons_succ] at kc0 kc1 kc2 kc3 kc4
  have kl0 := HL1.out.cell 0
  have kl1 := HL1.out.cell 1
  have kl2 := HL1.out.cell 2
  have kl3 := HL1.out.cell 3
  have kl4 := HL1.out.cell 4
  have kl5 := HL1.out.cell 5
  simp only [List.getElem?_toArray, List.getElem?_cons_zero, List.getElem?_cons_succ] at kl0 kl1 kl2 kl3 kl4 kl5
  have kr0 := HQ1.out.cell 0
  have kr1 := HQ1.out.cell 1
  have kr2 := HQ1.out.cell 2
  have kr3 := HQ1.out.cell 3
  have kr4 := HQ1.out.cell 4
  have kr5 := HQ1.out.cell 5
  have kr6 := HQ1.out.cell 6
  simp only [List.getElem?_toArray, List.getElem?_cons_zero, List.getElem?_cons_succ] at kr0 kr1 kr2 kr3 kr4 kr5 kr6
  go_wp2_with fail
  refine (HR2.out _ HB1.out).mono ?_
  rintro e w2 ⟨⟨z1, z2, rfl, hz⟩, hb2⟩
  obtain ⟨ua, uc, rfl⟩ := relA_slice hz.1
  obtain ⟨va, vc, rfl⟩ := knows_slice hz.2
  simp only [leV, leC]
  simp only [HSn.out.1, HSn.out.2] at hz ⊢
  have hbA : Below w2.heap.size w2 (w2.alloc (.cells #[.slice ua sn uc, .int .i64 qn, .int .i64 qg, .bool qb, .slice va tn vc, .int .i64 qx] 32)) := al_below w2 _
  have hbX : Below W1.heap.size W1 (w2.alloc (.cells #[.slice ua sn uc, .int .i64 qn, .int .i64 qg, .bool qb, .slice va tn vc, .int .i64 qx] 32)) := hb2.trans (hbA.mono hb2.size)
  have HB2 : Hid (Below w.heap.size w (w2.alloc (.cells #[.slice ua sn uc, .int .i64 qn, .int .i64 qg, .bool qb, .slice va tn vc, .int .i64 qx] 32))) := HB1.out.trans (hbX.mono HB1.out.size)
  have HX2 : Hid (Blk (w2.alloc (.cells #[.slice ua sn uc, .int .i64 qn, .int .i64 qg, .bool qb, .slice va tn vc, .int .i64 qx] 32)) g1 #[.slice sa sn sc, .int .i64 qn, .int .i64 qg, .bool qb, .slice ta tn tc, .int .i64 qx] 32) := HX1.out.below hbX
  have HY2 : Hid (Blk (w2.alloc (.cells #[.slice ua sn uc, .int .i64 qn, .int .i64 qg, .bool qb, .slice va tn vc, .int .i64 qx] 32)) w2.heap.size #[.slice ua sn uc, .int .i64 qn, .int .i64 qg, .bool qb, .slice va tn vc, .int .i64 qx] 32) := blk_alloc w2 _ _
  have HSA : Hid (∀ w', Below ((w2.alloc (.cells #[.slice ua sn uc, .int .i64 qn, .int .i64 qg, .bool qb, .slice va tn vc, .int .i64 qx] 32))).heap.size (w2.alloc (.cells #[.slice ua sn uc, .int .i64 qn, .int .i64 qg, .bool qb, .slice va tn vc, .int .i64 qx] 32)) w' → Calls Tryz.prog 8 #[.agg #[.slice sa sn sc, .int .i64 qn, .int .i64 qg, .bool qb, .slice ta tn tc, .int .i64 qx], .agg #[.slice ua sn uc, .int .i64 qn, .int .i64 qg, .bool qb, .slice va tn vc, .int .i64 qx]] w' fun e w'' => e = .returned (.bool true) ∧ Below w'.heap.size w' w'') := fun w' hb => by
    have := sameLR_any ⟨ql, qn, qg, qb, qk, qx⟩ ⟨ql, qn, qg, qb, qk, qx⟩ _ _ _ _ w' ((HZ1.out.below hbX).below hb) ((hz.below hbA).below hb)
    rw [Ld.sameLeader_self] at this
    exact this
  clear hbA hbX hb2 hz HB1 HX1 HZ1 HR2 HSn HK1 HL1 HQ1 kc0 kc1 kc2 kc3 kc4 kl0 kl1 kl2 kl3 kl4 kl5 kr0 kr1 kr2 kr3 kr4 kr5 kr6
  go_upto_region 3 with fail
  generalize (w2.alloc (.cells #[.slice ua sn uc, .int .i64 qn, .int .i64 qg, .bool qb, .slice va tn vc, .int .i64 qx] 32)) = W2 at HB2 HX2 HY2 HSA ⊢
  generalize w2.heap.size = g2 at HY2 ⊢
  go_wp2_with fail
  refine (led_any _).mono ?_
  rintro e w3 ⟨rfl, hb3⟩
  have HB3 : Hid (Below w.heap.size w w3) := HB2.out.trans (hb3.mono HB2.out.size)
  have HX3 : Hid (Blk w3 _ _ _) := HX2.out.below hb3
  have HY3 : Hid (Blk w3 _ _ _) := HY2.out.below hb3
  have HSB : Hid (Calls Tryz.prog 8 #[.agg #[.slice sa sn sc, .int .i64 qn, .int .i64 qg, .bool qb, .slice ta tn tc, .int .i64 qx], .agg #[.slice ua sn uc, .int .i64 qn, .int .i64 qg, .bool qb, .slice va tn vc, .int .i64 qx]] w3 fun e w'' => e = .returned (.bool true) ∧ Below w3.heap.size w3 w'') := HSA.out w3 hb3
  clear hb3 HB2 HX2 HY2 HSA
  have kx0 := HX3.out.cell 0
  have kx1 := HX3.out.cell 1
  have kx2 := HX3.out.cell 2
  have kx3 := HX3.out.cell 3
  have kx4 := HX3.out.cell 4
  have kx5 := HX3.out.cell 5
  simp only [List.getElem?_toArray, List.getElem?_cons_zero, List.getElem?_cons_succ] at kx0 kx1 kx2 kx3 kx4 kx5
  have ky0 := HY3.out.cell 0
  have ky1 := HY3.out.cell 1
  have ky2 := HY3.out.cell 2
  have ky3 := HY3.out.cell 3
  have ky4 := HY3.out.cell 4
  have ky5 := HY3.out.cell 5
  simp only [List.getElem?_toArray, List.getElem?_cons_zero, List.getElem?_cons_succ] at ky0 ky1 ky2 ky3 ky4 ky5
  have hqe : (QE == QE) = true := by simp
  go_wp2_with fail
  refine HSB.out.mono ?_
  rintro e w4 ⟨rfl, hb4⟩
  have HB4 : Hid (Below w.heap.size w w4) := HB3.out.trans (hb4.mono HB3.out.size)
  clear hb4 HB3 HX3 HY3 HSB kx0 kx1 kx2 kx3 kx4 kx5 ky0 ky1 ky2 ky3 ky4 ky5
  go_wp2
  go_ret
  exact ⟨rfl, HB4.out⟩
end Go.Proofs.YtmlhipdfjnamiaaGreat
