/- The contract of the document's LeaderNext. (Written by tools/gen_leadgA.py.) -/
import Derived.Test.YtmlhipdfjnamiaaGreatMI
import Derived.Test.YtmlhipdfjnamiaaGreatME
import Derived.Test.YtmlhipdfjnamiaaGreatRT
import Derived.Deep.CutBlock
import Derived.BigRegion
namespace Go.Proofs.YtmlhipdfjnamiaaGreat
open Go.RowKit Go.Maps
set_option maxHeartbeats 32000000 in
set_option maxRecDepth 100000 in
theorem ldNextR_any (S : Nat → Prop) (cf : Ld.Config) (A B D : Value) (ld : Ld.Leader) (Y Z : Value) (rk ra rt rn ri : Int) (rg : Bool) (lk : List (Int × Int)) (z : Value) (w : World) (hS : ∀ x, S x → x < w.heap.size) (hC : CfAt w cf A B D) (hL : LdS S w ld Y Z) (hP : Keep S (fun w => PinsAt w z lk) w) (hw : ∀ p ∈ ld.rels, -9223372036854775808 ≤ p.1 ∧ p.1 < 9223372036854775808) (hwk : (Lit.int .i64 rk).wf = true) :
    Calls Tryz.prog 6 #[cfV cf A B D, leV ld Y Z, .agg #[.int .i64 rk, .int .i64 ra, .int .i64 rt, .int .i64 rn, .bool rg, .int .i64 ri, z]] w fun e w' => leS S w' (Ld.nextL cf ld ⟨rk, ra, rt, rn, rg, ri, lk⟩) e ∧ Below w.heap.size w w' := by
  obtain ⟨i0, hi, hz0, hz1, hz2⟩ := info_parts infoRl
  obtain ⟨i1, hj, hy0, hy1, hy2⟩ := info_parts infoK
  obtain ⟨az, cz, rfl⟩ := pins_slice hP.here
  have HCL : Hid (∀ w', Below w.heap.size w w' → Calls Tryz.prog 17 #[cfV cf A B D, leV ld Y Z] w' fun e w'' => e = .returned (.int .i64 (Ld.chkLeader cf ld)) ∧ Below w'.heap.size w' w'') := fun w' hb => ckLeadR_any cf A B D ld Y Z w' (hC.below hb) (hL.ld.below hb) hw
  have HCR : Hid (∀ w', Below w.heap.size w w' → Calls Tryz.prog 18 #[.agg #[.int .i64 rk, .int .i64 ra, .int .i64 rt, .int .i64 rn, .bool rg, .int .i64 ri, .slice az lk.length cz]] w' fun e w'' => e = .returned (.int .i64 (Lk.chkNote ⟨rk, ra, rt, rn, rg, ri, lk⟩)) ∧ Below w'.heap.size w' w'') := fun w' hb => recR_any ⟨rk, ra, rt, rn, rg, ri, lk⟩ _ w' (hP.here.below hb) hwk
  have HFB : Hid (∀ w', Below w.heap.size w w' → Calls Tryz.prog 19 #[.slice az lk.length cz, B] w' fun e w'' => e = .returned (.tuple #[.int .i64 (Rk.broken lk cf.rules), .int .i64 (Rk.brokenErr lk cf.rules)]) ∧ Below w'.heap.size w' w'') := fun w' hb => fbroken_any _ B lk cf.rules w' (hP.here.below hb) (hC.2.1.below hb)
  have HIT : Hid (Ld.chkLeader cf ld = 0 → ∀ (k : Nat), k < ld.ags.length → ∀ w' Y' Z', Below w.heap.size w w' → LdAt w' ld Y' Z' → Calls Tryz.prog 20 #[cfV cf A B D, leV ld Y' Z', .int .i64 k] w' fun e w'' => e = .returned (.bool (Ld.isTurn cf ld k)) ∧ Below w'.heap.size w' w'') := fun hc k hk w' Y' Z' hb h => turnR_any cf A B D ld Y' Z' k w' (hC.below hb) h hc hk
  have HIO : Hid (Ld.chkLeader cf ld = 0 → ∀ w' Y' Z', LdAt w' ld Y' Z' → Calls Tryz.prog 21 #[cfV cf A B D, leV ld Y' Z'] w' fun e w'' => e = .returned (.bool (Ld.isOver cf ld)) ∧ Below w'.heap.size w' w'') := fun hc w' Y' Z' h => overR_any cf A B D ld Y' Z' w' h hc
  obtain ⟨ps, hps, hpe, hpk⟩ := hL.pins
  have HPK : Hid (∀ q ∈ ps, Keep S (fun w => PinsAt w q.2 q.1.2) w) := hpk
  have HPZ : Hid (Keep S (fun w => PinsAt w (.slice az lk.length cz) lk) w) := hP
  have HS : Hid (∀ x, S x → x < w.heap.size) := hS
  have hkn := hL.ld.2
  have F1 : Hid (¬ Ld.chkLeader cf ld = 0 → Ld.nextL cf ld ⟨rk, ra, rt, rn, rg, ri, lk⟩ = (Ld.Leader.none, Ld.chkLeader cf ld)) := fun h => nxb1 h
  have F2 : Hid (Ld.chkLeader cf ld = 0 → ¬ Lk.chkNote ⟨rk, ra, rt, rn, rg, ri, lk⟩ = 0 → Ld.nextL cf ld ⟨rk, ra, rt, rn, rg, ri, lk⟩ = (Ld.Leader.none, Lk.chkNote ⟨rk, ra, rt, rn, rg, ri, lk⟩)) := fun h h' => nxb2 h h'
  have N4 : Hid (Ld.chkLeader cf ld = 0 → Lk.chkNote ⟨rk, ra, rt, rn, rg, ri, lk⟩ = 0 → rk = 4 → Ld.nextL cf ld ⟨rk, ra, rt, rn, rg, ri, lk⟩ = if ld.rels.length = 6 then (Ld.Leader.none, 2) else if ri = ld.rels.length + 1 then (if 0 ≤ Rk.broken lk cf.rules then (Ld.Leader.none, 8) else ({ ld with rels := ld.rels ++ [(ri, lk)] }, 0)) else (Ld.Leader.none, 7)) := fun h h' hk => (next_in h h').trans (nx4 h h' hk)
  have N5 : Hid (Ld.chkLeader cf ld = 0 → Lk.chkNote ⟨rk, ra, rt, rn, rg, ri, lk⟩ = 0 → rk = 5 → Ld.nextL cf ld ⟨rk, ra, rt, rn, rg, ri, lk⟩ = if ld.goal = 0 then (if rn ≤ ld.rels.length then (if rn = ld.now then (Ld.Leader.none, 6) else ({ ld with goal := rn }, 0)) else (Ld.Leader.none, 5)) else (Ld.Leader.none, 7)) := fun h h' hk => (next_in h h').trans (nx5 hk)
  have N6 : Hid (Ld.chkLeader cf ld = 0 → Lk.chkNote ⟨rk, ra, rt, rn, rg, ri, lk⟩ = 0 → rk = 6 → Ld.nextL cf ld ⟨rk, ra, rt, rn, rg, ri, lk⟩ = if ra < ld.ags.length then (if ld.goal ≠ 0 ∧ rt = ld.next ∧ Ld.isTurn cf ld ra.toNat = true then ({ ld with ags := ld.ags.set ra.toNat ⟨1, ld.next, ld.back⟩, next := ld.next + 1 }, 0) else (Ld.Leader.none, 7)) else (Ld.Leader.none, 5)) := fun h h' hk => (next_in h h').trans (nx6 hk)
  have N7 : Hid (Ld.chkLeader cf ld = 0 → Lk.chkNote ⟨rk, ra, rt, rn, rg, ri, lk⟩ = 0 → rk = 7 → Ld.nextL cf ld ⟨rk, ra, rt, rn, rg, ri, lk⟩ = if ra < ld.ags.length then (if (ld.ags.getD ra.toNat ⟨0, 0, false⟩).st = 1 ∧ (ld.ags.getD ra.toNat ⟨0, 0, false⟩).tr = rt then ({ ld with ags := ld.ags.set ra.toNat { ld.ags.getD ra.toNat ⟨0, 0, false⟩ with st := if rg = true then 2 else 3 } }, 0) else (Ld.Leader.none, 7)) else (Ld.Leader.none, 5)) := fun h h' hk => (next_in h h').trans (nx7 hk)
  have N8 : Hid (Ld.chkLeader cf ld = 0 → Lk.chkNote ⟨rk, ra, rt, rn, rg, ri, lk⟩ = 0 → rk = 8 → Ld.nextL cf ld ⟨rk, ra, rt, rn, rg, ri, lk⟩ = if ld.goal = 0 ∨ ld.back = true then (Ld.Leader.none, 7) else ({ ld with back := true }, 0)) := fun h h' hk => (next_in h h').trans (nx8 hk)
  have N9 : Hid (Ld.chkLeader cf ld = 0 → Lk.chkNote ⟨rk, ra, rt, rn, rg, ri, lk⟩ = 0 → rk = 9 → Ld.nextL cf ld ⟨rk, ra, rt, rn, rg, ri, lk⟩ = if ld.goal = 0 ∨ Ld.isOver cf ld = false then (Ld.Leader.none, 7) else (⟨ld.rels, if ld.back = true then ld.now else ld.goal, 0, false, ld.ags.map endZ, ld.next⟩, 0)) := fun h h' hk => (next_in h h').trans (nx9 hk)
  have N0 : Hid (Ld.chkLeader cf ld = 0 → Lk.chkNote ⟨rk, ra, rt, rn, rg, ri, lk⟩ = 0 → ¬ rk = 4 → ¬ rk = 5 → ¬ rk = 6 → ¬ rk = 7 → ¬ rk = 8 → ¬ rk = 9 → Ld.nextL cf ld ⟨rk, ra, rt, rn, rg, ri, lk⟩ = (Ld.Leader.none, 4)) := fun h h' h4 h5 h6 h7 h8 h9 => (next_in h h').trans (nx0 h4 h5 h6 h7 h8 h9)
  have FL : Hid (Ld.chkLeader cf ld = 0 → ((1 ≤ ld.rels.length ∧ ld.rels.length ≤ 6) ∧ (1 ≤ ld.ags.length ∧ ld.ags.length ≤ 6)) ∧ 0 ≤ ld.goal ∧ 1 ≤ ld.next ∧ ld.next ≤ 201) := fun hc => by
    obtain ⟨g1, g2, g3, g4, g5, g6, _⟩ := (Ld.lead_iff cf ld).1 hc
    have hf := Ld.lead_few hc
    have ha := Ld.agents_ok hf.2.2.2
    exact ⟨⟨g2, by omega, by omega⟩, by omega, by omega, by omega⟩
  have FA : Hid (Lk.chkNote ⟨rk, ra, rt, rn, rg, ri, lk⟩ = 0 → 0 ≤ ra) := fun h => note_agent h
  obtain ⟨f, L, R, W, d⟩ := cf
  obtain ⟨a1, c1, rfl⟩ := pins_slice hC.1
  obtain ⟨a2, c2, rfl⟩ := rules_slice hC.2.1
  obtain ⟨a3, c3, rfl⟩ := waves_slice hC.2.2
  obtain ⟨rs, nw, g, bk, ks, nx⟩ := ld
  obtain ⟨a4, c4, rfl⟩ := relA_slice hL.ld.1
  obtain ⟨a5, c5, rfl⟩ := knows_slice hL.ld.2
  have HPE : Hid (ps.map Prod.fst = rs) := hpe
  have hpl : ps.length = rs.length := qs_len hpe
  have HPS : Hid (RelsAt w (.slice a4 rs.length c4) ps) := hps
  have HKN : Hid (KnowsAt w (.slice a5 ks.length c5) ks) := hkn
  clear hC hL hP hps hpe hpk hkn hS hw hwk
  unfold cfV cfC leV leC at HCL
  unfold cfV cfC leV leC at HIT HIO
  unfold cfV cfC leV leC
  simp only at HCL HFB HIT HIO N4 N5 N6 N7 N8 N9 FL ⊢
  generalize Ld.nextL ⟨f, L, R, W, d⟩ ⟨rs, nw, g, bk, ks, nx⟩ ⟨rk, ra, rt, rn, rg, ri, lk⟩ = Q at F1 F2 N4 N5 N6 N7 N8 N9 N0 ⊢
  generalize Ld.chkLeader ⟨f, L, R, W, d⟩ ⟨rs, nw, g, bk, ks, nx⟩ = X1 at F1 F2 N4 N5 N6 N7 N8 N9 N0 FL HCL HIT HIO
  generalize Lk.chkNote ⟨rk, ra, rt, rn, rg, ri, lk⟩ = X2 at F2 N4 N5 N6 N7 N8 N9 N0 HCR FA
  generalize Ld.isTurn ⟨f, L, R, W, d⟩ ⟨rs, nw, g, bk, ks, nx⟩ = TT at HIT N6
  generalize Ld.isOver ⟨f, L, R, W, d⟩ ⟨rs, nw, g, bk, ks, nx⟩ = OV at HIO N9
  generalize Rk.broken lk R = BRK at HFB N4
  generalize Rk.brokenErr lk R = BE at HFB
  generalize hnz : lk.length = nz at *
  generalize hn4 : rs.length = n4 at *
  generalize hn5 : ks.length = n5 at *
  generalize L.length = n1 at *
  generalize R.length = n2 at *
  generalize W.length = n3 at *
  obtain ⟨hB0, hK0, hK1, hK2, hZ0⟩ := box4 w #[.int .i64 f, .slice a1 n1 c1, .slice a2 n2 c2, .slice a3 n3 c3, .int .i64 d] #[.slice a4 n4 c4, .int .i64 nw, .int .i64 g, .bool bk, .slice a5 n5 c5, .int .i64 nx] #[.int .i64 rk, .int .i64 ra, .int .i64 rt, .int .i64 rn, .bool rg, .int .i64 ri, .slice az nz cz] #[.slice none 0 0, .int .i64 0, .int .i64 0, .bool false, .slice none 0 0, .int .i64 0] 28 32 34 32
  go_enter Tryz.func6, Tryz.ntmps6
  go_upto_region 2 with fail
  generalize ((((w.alloc (.cells #[.int .i64 f, .slice a1 n1 c1, .slice a2 n2 c2, .slice a3 n3 c3, .int .i64 d] 28)).alloc (.cells #[.slice a4 n4 c4, .int .i64 nw, .int .i64 g, .bool bk, .slice a5 n5 c5, .int .i64 nx] 32)).alloc (.cells #[.int .i64 rk, .int .i64 ra, .int .i64 rt, .int .i64 rn, .bool rg, .int .i64 ri, .slice az nz cz] 34)).alloc (.cells #[.slice none 0 0, .int .i64 0, .int .i64 0, .bool false, .slice none 0 0, .int .i64 0] 32)) = V at hB0 hK0 hK1 hK2 hZ0 ⊢
  have HB0 : Hid (Below w.heap.size w V) := hB0
  have HK0 : Hid (Blk V (w.heap.size) #[.int .i64 f, .slice a1 n1 c1, .slice a2 n2 c2, .slice a3 n3 c3, .int .i64 d] 28) := hK0
  have HK1 : Hid (Blk V (w.heap.size + 1) #[.slice a4 n4 c4, .int .i64 nw, .int .i64 g, .bool bk, .slice a5 n5 c5, .int .i64 nx] 32) := hK1
  have HK2 : Hid (Blk V (w.heap.size + 1 + 1) #[.int .i64 rk, .int .i64 ra, .int .i64 rt, .int .i64 rn, .bool rg, .int .i64 ri, .slice az nz cz] 34) := hK2
  have HZ0 : Hid (Blk V (w.heap.size + 1 + 1 + 1) #[.slice none 0 0, .int .i64 0, .int .i64 0, .bool false, .slice none 0 0, .int .i64 0] 32) := hZ0
  clear hB0 hK0 hK1 hK2 hZ0
  have kc0 := HK0.out.cell 0
  have kc1 := HK0.out.cell 1
  have kc2 := HK0.out.cell 2
  have kc3 := HK0.out.cell 3
  have kc4 := HK0.out.cell 4
  simp only [List.getElem?_toArray, List.getElem?_cons_zero, List.getElem?_cons_succ] at kc0 kc1 kc2 kc3 kc4
  have kl0 := HK1.out.cell 0
  have kl1 := HK1.out.cell 1
  have kl2 := HK1.out.cell 2
  have kl3 := HK1.out.cell 3
  have kl4 := HK1.out.cell 4
  have kl5 := HK1.out.cell 5
  simp only [List.getElem?_toArray, List.getElem?_cons_zero, List.getElem?_cons_succ] at kl0 kl1 kl2 kl3 kl4 kl5
  go_wp2_with fail
  refine (HCL.out _ HB0.out).mono ?_
  rintro e w1 ⟨rfl, hb1⟩
  have HB1 : Hid (Below w.heap.size w w1) := HB0.out.trans (hb1.mono HB0.out.size)
  have HC1 : Hid (Blk w1 _ _ _) := HK0.out.below hb1
  have HL1 : Hid (Blk w1 _ _ _) := HK1.out.below hb1
  have HR1 : Hid (Blk w1 _ _ _) := HK2.out.below hb1
  have HZ1 : Hid (Blk w1 _ _ _) := HZ0.out.below hb1
  clear hb1 HB0 HK0 HK1 HK2 HZ0 HCL kc0 kc1 kc2 kc3 kc4 kl0 kl1 kl2 kl3 kl4 kl5
  by_cases x1 : X1 = 0
  rotate_left
  · have HQ : Hid (Q = (Ld.Leader.none, X1)) := F1.out x1
    have x1' : (X1 != 0) = true := by rw [bne_iff_ne]; exact x1
    clear F1 F2 N4 N5 N6 N7 N8 N9 N0 FL FA HCR HFB HIT HIO HPK HPZ HPE HPS HKN HS HC1 HL1 HR1 x1 hpl hi hz0 hz1 hz2 hj hy0 hy1 hy2 hn4 hn5 hnz
    go_wp2_with fail
    refine (lebad_any X1 _).mono ?_
    rintro e w9 ⟨rfl, hb9⟩
    have HB9 : Hid (Below w.heap.size w w9) := HB1.out.trans (hb9.mono HB1.out.size)
    have hz9 := HZ1.out.below hb9
    clear hb9 HB1 HZ1
    have d0 := hz9.cell 0
    have d1 := hz9.cell 1
    have d2 := hz9.cell 2
    have d3 := hz9.cell 3
    have d4 := hz9.cell 4
    have d5 := hz9.cell 5
    simp only [List.getElem?_toArray, List.getElem?_cons_zero, List.getElem?_cons_succ] at d0 d1 d2 d3 d4 d5
    have df0 := hz9.free 0
    have df1 := hz9.free 1
    have df2 := hz9.free 2
    have df3 := hz9.free 3
    have df4 := hz9.free 4
    have df5 := hz9.free 5
    clear hz9
    go_wp2
    refine bodyPost_ret (v := .tuple #[.agg #[.slice none 0 0, .int .i64 0, .int .i64 0, .bool false, .slice none 0 0, .int .i64 0], .int .i64 X1]) (by simp [results, Tryz.results6, go_sem, d0, d1, d2, d3, d4, d5]) rfl ⟨leS_none _ _ HQ.out, ?_⟩
    exact below_six HB9.out (Nat.le_add_right _ 3) _ _ _ _ _ _
  subst x1
  have HTT : Hid (∀ (k : Nat), k < n5 → _) := HIT.out rfl
  have HOO : Hid (∀ (w' : World) (Y' Z' : Value), _) := HIO.out rfl
  have F2' := F2.out rfl
  have N4' := N4.out rfl
  have N5' := N5.out rfl
  have N6' := N6.out rfl
  have N7' := N7.out rfl
  have N8' := N8.out rfl
  have N9' := N9.out rfl
  have N0' := N0.out rfl
  clear F1 F2 N4 N5 N6 N7 N8 N9 N0 HIT HIO
  have HF2 : Hid (¬ X2 = 0 → Q = (Ld.Leader.none, X2)) := F2'
  have G4 : Hid (X2 = 0 → rk = 4 → Q = _) := N4'
  have G5 : Hid (X2 = 0 → rk = 5 → Q = _) := N5'
  have G6 : Hid (X2 = 0 → rk = 6 → Q = _) := N6'
  have G7 : Hid (X2 = 0 → rk = 7 → Q = _) := N7'
  have G8 : Hid (X2 = 0 → rk = 8 → Q = _) := N8'
  have G9 : Hid (X2 = 0 → rk = 9 → Q = _) := N9'
  have G0 : Hid (X2 = 0 → ¬ rk = 4 → ¬ rk = 5 → ¬ rk = 6 → ¬ rk = 7 → ¬ rk = 8 → ¬ rk = 9 → Q = _) := N0'
  obtain ⟨⟨⟨h41, h46⟩, h51, h56⟩, hg0, hx1, hx2⟩ := FL.out rfl
  clear F2' N4' N5' N6' N7' N8' N9' N0' FL
  have kr0 := HR1.out.cell 0
  have kr1 := HR1.out.cell 1
  have kr2 := HR1.out.cell 2
  have kr3 := HR1.out.cell 3
  have kr4 := HR1.out.cell 4
  have kr5 := HR1.out.cell 5
  have kr6 := HR1.out.cell 6
  simp only [List.getElem?_toArray, List.getElem?_cons_zero, List.getElem?_cons_succ] at kr0 kr1 kr2 kr3 kr4 kr5 kr6
  go_wp2_with fail
  refine (HCR.out _ HB1.out).mono ?_
  rintro e w2 ⟨rfl, hb2⟩
  have HB2 : Hid (Below w.heap.size w w2) := HB1.out.trans (hb2.mono HB1.out.size)
  have HC2 : Hid (Blk w2 (w.heap.size) #[.int .i64 f, .slice a1 n1 c1, .slice a2 n2 c2, .slice a3 n3 c3, .int .i64 d] 28) := HC1.out.below hb2
  have HL2 : Hid (Blk w2 (w.heap.size + 1) #[.slice a4 n4 c4, .int .i64 nw, .int .i64 g, .bool bk, .slice a5 n5 c5, .int .i64 nx] 32) := HL1.out.below hb2
  have HR2 : Hid (Blk w2 (w.heap.size + 1 + 1) #[.int .i64 rk, .int .i64 ra, .int .i64 rt, .int .i64 rn, .bool rg, .int .i64 ri, .slice az nz cz] 34) := HR1.out.below hb2
  have HZ2 : Hid (Blk w2 (w.heap.size + 1 + 1 + 1) #[.slice none 0 0, .int .i64 0, .int .i64 0, .bool false, .slice none 0 0, .int .i64 0] 32) := HZ1.out.below hb2
  clear hb2 HB1 HC1 HL1 HR1 HZ1 HCR kr0 kr1 kr2 kr3 kr4 kr5 kr6
  by_cases x2 : X2 = 0
  rotate_left
  · have HQ : Hid (Q = (Ld.Leader.none, X2)) := HF2.out x2
    have x2' : (X2 != 0) = true := by rw [bne_iff_ne]; exact x2
    clear HF2 G4 G5 G6 G7 G8 G9 G0 FA HFB HTT HOO HPK HPZ HPE HPS HKN HS HC2 HL2 HR2 x2 hpl hi hz0 hz1 hz2 hj hy0 hy1 hy2 hn4 hn5 hnz
    go_wp2_with fail
    refine (lebad_any X2 _).mono ?_
    rintro e w9 ⟨rfl, hb9⟩
    have HB9 : Hid (Below w.heap.size w w9) := HB2.out.trans (hb9.mono HB2.out.size)
    have hz9 := HZ2.out.below hb9
    clear hb9 HB2 HZ2
    have d0 := hz9.cell 0
    have d1 := hz9.cell 1
    have d2 := hz9.cell 2
    have d3 := hz9.cell 3
    have d4 := hz9.cell 4
    have d5 := hz9.cell 5
    simp only [List.getElem?_toArray, List.getElem?_cons_zero, List.getElem?_cons_succ] at d0 d1 d2 d3 d4 d5
    have df0 := hz9.free 0
    have df1 := hz9.free 1
    have df2 := hz9.free 2
    have df3 := hz9.free 3
    have df4 := hz9.free 4
    have df5 := hz9.free 5
    clear hz9
    go_wp2
    refine bodyPost_ret (v := .tuple #[.agg #[.slice none 0 0, .int .i64 0, .int .i64 0, .bool false, .slice none 0 0, .int .i64 0], .int .i64 X2]) (by simp [results, Tryz.results6, go_sem, d0, d1, d2, d3, d4, d5]) rfl ⟨leS_none _ _ HQ.out, ?_⟩
    exact below_six HB9.out (Nat.le_add_right _ 3) _ _ _ _ _ _
  subst x2
  have M4' := G4.out rfl
  have M5' := G5.out rfl
  have M6' := G6.out rfl
  have M7' := G7.out rfl
  have M8' := G8.out rfl
  have M9' := G9.out rfl
  have M0' := G0.out rfl
  have hra := FA.out rfl
  clear HF2 G4 G5 G6 G7 G8 G9 G0 FA
  have M4 : Hid (rk = 4 → Q = _) := M4'
  have M5 : Hid (rk = 5 → Q = _) := M5'
  have M6 : Hid (rk = 6 → Q = _) := M6'
  have M7 : Hid (rk = 7 → Q = _) := M7'
  have M8 : Hid (rk = 8 → Q = _) := M8'
  have M9 : Hid (rk = 9 → Q = _) := M9'
  have M0 : Hid (¬ rk = 4 → ¬ rk = 5 → ¬ rk = 6 → ¬ rk = 7 → ¬ rk = 8 → ¬ rk = 9 → Q = _) := M0'
  clear M4' M5' M6' M7' M8' M9' M0'
  obtain ⟨rb, ro, rfl⟩ := rels_addr HPS.out (by omega)
  obtain ⟨kb, ko, rfl⟩ := knows_addr HKN.out (by omega)
  have HRN : Hid (∀ x, Below w2.heap.size w2 x → ∀ j u, (flatL ps)[j]? = some u → x.cell? ((⟨rb, ro, none⟩ : Addr).add j) = some u) := fun x hb => rels_news (HPS.out.below (HB2.out.trans (hb.mono HB2.out.size)))
  have HKW : Hid (∀ x, Below w2.heap.size w2 x → ∀ j u, (flatK ks)[j]? = some u → x.cell? ((⟨kb, ko, none⟩ : Addr).add j) = some u) := fun x hb => knows_news (HKN.out.below (HB2.out.trans (hb.mono HB2.out.size)))
  have HLR : Hid ((flatL ps).length = n4 * 2) := (by show _ = _; rw [flatL_len, hpl])
  have HLK : Hid ((flatK ks).length = n5 * 3) := (by show _ = _; rw [flatK_len, hn5])
  have HOR : Hid (∀ u ∈ flatL ps, u.oneCell' = true) := flatL_one (rels_one HPS.out)
  have HOK : Hid (∀ u ∈ flatK ks, u.oneCell' = true) := flatK_one ks
  have hm4 : n4 ≤ maxLen := (by unfold maxLen; omega)
  have hm5 : n5 ≤ maxLen := (by unfold maxLen; omega)
  have hb4 : n4 * 32 ≤ 140737488355328 := (by omega)
  have hb5 : n5 * 24 ≤ 140737488355328 := (by omega)
  clear HPS HKN hpl hnz
  have hz1' : (Value.agg #[.int .i64 0, .slice none 0 0]).cells.size = 2 := rfl
  have hy1' : (Value.agg #[.int .i64 0, .int .i64 0, .bool false]).cells.size = 3 := rfl
  have H46 : Hid (1 ≤ n4 ∧ n4 ≤ 6) := ⟨h41, h46⟩
  have H56 : Hid (1 ≤ n5 ∧ n5 ≤ 6) := ⟨h51, h56⟩
  go_wp2_with fail
  go_cut [] from 35 (fun wx => Hid (LdY (fun x => S x ∨ w.heap.size ≤ x) wx w.heap.size (w.heap.size + 1) ⟨rs, nw, g, bk, ks, nx⟩) ∧ Hid (Below w.heap.size w wx) ∧ Hid (Blk wx (w.heap.size) #[.int .i64 f, .slice a1 n1 c1, .slice a2 n2 c2, .slice a3 n3 c3, .int .i64 d] 28) ∧ Hid (Blk wx (w.heap.size + 1 + 1) #[.int .i64 rk, .int .i64 ra, .int .i64 rt, .int .i64 rn, .bool rg, .int .i64 ri, .slice az nz cz] 34) ∧ Hid (Blk wx (w.heap.size + 1 + 1 + 1) #[.slice none 0 0, .int .i64 0, .int .i64 0, .bool false, .slice none 0 0, .int .i64 0] 32))
  case first =>
    have hl2 := HL2.out
    have y0 := hl2.cell 0
    have y4 := hl2.cell 4
    simp only [List.getElem?_toArray, List.getElem?_cons_zero, List.getElem?_cons_succ] at y0 y4
    have y0d : w2.drew.cell? ⟨w.heap.size + 1, 0, none⟩ = some (.slice (some ⟨rb, ro, none⟩) n4 c4) := y0
    have y4d : w2.drew.cell? ⟨w.heap.size + 1, 4, none⟩ = some (.slice (some ⟨kb, ko, none⟩) n5 c5) := y4
    have hlt2 : w.heap.size + 1 < w2.heap.size := hl2.lt
    clear hl2
    have S0 : Hid (w2.drew.cell? ⟨w.heap.size + 1, 0, none⟩ = some (.slice (some ⟨rb, ro, none⟩) n4 c4) ∧ w2.drew.cell? ⟨w.heap.size + 1, 4, none⟩ = some (.slice (some ⟨kb, ko, none⟩) n5 c5) ∧ Hid (Below w2.heap.size w2 w2.drew)) := ⟨y0, y4, (Below.refl _ w2).drew⟩
    have KP : Hid (∀ x y : World, Below x.heap.size x y → (x.cell? ⟨w.heap.size + 1, 0, none⟩ = some (.slice (some ⟨rb, ro, none⟩) n4 c4) ∧ x.cell? ⟨w.heap.size + 1, 4, none⟩ = some (.slice (some ⟨kb, ko, none⟩) n5 c5) ∧ Hid (Below w2.heap.size w2 x)) → (y.cell? ⟨w.heap.size + 1, 0, none⟩ = some (.slice (some ⟨rb, ro, none⟩) n4 c4) ∧ y.cell? ⟨w.heap.size + 1, 4, none⟩ = some (.slice (some ⟨kb, ko, none⟩) n5 c5) ∧ Hid (Below w2.heap.size w2 y))) := fun x y hb h => by
      obtain ⟨h1, h2, hB⟩ := h
      have e : ∀ b o v, x.cell? ⟨b, o, none⟩ = some v → y.cell? ⟨b, o, none⟩ = some v := fun b o v hc => (hb.cell (p := ⟨b, o, none⟩) (World.block_lt_of_cell? x _ hc)).trans hc
      exact ⟨e _ _ _ h1, e _ _ _ h2, hB.out.trans (hb.mono hB.out.size)⟩
    have KA : Hid (∀ (x : World) O, Below x.heap.size x (x.alloc O)) := fun x O => al_below x O
    have KD : Hid (∀ (x : World) O, Below x.heap.size x (x.alloc O).drew) := fun x O => ald_below x O
    have SB : Hid (∀ x : World, (x.cell? ⟨w.heap.size + 1, 0, none⟩ = some (.slice (some ⟨rb, ro, none⟩) n4 c4) ∧ x.cell? ⟨w.heap.size + 1, 4, none⟩ = some (.slice (some ⟨kb, ko, none⟩) n5 c5) ∧ Hid (Below w2.heap.size w2 x)) → Below w2.heap.size w2 x) := fun x h => h.2.2.out
    clear M4 M5 M6 M7 M8 M9 M0 HFB HTT HOO HPZ HS hg0 hx1 hx2 hra
    have KDD : Hid (∀ (x : World) O O', Below x.heap.size x ((x.alloc O).alloc O').drew) := fun x O O' => ((al_below x O).trans ((al_below _ O').mono (al_below x O).size)).drew
    have S2 : Hid (w2.cell? ⟨w.heap.size + 1, 0, none⟩ = some (.slice (some ⟨rb, ro, none⟩) n4 c4) ∧ w2.cell? ⟨w.heap.size + 1, 4, none⟩ = some (.slice (some ⟨kb, ko, none⟩) n5 c5) ∧ Hid (Below w2.heap.size w2 w2)) := ⟨y0, y4, (Below.refl _ w2)⟩
    have hS0 : w2.drew.cell? ⟨w.heap.size + 1, 0, none⟩ = some (.slice (some ⟨rb, ro, none⟩) n4 c4) ∧ w2.drew.cell? ⟨w.heap.size + 1, 4, none⟩ = some (.slice (some ⟨kb, ko, none⟩) n5 c5) ∧ Hid (Below w2.heap.size w2 w2.drew) := S0.out
    refine Two.start (S := fun w' => w'.cell? ⟨w.heap.size + 1, 0, none⟩ = some (.slice (some ⟨rb, ro, none⟩) n4 c4) ∧ w'.cell? ⟨w.heap.size + 1, 4, none⟩ = some (.slice (some ⟨kb, ko, none⟩) n5 c5) ∧ Hid (Below w2.heap.size w2 w')) (W := fun j => [9, 10, 11].contains j) (by kernel_rfl) hS0 (fun hHeld => ?_)
    refine Two.take (ws := [9, 10, 11]) (i := 1) (v := ?_) rfl rfl (by kernel_rfl) (by kernel_rfl) (by kernel_rfl) (by kernel_rfl) (by kernel_rfl) (by kernel_rfl) (fun _ _ _ h => h) (Or.inl ⟨by rfl, ?_⟩) (by assumption) ?_
    rotate_left
    · ((intro w' hSw; (try dsimp only at hSw); go_simp) <;> with_reducible rfl)
    simp only [Act.put, List.setIfInBounds_toArray]
    refine Two.take (ws := [9, 10, 11]) (i := 5) (v := ?_) rfl rfl (by kernel_rfl) (by kernel_rfl) (by kernel_rfl) (by kernel_rfl) (by kernel_rfl) (by kernel_rfl) (fun _ _ _ h => h) (Or.inl ⟨by rfl, ?_⟩) (by assumption) ?_
    rotate_left
    · ((intro w' hSw; (try dsimp only at hSw); go_simp) <;> with_reducible rfl)
    simp only [Act.put]
    refine Two.take (ws := [9, 10, 11]) (i := 2) (v := ?_) rfl rfl (by kernel_rfl) (by kernel_rfl) (by kernel_rfl) (by kernel_rfl) (by kernel_rfl) (by kernel_rfl) (fun _ _ _ h => h) (Or.inl ⟨by rfl, ?_⟩) (by assumption) ?_
    rotate_left
    · ((intro w' hSw; (try dsimp only at hSw); go_simp) <;> with_reducible rfl)
    simp only [Act.put]
    refine Two.take (ws := [9, 10, 11]) (i := 6) (v := ?_) rfl rfl (by kernel_rfl) (by kernel_rfl) (by kernel_rfl) (by kernel_rfl) (by kernel_rfl) (by kernel_rfl) (fun _ _ _ h => h) (Or.inl ⟨by rfl, ?_⟩) (by assumption) ?_
    rotate_left
    · ((intro w' hSw; (try dsimp only at hSw); go_simp) <;> with_reducible rfl)
    simp only [Act.put]
    refine Two.two (i := 0) (j := 4) (by kernel_rfl) ?_ ?_
    · skip
      refine Two.stepS rfl (fun K hK => ?_)
      go_simp
      refine hK.out _ _ ?_ (fun hHeld => ?_)
      · (try dsimp only); (first | with_reducible exact KP.out _ _ (by assumption) (by assumption) | with_reducible exact KP.out _ _ (KA.out _ _) (by assumption) | with_reducible exact KP.out _ _ (KD.out _ _) S2.out | with_reducible exact KP.out _ _ (KDD.out _ _ _) S2.out)
      try simp only [Act.put, List.setIfInBounds_toArray, List.set_cons_zero, List.set_cons_succ]
      refine Two.two (i := 3) (j := 4) (by kernel_rfl) ?_ ?_
      · skip
        refine Two.stepS rfl (fun K hK => ?_)
        refine step_copyV w2 (SB.out _ (by assumption)) rfl (.tmp 35) (.tmp 37) 29 rfl 24 i0 _ 2 32 Tryz.underlying29 hi hz0 hz1 hz2 hz1' (by decide) _ (by rfl) ⟨rb, ro, none⟩ n4 c4 (flatL ps) (by rfl) HLR.out HRN.out HOR.out H46.out.1 hm4 hb4 ?_; intro g4 k4 w3 hg4 hgv4 hk4 hkm4 hr4 hcp4 hbz3 hv3; have HX3 : Hid (Below _ _ w3) := hbz3; have HG3 : Hid (_ ≤ g4) := hg4; have HR3 : Hid (Row w3 g4 (flatL ps)) := hr4; have HCP3 : Hid (Cap w3 g4 24 (k4 * 2)) := hcp4; have HV3 : Hid (Below w2.heap.size w2 w3) := hv3; have HGV4 : Hid (w2.heap.size ≤ g4) := hgv4; have hl3 := HL2.out.below hv3; have q3f0 := hl3.free 0; have q3f4 := hl3.free 4; have hlt3 : w.heap.size + 1 < w3.heap.size := hl3.lt; clear hg4 hgv4 hr4 hcp4 hl3 hv3
        refine hK.out _ _ ?_ (fun hHeld => ?_)
        · (try dsimp only); (first | with_reducible exact KP.out _ _ (by assumption) (by assumption) | with_reducible exact KP.out _ _ (KA.out _ _) (by assumption) | with_reducible exact KP.out _ _ (KD.out _ _) S2.out | with_reducible exact KP.out _ _ (KDD.out _ _ _) S2.out)
        try simp only [Act.put, List.setIfInBounds_toArray]
        refine Two.take (ws := [9, 10, 11]) (i := 8) (v := ?_) rfl rfl (by kernel_rfl) (by kernel_rfl) (by kernel_rfl) (by kernel_rfl) (by kernel_rfl) (by kernel_rfl) (fun _ _ _ h => h) (Or.inl ⟨by rfl, ?_⟩) (by assumption) ?_
        rotate_left
        · ((intro w' hSw; (try dsimp only at hSw); go_simp) <;> with_reducible rfl)
        simp only [Act.put]
        refine Two.one (i := 4) (by kernel_rfl) ?_
        refine Two.stepS rfl (fun K hK => ?_)
        go_simp
        refine hK.out _ _ ?_ (fun hHeld => ?_)
        · (try dsimp only); (first | with_reducible exact KP.out _ _ (by assumption) (by assumption) | with_reducible exact KP.out _ _ (KA.out _ _) (by assumption) | with_reducible exact KP.out _ _ (KD.out _ _) S2.out | with_reducible exact KP.out _ _ (KDD.out _ _ _) S2.out)
        try simp only [Act.put, List.setIfInBounds_toArray, List.set_cons_zero, List.set_cons_succ]
        refine Two.one (i := 7) (by kernel_rfl) ?_
        refine Two.stepS rfl (fun K hK => ?_)
        refine step_copyV w2 (SB.out _ (by assumption)) rfl (.tmp 39) (.tmp 41) 30 rfl 54 i1 _ 3 24 Tryz.underlying30 hj hy0 hy1 hy2 hy1' (by decide) _ (by rfl) ⟨kb, ko, none⟩ n5 c5 (flatK ks) (by rfl) HLK.out HKW.out HOK.out H56.out.1 hm5 hb5 ?_; intro g5 k5 w5 hg5 hgv5 hk5 hkm5 hr5 hcp5 hbz5 hv5; have HX5 : Hid (Below _ _ w5) := hbz5; have HG5 : Hid (_ ≤ g5) := hg5; have HR5 : Hid (Row w5 g5 (flatK ks)) := hr5; have HV5 : Hid (Below w2.heap.size w2 w5) := hv5; have HGV5 : Hid (w2.heap.size ≤ g5) := hgv5; have hl5 := HL2.out.below hv5; have q5f0 := hl5.free 0; have q5f4 := hl5.free 4; have hlt5 : w.heap.size + 1 < w5.heap.size := hl5.lt; clear hg5 hgv5 hr5 hcp5 hl5 hv5
        refine hK.out _ _ ?_ (fun hHeld => ?_)
        · (try dsimp only); (first | with_reducible exact KP.out _ _ (by assumption) (by assumption) | with_reducible exact KP.out _ _ (KA.out _ _) (by assumption) | with_reducible exact KP.out _ _ (KD.out _ _) S2.out | with_reducible exact KP.out _ _ (KDD.out _ _ _) S2.out)
        try simp only [Act.put, List.setIfInBounds_toArray]
        refine Two.one (i := 9) (by kernel_rfl) ?_
        refine Two.stepW rfl rfl (fun K hK => ?_)
        go_simp
        refine hK.out _ _ ?_
        try simp only [Act.put, List.setIfInBounds_toArray, List.set_cons_zero, List.set_cons_succ]
        refine Two.one (i := 10) (by kernel_rfl) ?_
        refine Two.stepW rfl rfl (fun K hK => ?_)
        go_simp
        refine hK.out _ _ ?_
        try simp only [Act.put, List.setIfInBounds_toArray, List.set_cons_zero, List.set_cons_succ]
        refine Two.one (i := 11) (by kernel_rfl) ?_
        refine Two.stepW rfl rfl (fun K hK => ?_)
        go_simp
        refine hK.out _ _ ?_
        try simp only [Act.put, List.setIfInBounds_toArray, List.set_cons_zero, List.set_cons_succ]
        refine Two.done (by kernel_rfl) ?_ _
        go_wp2_with fail
        go_meet
        case rel =>
          first
            | with_reducible exact ⟨hid (ldY_rk HL2.out HB2.out HV3.out HGV4.out HR3.out HCP3.out HX5.out HG5.out HR5.out hk4 hk5 hkm4 HPE.out hn4 hn5 H46.out H56.out HPK.out (by first | with_reducible exact Below.refl _ _ | with_reducible exact al_below _ _ | with_reducible exact ald_below _ _)), hid (below_two HB2.out HV3.out (by first | with_reducible exact Below.refl _ _ | with_reducible exact al_below _ _ | with_reducible exact ald_below _ _) HX5.out (Nat.le_succ _) _ _), hid (blk_two HC2.out HV3.out (by first | with_reducible exact Below.refl _ _ | with_reducible exact al_below _ _ | with_reducible exact ald_below _ _) HX5.out (by omega) _ _), hid (blk_two HR2.out HV3.out (by first | with_reducible exact Below.refl _ _ | with_reducible exact al_below _ _ | with_reducible exact ald_below _ _) HX5.out (by omega) _ _), hid (blk_two HZ2.out HV3.out (by first | with_reducible exact Below.refl _ _ | with_reducible exact al_below _ _ | with_reducible exact ald_below _ _) HX5.out (by omega) _ _)⟩
            | with_reducible exact ⟨hid (ldY_kr HL2.out HB2.out HV5.out HGV5.out HR5.out HX3.out HG3.out HR3.out HCP3.out hk4 hk5 hkm4 HPE.out hn4 hn5 H46.out H56.out HPK.out (by first | with_reducible exact Below.refl _ _ | with_reducible exact al_below _ _ | with_reducible exact ald_below _ _)), hid (below_two HB2.out HV5.out (by first | with_reducible exact Below.refl _ _ | with_reducible exact al_below _ _ | with_reducible exact ald_below _ _) HX3.out (Nat.le_succ _) _ _), hid (blk_two HC2.out HV5.out (by first | with_reducible exact Below.refl _ _ | with_reducible exact al_below _ _ | with_reducible exact ald_below _ _) HX3.out (by omega) _ _), hid (blk_two HR2.out HV5.out (by first | with_reducible exact Below.refl _ _ | with_reducible exact al_below _ _ | with_reducible exact ald_below _ _) HX3.out (by omega) _ _), hid (blk_two HZ2.out HV5.out (by first | with_reducible exact Below.refl _ _ | with_reducible exact al_below _ _ | with_reducible exact ald_below _ _) HX3.out (by omega) _ _)⟩
      · skip
        refine Two.stepS rfl (fun K hK => ?_)
        go_simp
        refine hK.out _ _ ?_ (fun hHeld => ?_)
        · (try dsimp only); (first | with_reducible exact KP.out _ _ (by assumption) (by assumption) | with_reducible exact KP.out _ _ (KA.out _ _) (by assumption) | with_reducible exact KP.out _ _ (KD.out _ _) S2.out | with_reducible exact KP.out _ _ (KDD.out _ _ _) S2.out)
        try simp only [Act.put, List.setIfInBounds_toArray, List.set_cons_zero, List.set_cons_succ]
        refine Two.one (i := 3) (by kernel_rfl) ?_
        refine Two.stepS rfl (fun K hK => ?_)
        refine step_copyV w2 (SB.out _ (by assumption)) rfl (.tmp 35) (.tmp 37) 29 rfl 24 i0 _ 2 32 Tryz.underlying29 hi hz0 hz1 hz2 hz1' (by decide) _ (by rfl) ⟨rb, ro, none⟩ n4 c4 (flatL ps) (by rfl) HLR.out HRN.out HOR.out H46.out.1 hm4 hb4 ?_; intro g4 k4 w3 hg4 hgv4 hk4 hkm4 hr4 hcp4 hbz3 hv3; have HX3 : Hid (Below _ _ w3) := hbz3; have HG3 : Hid (_ ≤ g4) := hg4; have HR3 : Hid (Row w3 g4 (flatL ps)) := hr4; have HCP3 : Hid (Cap w3 g4 24 (k4 * 2)) := hcp4; have HV3 : Hid (Below w2.heap.size w2 w3) := hv3; have HGV4 : Hid (w2.heap.size ≤ g4) := hgv4; have hl3 := HL2.out.below hv3; have q3f0 := hl3.free 0; have q3f4 := hl3.free 4; have hlt3 : w.heap.size + 1 < w3.heap.size := hl3.lt; clear hg4 hgv4 hr4 hcp4 hl3 hv3
        refine hK.out _ _ ?_ (fun hHeld => ?_)
        · (try dsimp only); (first | with_reducible exact KP.out _ _ (by assumption) (by assumption) | with_reducible exact KP.out _ _ (KA.out _ _) (by assumption) | with_reducible exact KP.out _ _ (KD.out _ _) S2.out | with_reducible exact KP.out _ _ (KDD.out _ _ _) S2.out)
        try simp only [Act.put, List.setIfInBounds_toArray]
        refine Two.take (ws := [9, 10, 11]) (i := 8) (v := ?_) rfl rfl (by kernel_rfl) (by kernel_rfl) (by kernel_rfl) (by kernel_rfl) (by kernel_rfl) (by kernel_rfl) (fun _ _ _ h => h) (Or.inl ⟨by rfl, ?_⟩) (by assumption) ?_
        rotate_left
        · ((intro w' hSw; (try dsimp only at hSw); go_simp) <;> with_reducible rfl)
        simp only [Act.put]
        refine Two.one (i := 7) (by kernel_rfl) ?_
        refine Two.stepS rfl (fun K hK => ?_)
        refine step_copyV w2 (SB.out _ (by assumption)) rfl (.tmp 39) (.tmp 41) 30 rfl 54 i1 _ 3 24 Tryz.underlying30 hj hy0 hy1 hy2 hy1' (by decide) _ (by rfl) ⟨kb, ko, none⟩ n5 c5 (flatK ks) (by rfl) HLK.out HKW.out HOK.out H56.out.1 hm5 hb5 ?_; intro g5 k5 w5 hg5 hgv5 hk5 hkm5 hr5 hcp5 hbz5 hv5; have HX5 : Hid (Below _ _ w5) := hbz5; have HG5 : Hid (_ ≤ g5) := hg5; have HR5 : Hid (Row w5 g5 (flatK ks)) := hr5; have HV5 : Hid (Below w2.heap.size w2 w5) := hv5; have HGV5 : Hid (w2.heap.size ≤ g5) := hgv5; have hl5 := HL2.out.below hv5; have q5f0 := hl5.free 0; have q5f4 := hl5.free 4; have hlt5 : w.heap.size + 1 < w5.heap.size := hl5.lt; clear hg5 hgv5 hr5 hcp5 hl5 hv5
        refine hK.out _ _ ?_ (fun hHeld => ?_)
        · (try dsimp only); (first | with_reducible exact KP.out _ _ (by assumption) (by assumption) | with_reducible exact KP.out _ _ (KA.out _ _) (by assumption) | with_reducible exact KP.out _ _ (KD.out _ _) S2.out | with_reducible exact KP.out _ _ (KDD.out _ _ _) S2.out)
        try simp only [Act.put]
        refine Two.one (i := 9) (by kernel_rfl) ?_
        refine Two.stepW rfl rfl (fun K hK => ?_)
        go_simp
        refine hK.out _ _ ?_
        try simp only [Act.put, List.setIfInBounds_toArray, List.set_cons_zero, List.set_cons_succ]
        refine Two.one (i := 10) (by kernel_rfl) ?_
        refine Two.stepW rfl rfl (fun K hK => ?_)
        go_simp
        refine hK.out _ _ ?_
        try simp only [Act.put, List.setIfInBounds_toArray, List.set_cons_zero, List.set_cons_succ]
        refine Two.one (i := 11) (by kernel_rfl) ?_
        refine Two.stepW rfl rfl (fun K hK => ?_)
        go_simp
        refine hK.out _ _ ?_
        try simp only [Act.put, List.setIfInBounds_toArray, List.set_cons_zero, List.set_cons_succ]
        refine Two.done (by kernel_rfl) ?_ _
        go_wp2_with fail
        go_meet
        case rel =>
          first
            | with_reducible exact ⟨hid (ldY_rk HL2.out HB2.out HV3.out HGV4.out HR3.out HCP3.out HX5.out HG5.out HR5.out hk4 hk5 hkm4 HPE.out hn4 hn5 H46.out H56.out HPK.out (by first | with_reducible exact Below.refl _ _ | with_reducible exact al_below _ _ | with_reducible exact ald_below _ _)), hid (below_two HB2.out HV3.out (by first | with_reducible exact Below.refl _ _ | with_reducible exact al_below _ _ | with_reducible exact ald_below _ _) HX5.out (Nat.le_succ _) _ _), hid (blk_two HC2.out HV3.out (by first | with_reducible exact Below.refl _ _ | with_reducible exact al_below _ _ | with_reducible exact ald_below _ _) HX5.out (by omega) _ _), hid (blk_two HR2.out HV3.out (by first | with_reducible exact Below.refl _ _ | with_reducible exact al_below _ _ | with_reducible exact ald_below _ _) HX5.out (by omega) _ _), hid (blk_two HZ2.out HV3.out (by first | with_reducible exact Below.refl _ _ | with_reducible exact al_below _ _ | with_reducible exact ald_below _ _) HX5.out (by omega) _ _)⟩
            | with_reducible exact ⟨hid (ldY_kr HL2.out HB2.out HV5.out HGV5.out HR5.out HX3.out HG3.out HR3.out HCP3.out hk4 hk5 hkm4 HPE.out hn4 hn5 H46.out H56.out HPK.out (by first | with_reducible exact Below.refl _ _ | with_reducible exact al_below _ _ | with_reducible exact ald_below _ _)), hid (below_two HB2.out HV5.out (by first | with_reducible exact Below.refl _ _ | with_reducible exact al_below _ _ | with_reducible exact ald_below _ _) HX3.out (Nat.le_succ _) _ _), hid (blk_two HC2.out HV5.out (by first | with_reducible exact Below.refl _ _ | with_reducible exact al_below _ _ | with_reducible exact ald_below _ _) HX3.out (by omega) _ _), hid (blk_two HR2.out HV5.out (by first | with_reducible exact Below.refl _ _ | with_reducible exact al_below _ _ | with_reducible exact ald_below _ _) HX3.out (by omega) _ _), hid (blk_two HZ2.out HV5.out (by first | with_reducible exact Below.refl _ _ | with_reducible exact al_below _ _ | with_reducible exact ald_below _ _) HX3.out (by omega) _ _)⟩
    · skip
      refine Two.stepS rfl (fun K hK => ?_)
      go_simp
      refine hK.out _ _ ?_ (fun hHeld => ?_)
      · (try dsimp only); (first | with_reducible exact KP.out _ _ (by assumption) (by assumption) | with_reducible exact KP.out _ _ (KA.out _ _) (by assumption) | with_reducible exact KP.out _ _ (KD.out _ _) S2.out | with_reducible exact KP.out _ _ (KDD.out _ _ _) S2.out)
      try simp only [Act.put, List.setIfInBounds_toArray, List.set_cons_zero, List.set_cons_succ]
      refine Two.one (i := 0) (by kernel_rfl) ?_
      refine Two.stepS rfl (fun K hK => ?_)
      go_simp
      refine hK.out _ _ ?_ (fun hHeld => ?_)
      · (try dsimp only); (first | with_reducible exact KP.out _ _ (by assumption) (by assumption) | with_reducible exact KP.out _ _ (KA.out _ _) (by assumption) | with_reducible exact KP.out _ _ (KD.out _ _) S2.out | with_reducible exact KP.out _ _ (KDD.out _ _ _) S2.out)
      try simp only [Act.put, List.setIfInBounds_toArray, List.set_cons_zero, List.set_cons_succ]
      refine Two.one (i := 3) (by kernel_rfl) ?_
      refine Two.stepS rfl (fun K hK => ?_)
      refine step_copyV w2 (SB.out _ (by assumption)) rfl (.tmp 35) (.tmp 37) 29 rfl 24 i0 _ 2 32 Tryz.underlying29 hi hz0 hz1 hz2 hz1' (by decide) _ (by rfl) ⟨rb, ro, none⟩ n4 c4 (flatL ps) (by rfl) HLR.out HRN.out HOR.out H46.out.1 hm4 hb4 ?_; intro g4 k4 w3 hg4 hgv4 hk4 hkm4 hr4 hcp4 hbz3 hv3; have HX3 : Hid (Below _ _ w3) := hbz3; have HG3 : Hid (_ ≤ g4) := hg4; have HR3 : Hid (Row w3 g4 (flatL ps)) := hr4; have HCP3 : Hid (Cap w3 g4 24 (k4 * 2)) := hcp4; have HV3 : Hid (Below w2.heap.size w2 w3) := hv3; have HGV4 : Hid (w2.heap.size ≤ g4) := hgv4; have hl3 := HL2.out.below hv3; have q3f0 := hl3.free 0; have q3f4 := hl3.free 4; have hlt3 : w.heap.size + 1 < w3.heap.size := hl3.lt; clear hg4 hgv4 hr4 hcp4 hl3 hv3
      refine hK.out _ _ ?_ (fun hHeld => ?_)
      · (try dsimp only); (first | with_reducible exact KP.out _ _ (by assumption) (by assumption) | with_reducible exact KP.out _ _ (KA.out _ _) (by assumption) | with_reducible exact KP.out _ _ (KD.out _ _) S2.out | with_reducible exact KP.out _ _ (KDD.out _ _ _) S2.out)
      try simp only [Act.put, List.setIfInBounds_toArray]
      refine Two.take (ws := [9, 10, 11]) (i := 8) (v := ?_) rfl rfl (by kernel_rfl) (by kernel_rfl) (by kernel_rfl) (by kernel_rfl) (by kernel_rfl) (by kernel_rfl) (fun _ _ _ h => h) (Or.inl ⟨by rfl, ?_⟩) (by assumption) ?_
      rotate_left
      · ((intro w' hSw; (try dsimp only at hSw); go_simp) <;> with_reducible rfl)
      simp only [Act.put]
      refine Two.one (i := 7) (by kernel_rfl) ?_
      refine Two.stepS rfl (fun K hK => ?_)
      refine step_copyV w2 (SB.out _ (by assumption)) rfl (.tmp 39) (.tmp 41) 30 rfl 54 i1 _ 3 24 Tryz.underlying30 hj hy0 hy1 hy2 hy1' (by decide) _ (by rfl) ⟨kb, ko, none⟩ n5 c5 (flatK ks) (by rfl) HLK.out HKW.out HOK.out H56.out.1 hm5 hb5 ?_; intro g5 k5 w5 hg5 hgv5 hk5 hkm5 hr5 hcp5 hbz5 hv5; have HX5 : Hid (Below _ _ w5) := hbz5; have HG5 : Hid (_ ≤ g5) := hg5; have HR5 : Hid (Row w5 g5 (flatK ks)) := hr5; have HV5 : Hid (Below w2.heap.size w2 w5) := hv5; have HGV5 : Hid (w2.heap.size ≤ g5) := hgv5; have hl5 := HL2.out.below hv5; have q5f0 := hl5.free 0; have q5f4 := hl5.free 4; have hlt5 : w.heap.size + 1 < w5.heap.size := hl5.lt; clear hg5 hgv5 hr5 hcp5 hl5 hv5
      refine hK.out _ _ ?_ (fun hHeld => ?_)
      · (try dsimp only); (first | with_reducible exact KP.out _ _ (by assumption) (by assumption) | with_reducible exact KP.out _ _ (KA.out _ _) (by assumption) | with_reducible exact KP.out _ _ (KD.out _ _) S2.out | with_reducible exact KP.out _ _ (KDD.out _ _ _) S2.out)
      try simp only [Act.put]
      refine Two.one (i := 9) (by kernel_rfl) ?_
      refine Two.stepW rfl rfl (fun K hK => ?_)
      go_simp
      refine hK.out _ _ ?_
      try simp only [Act.put, List.setIfInBounds_toArray, List.set_cons_zero, List.set_cons_succ]
      refine Two.one (i := 10) (by kernel_rfl) ?_
      refine Two.stepW rfl rfl (fun K hK => ?_)
      go_simp
      refine hK.out _ _ ?_
      try simp only [Act.put, List.setIfInBounds_toArray, List.set_cons_zero, List.set_cons_succ]
      refine Two.one (i := 11) (by kernel_rfl) ?_
      refine Two.stepW rfl rfl (fun K hK => ?_)
      go_simp
      refine hK.out _ _ ?_
      try simp only [Act.put, List.setIfInBounds_toArray, List.set_cons_zero, List.set_cons_succ]
      refine Two.done (by kernel_rfl) ?_ _
      go_wp2_with fail
      go_meet
      case rel =>
        first
          | with_reducible exact ⟨hid (ldY_rk HL2.out HB2.out HV3.out HGV4.out HR3.out HCP3.out HX5.out HG5.out HR5.out hk4 hk5 hkm4 HPE.out hn4 hn5 H46.out H56.out HPK.out (by first | with_reducible exact Below.refl _ _ | with_reducible exact al_below _ _ | with_reducible exact ald_below _ _)), hid (below_two HB2.out HV3.out (by first | with_reducible exact Below.refl _ _ | with_reducible exact al_below _ _ | with_reducible exact ald_below _ _) HX5.out (Nat.le_succ _) _ _), hid (blk_two HC2.out HV3.out (by first | with_reducible exact Below.refl _ _ | with_reducible exact al_below _ _ | with_reducible exact ald_below _ _) HX5.out (by omega) _ _), hid (blk_two HR2.out HV3.out (by first | with_reducible exact Below.refl _ _ | with_reducible exact al_below _ _ | with_reducible exact ald_below _ _) HX5.out (by omega) _ _), hid (blk_two HZ2.out HV3.out (by first | with_reducible exact Below.refl _ _ | with_reducible exact al_below _ _ | with_reducible exact ald_below _ _) HX5.out (by omega) _ _)⟩
          | with_reducible exact ⟨hid (ldY_kr HL2.out HB2.out HV5.out HGV5.out HR5.out HX3.out HG3.out HR3.out HCP3.out hk4 hk5 hkm4 HPE.out hn4 hn5 H46.out H56.out HPK.out (by first | with_reducible exact Below.refl _ _ | with_reducible exact al_below _ _ | with_reducible exact ald_below _ _)), hid (below_two HB2.out HV5.out (by first | with_reducible exact Below.refl _ _ | with_reducible exact al_below _ _ | with_reducible exact ald_below _ _) HX3.out (Nat.le_succ _) _ _), hid (blk_two HC2.out HV5.out (by first | with_reducible exact Below.refl _ _ | with_reducible exact al_below _ _ | with_reducible exact ald_below _ _) HX3.out (by omega) _ _), hid (blk_two HR2.out HV5.out (by first | with_reducible exact Below.refl _ _ | with_reducible exact al_below _ _ | with_reducible exact ald_below _ _) HX3.out (by omega) _ _), hid (blk_two HZ2.out HV5.out (by first | with_reducible exact Below.refl _ _ | with_reducible exact al_below _ _ | with_reducible exact ald_below _ _) HX3.out (by omega) _ _)⟩

  case rest =>
  obtain ⟨HW, HB, HCc, HRc, HZc⟩ := hcut
  clear HB2 HC2 HL2 HR2 HZ2 HRN HKW HLR HLK HOR HOK hm4 hm5 hb4 hb5 hz1' hy1' HPK HPE hj hy0 hy1 hy2
  obtain ⟨g4, k4, g5, k5, hblk, hld⟩ := HW.out.ld
  simp only [hn4, hn5] at hblk hld
  have HLD : Hid (LdAt wc ⟨rs, nw, g, bk, ks, nx⟩ (.slice (some ⟨g4, 0, none⟩) n4 k4) (.slice (some ⟨g5, 0, none⟩) n5 k5)) := hld
  have HBK : Hid (Blk wc (w.heap.size + 1) #[.slice (some ⟨g4, 0, none⟩) n4 k4, .int .i64 nw, .int .i64 g, .bool bk, .slice (some ⟨g5, 0, none⟩) n5 k5, .int .i64 nx] 32) := hblk
  clear hld
  have b0 := hblk.cell 0
  have b1 := hblk.cell 1
  have b2 := hblk.cell 2
  have b3 := hblk.cell 3
  have b4 := hblk.cell 4
  have b5 := hblk.cell 5
  simp only [List.getElem?_toArray, List.getElem?_cons_zero, List.getElem?_cons_succ] at b0 b1 b2 b3 b4 b5
  have bf0 := hblk.free 0
  have bf1 := hblk.free 1
  have bf2 := hblk.free 2
  have bf3 := hblk.free 3
  have bf4 := hblk.free 4
  have bf5 := hblk.free 5
  have r0 := HRc.out.cell 0
  have r1 := HRc.out.cell 1
  have r2 := HRc.out.cell 2
  have r3 := HRc.out.cell 3
  have r4 := HRc.out.cell 4
  have r5 := HRc.out.cell 5
  have r6 := HRc.out.cell 6
  simp only [List.getElem?_toArray, List.getElem?_cons_zero, List.getElem?_cons_succ] at r0 r1 r2 r3 r4 r5 r6
  have hltc : w.heap.size + 1 + 1 + 1 < wc.heap.size := HZc.out.lt
  have hltc0 : w.heap.size < wc.heap.size := by omega
  have hltc1 : w.heap.size + 1 < wc.heap.size := by omega
  have hltc2 : w.heap.size + 1 + 1 < wc.heap.size := by omega
  have hn4i : (n4 : Int) ≤ 6 := by omega
  clear hblk
  have HBc : Hid (Below w.heap.size w wc) := HB
  have HWc : Hid (LdY (fun x => S x ∨ w.heap.size ≤ x) wc w.heap.size (w.heap.size + 1) ⟨rs, nw, g, bk, ks, nx⟩) := HW
  have HBKc : Hid (Blk wc (w.heap.size + 1) #[.slice (some ⟨g4, 0, none⟩) n4 k4, .int .i64 nw, .int .i64 g, .bool bk, .slice (some ⟨g5, 0, none⟩) n5 k5, .int .i64 nx] 32) := HBK
  have hBg : w.heap.size ≤ g4 ∧ w.heap.size ≤ g5 ∧ g4 < wc.heap.size ∧ g5 < wc.heap.size ∧ w.heap.size + 1 ≠ g4 ∧ w.heap.size + 1 ≠ g5 := by
    obtain ⟨-, g5', k5', qs, hx, -, e1, e2, -, e3, e4, -, -, -, -, -, -, e5, -, -, -, -, e6⟩ := HW.out.at0 b0
    have := hx.cell 4
    rw [b4] at this
    simp only [List.getElem?_toArray, List.getElem?_cons_zero, List.getElem?_cons_succ, Option.some.injEq, Value.slice.injEq, Addr.mk.injEq] at this
    obtain ⟨⟨rfl, -, -⟩, -, -⟩ := this
    exact ⟨e1, e2, e5.1, e6.1, e3, e4⟩
  have hz5 : g5 ≠ w.heap.size + 1 + 1 + 1 := fun e => by
    obtain ⟨-, -, -, h5, -⟩ := HW.out.agentAt (k := 0) (by show 0 < ks.length; omega) b4
    have hz := HZc.out.cell 0
    simp only [List.getElem?_toArray, List.getElem?_cons_zero] at hz
    rw [e, Nat.zero_mul, hz] at h5
    cases h5
  have hz4 : g4 ≠ w.heap.size + 1 + 1 + 1 := fun e => by
    obtain ⟨-, _, _, qs, -, -, -, -, -, -, -, -, -, -, -, -, -, e5, -, -, hq, -, -⟩ := HW.out.at0 b0
    have hz := HZc.out.cell 0
    simp only [List.getElem?_toArray, List.getElem?_cons_zero] at hz
    have hql := qs_len hq
    cases qs with
    | nil => simp only [List.length_nil] at hql; omega
    | cons q t =>
      have := e5.2.2 0 (.int .i64 q.1.1) rfl
      rw [e, hz] at this
      cases this
  have HG5 : Hid (g5 ≠ w.heap.size + 1 + 1 + 1) := hz5
  have HG4 : Hid (g4 ≠ w.heap.size + 1 + 1 + 1) := hz4
  clear hz4 hz5
  have HGG : Hid (w.heap.size ≤ g4 ∧ w.heap.size ≤ g5 ∧ g4 < wc.heap.size ∧ g5 < wc.heap.size ∧ w.heap.size + 1 ≠ g4 ∧ w.heap.size + 1 ≠ g5) := hBg
  clear HB HW HBK hBg
  by_cases e4 : rk = 4
  · subst e4
    have HQ0 : Hid (Q = _) := M4.out rfl
    clear M4 M5 M6 M7 M8 M9 M0 
    clear HTT HOO HLD hg0 hx1 hx2 hra
    have kc0 := HCc.out.cell 0
    have kc1 := HCc.out.cell 1
    have kc2 := HCc.out.cell 2
    have kc3 := HCc.out.cell 3
    have kc4 := HCc.out.cell 4
    simp only [List.getElem?_toArray, List.getElem?_cons_zero, List.getElem?_cons_succ] at kc0 kc1 kc2 kc3 kc4
    go_wp2_with fail
    refine (HFB.out _ HBc.out).mono ?_
    rintro e wf ⟨rfl, hb⟩
    have hltf : w.heap.size + 1 + 1 + 1 < wf.heap.size := Nat.lt_of_lt_of_le hltc hb.size
    clear HCc HFB kc0 kc1 kc2 kc3 kc4 b0 b1 b2 b3 b4 b5 bf0 bf1 bf2 bf3 bf4 bf5 r0 r1 r2 r3 r4 r5 r6
    have HBKf : Hid (Blk wf _ _ _) := HBKc.out.below hb
    have HRf : Hid (Blk wf _ _ _) := HRc.out.below hb
    have HZf : Hid (Blk wf _ _ _) := HZc.out.below hb
    have HWf : Hid (LdY (fun x => S x ∨ w.heap.size ≤ x) wf w.heap.size (w.heap.size + 1) ⟨rs, nw, g, bk, ks, nx⟩) := HWc.out.below hb
    have HBf : Hid (Below w.heap.size w wf) := HBc.out.trans (hb.mono HBc.out.size)
    clear hb HBKc HRc HZc HWc HBc
    have b0 := HBKf.out.cell 0
    have b1 := HBKf.out.cell 1
    have b2 := HBKf.out.cell 2
    have b3 := HBKf.out.cell 3
    have b4 := HBKf.out.cell 4
    have b5 := HBKf.out.cell 5
    simp only [List.getElem?_toArray, List.getElem?_cons_zero, List.getElem?_cons_succ] at b0 b1 b2 b3 b4 b5
    have bf0 := HBKf.out.free 0
    have bf1 := HBKf.out.free 1
    have bf2 := HBKf.out.free 2
    have bf3 := HBKf.out.free 3
    have bf4 := HBKf.out.free 4
    have bf5 := HBKf.out.free 5
    have r0 := HRf.out.cell 0
    have r1 := HRf.out.cell 1
    have r2 := HRf.out.cell 2
    have r3 := HRf.out.cell 3
    have r4 := HRf.out.cell 4
    have r5 := HRf.out.cell 5
    have r6 := HRf.out.cell 6
    simp only [List.getElem?_toArray, List.getElem?_cons_zero, List.getElem?_cons_succ] at r0 r1 r2 r3 r4 r5 r6
    by_cases e1 : n4 = 6
    · have HQ : Hid (Q = (Ld.Leader.none, 2)) := by
        show Q = _
        rw [HQ0.out, if_pos e1]
      have e1' : ((n4 : Int) == 6) = true := by rw [e1]; rfl
      clear HQ0 HWf HRf HBKf HPZ HGG e1 hn4 hn5 hi hz0 hz1 hz2
      go_wp2_with fail
      refine (lebad_any 2 _).mono ?_
      rintro e w9 ⟨rfl, hb9⟩
      have HB9 : Hid (Below w.heap.size w w9) := HBf.out.trans (hb9.mono HBf.out.size)
      have hz9 := HZf.out.below hb9
      clear hb9 HBf HZf
      have d0 := hz9.cell 0
      have d1 := hz9.cell 1
      have d2 := hz9.cell 2
      have d3 := hz9.cell 3
      have d4 := hz9.cell 4
      have d5 := hz9.cell 5
      simp only [List.getElem?_toArray, List.getElem?_cons_zero, List.getElem?_cons_succ] at d0 d1 d2 d3 d4 d5
      have df0 := hz9.free 0
      have df1 := hz9.free 1
      have df2 := hz9.free 2
      have df3 := hz9.free 3
      have df4 := hz9.free 4
      have df5 := hz9.free 5
      clear hz9
      go_wp2
      refine bodyPost_ret (v := .tuple #[.agg #[.slice none 0 0, .int .i64 0, .int .i64 0, .bool false, .slice none 0 0, .int .i64 0], .int .i64 2]) (by simp [results, Tryz.results6, go_sem, d0, d1, d2, d3, d4, d5]) rfl ⟨leS_none _ _ HQ.out, ?_⟩
      exact below_six HB9.out (Nat.le_add_right _ 3) _ _ _ _ _ _
    have e1' : ((n4 : Int) == 6) = false := by simp only [beq_eq_false_iff_ne]; omega
    by_cases e2 : ri = n4 + 1
    rotate_left
    · have HQ : Hid (Q = (Ld.Leader.none, 7)) := by
        show Q = _
        rw [HQ0.out, if_neg e1, if_neg e2]
      have e2' : (ri != (n4 : Int) + 1) = true := by rw [bne_iff_ne]; exact e2
      clear HQ0 HWf HRf HBKf HPZ HGG e1 e2 hn4 hn5 hi hz0 hz1 hz2
      go_wp2_with fail
      refine (lebad_any 7 _).mono ?_
      rintro e w9 ⟨rfl, hb9⟩
      have HB9 : Hid (Below w.heap.size w w9) := HBf.out.trans (hb9.mono HBf.out.size)
      have hz9 := HZf.out.below hb9
      clear hb9 HBf HZf
      have d0 := hz9.cell 0
      have d1 := hz9.cell 1
      have d2 := hz9.cell 2
      have d3 := hz9.cell 3
      have d4 := hz9.cell 4
      have d5 := hz9.cell 5
      simp only [List.getElem?_toArray, List.getElem?_cons_zero, List.getElem?_cons_succ] at d0 d1 d2 d3 d4 d5
      have df0 := hz9.free 0
      have df1 := hz9.free 1
      have df2 := hz9.free 2
      have df3 := hz9.free 3
      have df4 := hz9.free 4
      have df5 := hz9.free 5
      clear hz9
      go_wp2
      refine bodyPost_ret (v := .tuple #[.agg #[.slice none 0 0, .int .i64 0, .int .i64 0, .bool false, .slice none 0 0, .int .i64 0], .int .i64 7]) (by simp [results, Tryz.results6, go_sem, d0, d1, d2, d3, d4, d5]) rfl ⟨leS_none _ _ HQ.out, ?_⟩
      exact below_six HB9.out (Nat.le_add_right _ 3) _ _ _ _ _ _
    have e2' : (ri != (n4 : Int) + 1) = false := by simp [e2]
    by_cases e3 : 0 ≤ BRK
    · have HQ : Hid (Q = (Ld.Leader.none, 8)) := by
        show Q = _
        rw [HQ0.out, if_neg e1, if_pos e2, if_pos e3]
      have e3' : decide ((0 : Int) ≤ BRK) = true := decide_eq_true e3
      clear HQ0 HWf HRf HBKf HPZ HGG e1 e2 hn4 hn5 hi hz0 hz1 hz2
      go_wp2_with fail
      refine (lebad_any 8 _).mono ?_
      rintro e w9 ⟨rfl, hb9⟩
      have HB9 : Hid (Below w.heap.size w w9) := HBf.out.trans (hb9.mono HBf.out.size)
      have hz9 := HZf.out.below hb9
      clear hb9 HBf HZf
      have d0 := hz9.cell 0
      have d1 := hz9.cell 1
      have d2 := hz9.cell 2
      have d3 := hz9.cell 3
      have d4 := hz9.cell 4
      have d5 := hz9.cell 5
      simp only [List.getElem?_toArray, List.getElem?_cons_zero, List.getElem?_cons_succ] at d0 d1 d2 d3 d4 d5
      have df0 := hz9.free 0
      have df1 := hz9.free 1
      have df2 := hz9.free 2
      have df3 := hz9.free 3
      have df4 := hz9.free 4
      have df5 := hz9.free 5
      clear hz9
      go_wp2
      refine bodyPost_ret (v := .tuple #[.agg #[.slice none 0 0, .int .i64 0, .int .i64 0, .bool false, .slice none 0 0, .int .i64 0], .int .i64 8]) (by simp [results, Tryz.results6, go_sem, d0, d1, d2, d3, d4, d5]) rfl ⟨leS_none _ _ HQ.out, ?_⟩
      exact below_six HB9.out (Nat.le_add_right _ 3) _ _ _ _ _ _
    have e3' : decide ((0 : Int) ≤ BRK) = false := decide_eq_false e3
    have HQ : Hid (Q = (⟨rs ++ [(ri, lk)], nw, g, bk, ks, nx⟩, 0)) := by
      show Q = _
      rw [HQ0.out, if_neg e1, if_pos e2, if_neg e3]
    clear HQ0 e2
    have hn16 : n4 + 1 ≤ 6 := by omega
    have hal := al_below wf (.cells #[.int .i64 ri, .slice az nz cz] 24)
    have hyk : Keep (fun x => (S x ∨ w.heap.size ≤ x) ∨ x = w.heap.size + 1 ∨ x = g4 ∨ x = g5) (fun w => PinsAt w (.slice az nz cz) lk) (wf.alloc (.cells #[.int .i64 ri, .slice az nz cz] 24)) := Keep.grow HPZ.out (HBf.out.trans (hal.mono HBf.out.size)) (fun x hx => by
      rcases hx with (hx | hx) | hx | hx | hx
      · exact .inl hx
      · exact .inr hx
      · exact .inr (by omega)
      · exact .inr (hx ▸ HGG.out.1)
      · exact .inr (hx ▸ HGG.out.2.1))
    have hwa := HWf.out.below hal
    have hba0 := (hal.cell (p := ⟨w.heap.size + 1, 0, none⟩) (Nat.lt_of_le_of_lt (Nat.le_add_right _ 2) hltf)).trans b0
    have hba4 := (hal.cell (p := ⟨w.heap.size + 1, 4, none⟩) (Nat.lt_of_le_of_lt (Nat.le_add_right _ 2) hltf)).trans b4
    obtain ⟨qs, hrow, hql, hqo, hgr⟩ := hwa.pubGrow (i := ri) (y := .slice az nz cz) (lk := lk) hba0 hn16 (World.block_lt_of_cell? _ _ hba0) hba4 hyk
    have HGR : Hid (∀ (w3 : World) (v' : Value), _) := hgr
    have HRM : Hid (n4 + 1 ≤ k4 → LdY (fun x => S x ∨ w.heap.size ≤ x) ((((wf.alloc (.cells #[.int .i64 ri, .slice az nz cz] 24)).setCell ⟨g4, n4 * 2, none⟩ (.int .i64 ri)).setCell ⟨g4, n4 * 2 + 1, none⟩ (.slice az nz cz)).setCell ⟨w.heap.size + 1, 0, none⟩ (.slice (some ⟨g4, 0, none⟩) (n4 + 1) k4)) w.heap.size (w.heap.size + 1) ⟨rs ++ [(ri, lk)], nw, g, bk, ks, nx⟩) := fun hr => hwa.pubRoom hba0 hr hn16 hba4 hyk
    have HROW : Hid (∀ j u, (flatL qs)[j]? = some u → (wf.alloc (.cells #[.int .i64 ri, .slice az nz cz] 24)).cell? ⟨g4, 0 + j, none⟩ = some u) := fun j u hj => by rw [Nat.zero_add]; exact hrow.2.2 j u hj
    have HQL : Hid ((flatL qs).length = n4 * 2) := by show _ = _; rw [flatL_len, hql]
    have HSP : Hid (n4 + 1 ≤ k4 → ∀ j, j < ([.int .i64 ri, .slice az nz cz] : List Value).length → ((wf.alloc (.cells #[.int .i64 ri, .slice az nz cz] 24)).cell? ⟨g4, 0 + n4 * 2 + j, none⟩).isSome = true ∧ (wf.alloc (.cells #[.int .i64 ri, .slice az nz cz] 24)).frozen? ⟨g4, 0 + n4 * 2 + j, none⟩ = false) := fun hr j hj => by
      obtain ⟨-, _, _, _, -, -, -, -, -, -, -, -, -, -, -, -, -, -, hcp, -, -, -, -⟩ := hwa.at0 hba0
      obtain ⟨u, hu⟩ := cap_cell hcp (i := 0 + n4 * 2 + j) (by simp at hj; omega)
      exact ⟨by rw [hu]; rfl, hrow.2.1 _⟩
    have HONE : Hid (∀ u ∈ ([.int .i64 ri, .slice az nz cz] : List Value), u.oneCell' = true) := by
      intro u hu
      simp only [List.mem_cons, List.not_mem_nil, or_false] at hu
      rcases hu with rfl | rfl <;> rfl
    have HNEW : Hid (∀ j u, ([.int .i64 ri, .slice az nz cz] : List Value)[j]? = some u → (wf.alloc (.cells #[.int .i64 ri, .slice az nz cz] 24)).cell? ((⟨wf.heap.size, 0, none⟩ : Addr).add j) = some u) := news2 _ _ _ _
    have HBa : Hid (Below w.heap.size w (wf.alloc (.cells #[.int .i64 ri, .slice az nz cz] 24))) := HBf.out.trans (hal.mono HBf.out.size)
    have HZa : Hid (Blk (wf.alloc (.cells #[.int .i64 ri, .slice az nz cz] 24)) (w.heap.size + 1 + 1 + 1) #[.slice none 0 0, .int .i64 0, .int .i64 0, .bool false, .slice none 0 0, .int .i64 0] 32) := HZf.out.below hal
    have HBKa : Hid (Blk (wf.alloc (.cells #[.int .i64 ri, .slice az nz cz] 24)) (w.heap.size + 1) #[.slice (some ⟨g4, 0, none⟩) n4 k4, .int .i64 nw, .int .i64 g, .bool bk, .slice (some ⟨g5, 0, none⟩) n5 k5, .int .i64 nx] 32) := HBKf.out.below hal
    have hnx4 : n4 + 1 ≤ maxLen := by unfold maxLen; omega
    have hnb4 : (n4 + 1) * 32 ≤ 140737488355328 := by omega
    clear hal hyk hwa hrow hgr hql hqo hba0 hba4 HWf HRf HBKf HPZ HBf HZf e1
    go_wp2_with (at_builtin; refine wpList_append_arg _ rfl (.tmp 91) (.tmp 94) 29 rfl 24 i0 _ 2 32 Tryz.underlying29 hi hz0 hz1 hz2 rfl (by decide) g4 0 n4 k4 (flatL qs) rfl HQL.out HROW.out ⟨wf.heap.size, 0, none⟩ 1 1 [.int .i64 ri, .slice az nz cz] rfl rfl HNEW.out HONE.out HSP.out hnx4 hnb4 ?c1 ?c2)
    case c1 =>
      intro hr
      simp only [World.setCells]
      have HRX := HRM.out hr
      have hBX : Below w.heap.size w (((wf.alloc (.cells #[.int .i64 ri, .slice az nz cz] 24)).setCell ⟨g4, n4 * 2, none⟩ (.int .i64 ri)).setCell ⟨g4, n4 * 2 + 1, none⟩ (.slice az nz cz)) := (HBa.out.setCell (p := ⟨g4, n4 * 2, none⟩) HGG.out.1 _).setCell (p := ⟨g4, n4 * 2 + 1, none⟩) HGG.out.1 _
      have hZX : Blk (((wf.alloc (.cells #[.int .i64 ri, .slice az nz cz] 24)).setCell ⟨g4, n4 * 2, none⟩ (.int .i64 ri)).setCell ⟨g4, n4 * 2 + 1, none⟩ (.slice az nz cz)) (w.heap.size + 1 + 1 + 1) #[.slice none 0 0, .int .i64 0, .int .i64 0, .bool false, .slice none 0 0, .int .i64 0] 32 := (HZa.out.off HG4.out).off HG4.out
      have hKX := (HBKa.out.off (g := g4) (fun e => HGG.out.2.2.2.2.1 e.symm) (o := n4 * 2) (u := .int .i64 ri)).off (g := g4) (fun e => HGG.out.2.2.2.2.1 e.symm) (o := n4 * 2 + 1) (u := .slice az nz cz)
      have HX1 : Hid (LdY _ _ _ _ _) := HRX
      have HX2 : Hid (Below _ _ _) := hBX
      have HX3 : Hid (Blk _ _ _ _) := hZX
      clear HRX hBX hZX HRM HGR HROW HQL HSP HONE HNEW HBa HZa HBKa b0 b1 b2 b3 b4 b5 bf0 bf1 bf2 bf3 bf4 bf5 r0 r1 r2 r3 r4 r5 r6
      generalize (((wf.alloc (.cells #[.int .i64 ri, .slice az nz cz] 24)).setCell ⟨g4, n4 * 2, none⟩ (.int .i64 ri)).setCell ⟨g4, n4 * 2 + 1, none⟩ (.slice az nz cz)) = X at HX1 HX2 HX3 hKX ⊢
      have b0 := hKX.cell 0
      have b1 := hKX.cell 1
      have b2 := hKX.cell 2
      have b3 := hKX.cell 3
      have b4 := hKX.cell 4
      have b5 := hKX.cell 5
      simp only [List.getElem?_toArray, List.getElem?_cons_zero, List.getElem?_cons_succ] at b0 b1 b2 b3 b4 b5
      have bf0 := hKX.free 0
      have bf1 := hKX.free 1
      have bf2 := hKX.free 2
      have bf3 := hKX.free 3
      have bf4 := hKX.free 4
      have bf5 := hKX.free 5
      clear hKX
      go_upto_region 58 with fail
      have HXB : Hid (Below w.heap.size w (X.setCell ⟨w.heap.size + 1, 0, none⟩ (.slice (some ⟨g4, 0, none⟩) (n4 + 1) k4))) := HX2.out.setCell (p := ⟨w.heap.size + 1, 0, none⟩) (Nat.le_succ _) _
      have HXZ : Hid (Blk (X.setCell ⟨w.heap.size + 1, 0, none⟩ (.slice (some ⟨g4, 0, none⟩) (n4 + 1) k4)) (w.heap.size + 1 + 1 + 1) #[.slice none 0 0, .int .i64 0, .int .i64 0, .bool false, .slice none 0 0, .int .i64 0] 32) := HX3.out.off (by omega)
      clear HX2 HX3 b0 b1 b2 b3 b4 b5 bf0 bf1 bf2 bf3 bf4 bf5
      generalize (X.setCell ⟨w.heap.size + 1, 0, none⟩ (.slice (some ⟨g4, 0, none⟩) (n4 + 1) k4)) = U at HX1 HXB HXZ ⊢
      obtain ⟨g4', k4', g5', k5', hblk', hans'⟩ := HX1.out.told HXZ.out (Nat.le_add_right _ 3) HS.out
      simp only [hn4, hn5, List.length_append, List.length_cons, List.length_nil, Nat.zero_add] at hblk' hans'
      have HANS : Hid (∀ v0 v1 v2 v3 v4 v5, _) := hans'
      clear hans'
      have b0 := hblk'.cell 0
      have b1 := hblk'.cell 1
      have b2 := hblk'.cell 2
      have b3 := hblk'.cell 3
      have b4 := hblk'.cell 4
      have b5 := hblk'.cell 5
      simp only [List.getElem?_toArray, List.getElem?_cons_zero, List.getElem?_cons_succ] at b0 b1 b2 b3 b4 b5
      clear hblk'
      have d0 := HXZ.out.cell 0
      have d1 := HXZ.out.cell 1
      have d2 := HXZ.out.cell 2
      have d3 := HXZ.out.cell 3
      have d4 := HXZ.out.cell 4
      have d5 := HXZ.out.cell 5
      simp only [List.getElem?_toArray, List.getElem?_cons_zero, List.getElem?_cons_succ] at d0 d1 d2 d3 d4 d5
      have df0 := HXZ.out.free 0
      have df1 := HXZ.out.free 1
      have df2 := HXZ.out.free 2
      have df3 := HXZ.out.free 3
      have df4 := HXZ.out.free 4
      have df5 := HXZ.out.free 5
      clear HXZ
      go_wp2
      refine bodyPost_ret (v := .tuple #[.agg #[.slice (some ⟨g4', 0, none⟩) (n4 + 1) k4', .int .i64 nw, .int .i64 g, .bool bk, .slice (some ⟨g5', 0, none⟩) n5 k5', .int .i64 (nx)], .int .i64 0]) (by simp [results, Tryz.results6, go_sem, d0, d1, d2, d3, d4, d5]) rfl ⟨?_, ?_⟩
      · rw [HQ.out]
        exact HANS.out _ _ _ _ _ _
      · exact below_six HXB.out (Nat.le_add_right _ 3) _ _ _ _ _ _
    case c2 =>
      intro hr v' w3 hown hgrow
      have hb3 := (Below.refl _ (wf.alloc (.cells #[.int .i64 ri, .slice az nz cz] 24))).grown hgrow (Nat.le_refl _) (fun q hq => by cases hq)
      obtain ⟨g4', k4', rfl, z0, zf0, hL⟩ := HGR.out w3 v' (by rw [World.size_alloc]; exact hown) hb3
      have HX1 : Hid (LdY (fun x => S x ∨ w.heap.size ≤ x) (w3.setCell ⟨w.heap.size + 1, 0, none⟩ (.slice (some ⟨g4', 0, none⟩) (n4 + 1) k4')) w.heap.size (w.heap.size + 1) ⟨rs ++ [(ri, lk)], nw, g, bk, ks, nx⟩) := hL
      have HX2 : Hid (Below w.heap.size w w3) := HBa.out.trans (hb3.mono HBa.out.size)
      have HX3 : Hid (Blk w3 (w.heap.size + 1 + 1 + 1) #[.slice none 0 0, .int .i64 0, .int .i64 0, .bool false, .slice none 0 0, .int .i64 0] 32) := HZa.out.below hb3
      have hKX := HBKa.out.below hb3
      clear hown hgrow hb3 hL HRM HGR HROW HQL HSP HONE HNEW HBa HZa HBKa b0 b1 b2 b3 b4 b5 bf0 bf1 bf2 bf3 bf4 bf5 r0 r1 r2 r3 r4 r5 r6 z0 zf0
      have b0 := hKX.cell 0
      have b1 := hKX.cell 1
      have b2 := hKX.cell 2
      have b3 := hKX.cell 3
      have b4 := hKX.cell 4
      have b5 := hKX.cell 5
      simp only [List.getElem?_toArray, List.getElem?_cons_zero, List.getElem?_cons_succ] at b0 b1 b2 b3 b4 b5
      have bf0 := hKX.free 0
      have bf1 := hKX.free 1
      have bf2 := hKX.free 2
      have bf3 := hKX.free 3
      have bf4 := hKX.free 4
      have bf5 := hKX.free 5
      clear hKX
      go_upto_region 58 with fail
      have HXB : Hid (Below w.heap.size w (w3.setCell ⟨w.heap.size + 1, 0, none⟩ (.slice (some ⟨g4', 0, none⟩) (n4 + 1) k4'))) := HX2.out.setCell (p := ⟨w.heap.size + 1, 0, none⟩) (Nat.le_succ _) _
      have HXZ : Hid (Blk (w3.setCell ⟨w.heap.size + 1, 0, none⟩ (.slice (some ⟨g4', 0, none⟩) (n4 + 1) k4')) (w.heap.size + 1 + 1 + 1) #[.slice none 0 0, .int .i64 0, .int .i64 0, .bool false, .slice none 0 0, .int .i64 0] 32) := HX3.out.off (by omega)
      clear HX2 HX3 b0 b1 b2 b3 b4 b5 bf0 bf1 bf2 bf3 bf4 bf5
      generalize (w3.setCell ⟨w.heap.size + 1, 0, none⟩ (.slice (some ⟨g4', 0, none⟩) (n4 + 1) k4')) = U at HX1 HXB HXZ ⊢
      obtain ⟨g4', k4', g5', k5', hblk', hans'⟩ := HX1.out.told HXZ.out (Nat.le_add_right _ 3) HS.out
      simp only [hn4, hn5, List.length_append, List.length_cons, List.length_nil, Nat.zero_add] at hblk' hans'
      have HANS : Hid (∀ v0 v1 v2 v3 v4 v5, _) := hans'
      clear hans'
      have b0 := hblk'.cell 0
      have b1 := hblk'.cell 1
      have b2 := hblk'.cell 2
      have b3 := hblk'.cell 3
      have b4 := hblk'.cell 4
      have b5 := hblk'.cell 5
      simp only [List.getElem?_toArray, List.getElem?_cons_zero, List.getElem?_cons_succ] at b0 b1 b2 b3 b4 b5
      clear hblk'
      have d0 := HXZ.out.cell 0
      have d1 := HXZ.out.cell 1
      have d2 := HXZ.out.cell 2
      have d3 := HXZ.out.cell 3
      have d4 := HXZ.out.cell 4
      have d5 := HXZ.out.cell 5
      simp only [List.getElem?_toArray, List.getElem?_cons_zero, List.getElem?_cons_succ] at d0 d1 d2 d3 d4 d5
      have df0 := HXZ.out.free 0
      have df1 := HXZ.out.free 1
      have df2 := HXZ.out.free 2
      have df3 := HXZ.out.free 3
      have df4 := HXZ.out.free 4
      have df5 := HXZ.out.free 5
      clear HXZ
      go_wp2
      refine bodyPost_ret (v := .tuple #[.agg #[.slice (some ⟨g4', 0, none⟩) (n4 + 1) k4', .int .i64 nw, .int .i64 g, .bool bk, .slice (some ⟨g5', 0, none⟩) n5 k5', .int .i64 (nx)], .int .i64 0]) (by simp [results, Tryz.results6, go_sem, d0, d1, d2, d3, d4, d5]) rfl ⟨?_, ?_⟩
      · rw [HQ.out]
        exact HANS.out _ _ _ _ _ _
      · exact below_six HXB.out (Nat.le_add_right _ 3) _ _ _ _ _ _
  by_cases e5 : rk = 5
  · subst e5
    have HQ0 : Hid (Q = _) := M5.out rfl
    clear M4 M5 M6 M7 M8 M9 M0 e4
    clear HFB HTT HOO HLD HPZ HGG HCc HBKc hx1 hx2 hra hi hz0 hz1 hz2
    by_cases e1 : g = 0
    rotate_left
    · have HQ : Hid (Q = (Ld.Leader.none, 7)) := by
        show Q = _
        rw [HQ0.out, if_neg e1]
      have e1' : decide ((0 : Int) < g) = true := decide_eq_true (by omega)
      clear HQ0 HWc HRc e1 hn4 hn5 hg0
      go_wp2_with fail
      refine (lebad_any 7 _).mono ?_
      rintro e w9 ⟨rfl, hb9⟩
      have HB9 : Hid (Below w.heap.size w w9) := HBc.out.trans (hb9.mono HBc.out.size)
      have hz9 := HZc.out.below hb9
      clear hb9 HBc HZc
      have d0 := hz9.cell 0
      have d1 := hz9.cell 1
      have d2 := hz9.cell 2
      have d3 := hz9.cell 3
      have d4 := hz9.cell 4
      have d5 := hz9.cell 5
      simp only [List.getElem?_toArray, List.getElem?_cons_zero, List.getElem?_cons_succ] at d0 d1 d2 d3 d4 d5
      have df0 := hz9.free 0
      have df1 := hz9.free 1
      have df2 := hz9.free 2
      have df3 := hz9.free 3
      have df4 := hz9.free 4
      have df5 := hz9.free 5
      clear hz9
      go_wp2
      refine bodyPost_ret (v := .tuple #[.agg #[.slice none 0 0, .int .i64 0, .int .i64 0, .bool false, .slice none 0 0, .int .i64 0], .int .i64 7]) (by simp [results, Tryz.results6, go_sem, d0, d1, d2, d3, d4, d5]) rfl ⟨leS_none _ _ HQ.out, ?_⟩
      exact below_six HB9.out (Nat.le_add_right _ 3) _ _ _ _ _ _
    subst e1
    by_cases e2 : rn ≤ n4
    rotate_left
    · have HQ : Hid (Q = (Ld.Leader.none, 5)) := by
        show Q = _
        rw [HQ0.out, if_pos rfl, if_neg e2]
      have e2' : decide ((n4 : Int) < rn) = true := decide_eq_true (by omega)
      clear HQ0 HWc HRc e2 hn4 hn5 hg0
      go_wp2_with fail
      refine (lebad_any 5 _).mono ?_
      rintro e w9 ⟨rfl, hb9⟩
      have HB9 : Hid (Below w.heap.size w w9) := HBc.out.trans (hb9.mono HBc.out.size)
      have hz9 := HZc.out.below hb9
      clear hb9 HBc HZc
      have d0 := hz9.cell 0
      have d1 := hz9.cell 1
      have d2 := hz9.cell 2
      have d3 := hz9.cell 3
      have d4 := hz9.cell 4
      have d5 := hz9.cell 5
      simp only [List.getElem?_toArray, List.getElem?_cons_zero, List.getElem?_cons_succ] at d0 d1 d2 d3 d4 d5
      have df0 := hz9.free 0
      have df1 := hz9.free 1
      have df2 := hz9.free 2
      have df3 := hz9.free 3
      have df4 := hz9.free 4
      have df5 := hz9.free 5
      clear hz9
      go_wp2
      refine bodyPost_ret (v := .tuple #[.agg #[.slice none 0 0, .int .i64 0, .int .i64 0, .bool false, .slice none 0 0, .int .i64 0], .int .i64 5]) (by simp [results, Tryz.results6, go_sem, d0, d1, d2, d3, d4, d5]) rfl ⟨leS_none _ _ HQ.out, ?_⟩
      exact below_six HB9.out (Nat.le_add_right _ 3) _ _ _ _ _ _
    have e2' : decide ((n4 : Int) < rn) = false := decide_eq_false (by omega)
    by_cases e3 : rn = nw
    · have HQ : Hid (Q = (Ld.Leader.none, 6)) := by
        show Q = _
        rw [HQ0.out, if_pos rfl, if_pos e2, if_pos e3]
      have e3' : (rn == nw) = true := by rw [beq_iff_eq]; exact e3
      clear HQ0 HWc HRc e2 e3 hn4 hn5 hg0
      go_wp2_with fail
      refine (lebad_any 6 _).mono ?_
      rintro e w9 ⟨rfl, hb9⟩
      have HB9 : Hid (Below w.heap.size w w9) := HBc.out.trans (hb9.mono HBc.out.size)
      have hz9 := HZc.out.below hb9
      clear hb9 HBc HZc
      have d0 := hz9.cell 0
      have d1 := hz9.cell 1
      have d2 := hz9.cell 2
      have d3 := hz9.cell 3
      have d4 := hz9.cell 4
      have d5 := hz9.cell 5
      simp only [List.getElem?_toArray, List.getElem?_cons_zero, List.getElem?_cons_succ] at d0 d1 d2 d3 d4 d5
      have df0 := hz9.free 0
      have df1 := hz9.free 1
      have df2 := hz9.free 2
      have df3 := hz9.free 3
      have df4 := hz9.free 4
      have df5 := hz9.free 5
      clear hz9
      go_wp2
      refine bodyPost_ret (v := .tuple #[.agg #[.slice none 0 0, .int .i64 0, .int .i64 0, .bool false, .slice none 0 0, .int .i64 0], .int .i64 6]) (by simp [results, Tryz.results6, go_sem, d0, d1, d2, d3, d4, d5]) rfl ⟨leS_none _ _ HQ.out, ?_⟩
      exact below_six HB9.out (Nat.le_add_right _ 3) _ _ _ _ _ _
    have e3' : (rn == nw) = false := by rw [beq_eq_false_iff_ne]; exact e3
    have HQ : Hid (Q = (⟨rs, nw, rn, bk, ks, nx⟩, 0)) := by
      show Q = _
      rw [HQ0.out, if_pos rfl, if_pos e2, if_neg e3]
    clear HQ0 HRc e2 e3 hg0
    go_upto_region 58 with fail
    have HX1 : Hid (LdY (fun x => S x ∨ w.heap.size ≤ x) (wc.setCell ⟨w.heap.size + 1, 2, none⟩ (.int .i64 rn)) w.heap.size (w.heap.size + 1) ⟨rs, nw, rn, bk, ks, nx⟩) := (HWc.out.field (l' := ⟨rs, nw, rn, bk, ks, nx⟩) (i := 2) (u := (.int .i64 rn)) rfl rfl (fun _ _ => rfl))
    have HXB : Hid (Below w.heap.size w (wc.setCell ⟨w.heap.size + 1, 2, none⟩ (.int .i64 rn))) := (HBc.out.setCell (p := ⟨w.heap.size + 1, 2, none⟩) (Nat.le_succ _) (.int .i64 rn))
    have HXZ : Hid (Blk (wc.setCell ⟨w.heap.size + 1, 2, none⟩ (.int .i64 rn)) (w.heap.size + 1 + 1 + 1) #[.slice none 0 0, .int .i64 0, .int .i64 0, .bool false, .slice none 0 0, .int .i64 0] 32) := (HZc.out.off (g := w.heap.size + 1) (by omega) (o := 2) (u := (.int .i64 rn)))
    clear HWc HBc HZc b0 b1 b2 b3 b4 b5 bf0 bf1 bf2 bf3 bf4 bf5
    generalize (wc.setCell ⟨w.heap.size + 1, 2, none⟩ (.int .i64 rn)) = U at HX1 HXB HXZ ⊢
    obtain ⟨g4', k4', g5', k5', hblk', hans'⟩ := HX1.out.told HXZ.out (Nat.le_add_right _ 3) HS.out
    simp only [hn4, hn5] at hblk' hans'
    have HANS : Hid (∀ v0 v1 v2 v3 v4 v5, _) := hans'
    clear hans'
    have b0 := hblk'.cell 0
    have b1 := hblk'.cell 1
    have b2 := hblk'.cell 2
    have b3 := hblk'.cell 3
    have b4 := hblk'.cell 4
    have b5 := hblk'.cell 5
    simp only [List.getElem?_toArray, List.getElem?_cons_zero, List.getElem?_cons_succ] at b0 b1 b2 b3 b4 b5
    clear hblk'
    have d0 := HXZ.out.cell 0
    have d1 := HXZ.out.cell 1
    have d2 := HXZ.out.cell 2
    have d3 := HXZ.out.cell 3
    have d4 := HXZ.out.cell 4
    have d5 := HXZ.out.cell 5
    simp only [List.getElem?_toArray, List.getElem?_cons_zero, List.getElem?_cons_succ] at d0 d1 d2 d3 d4 d5
    have df0 := HXZ.out.free 0
    have df1 := HXZ.out.free 1
    have df2 := HXZ.out.free 2
    have df3 := HXZ.out.free 3
    have df4 := HXZ.out.free 4
    have df5 := HXZ.out.free 5
    clear HXZ
    go_wp2
    refine bodyPost_ret (v := .tuple #[.agg #[.slice (some ⟨g4', 0, none⟩) (n4) k4', .int .i64 nw, .int .i64 rn, .bool bk, .slice (some ⟨g5', 0, none⟩) n5 k5', .int .i64 (nx)], .int .i64 0]) (by simp [results, Tryz.results6, go_sem, d0, d1, d2, d3, d4, d5]) rfl ⟨?_, ?_⟩
    · rw [HQ.out]
      exact HANS.out _ _ _ _ _ _
    · exact below_six HXB.out (Nat.le_add_right _ 3) _ _ _ _ _ _
  by_cases e6 : rk = 6
  · subst e6
    have HQ0 : Hid (Q = _) := M6.out rfl
    clear M4 M5 M6 M7 M8 M9 M0 e4 e5
    clear HFB HPZ HOO hi hz0 hz1 hz2
    obtain ⟨k, rfl⟩ : ∃ k : Nat, ra = k := ⟨ra.toNat, by omega⟩
    rw [show ((k : Int).toNat) = k from Int.toNat_natCast k] at HQ0
    by_cases e1 : k < n5
    rotate_left
    · have HQ : Hid (Q = (Ld.Leader.none, 5)) := by
        show Q = _
        rw [HQ0.out, if_neg (by omega)]
      have e1' : decide ((n5 : Int) ≤ k) = true := decide_eq_true (by omega)
      have e1'' : decide (n5 ≤ k) = true := decide_eq_true (by omega)
      have e1n : n5 ≤ k := by omega
      have e1i : (n5 : Int) ≤ k := by omega
      clear HQ0 HWc HRc HBKc HGG HG4 HG5 e1 hn4 hn5 hg0 hra hx1 hx2 HTT HLD HCc
      go_wp2_with fail
      refine (lebad_any 5 _).mono ?_
      rintro e w9 ⟨rfl, hb9⟩
      have HB9 : Hid (Below w.heap.size w w9) := HBc.out.trans (hb9.mono HBc.out.size)
      have hz9 := HZc.out.below hb9
      clear hb9 HBc HZc
      have d0 := hz9.cell 0
      have d1 := hz9.cell 1
      have d2 := hz9.cell 2
      have d3 := hz9.cell 3
      have d4 := hz9.cell 4
      have d5 := hz9.cell 5
      simp only [List.getElem?_toArray, List.getElem?_cons_zero, List.getElem?_cons_succ] at d0 d1 d2 d3 d4 d5
      have df0 := hz9.free 0
      have df1 := hz9.free 1
      have df2 := hz9.free 2
      have df3 := hz9.free 3
      have df4 := hz9.free 4
      have df5 := hz9.free 5
      clear hz9
      go_wp2
      refine bodyPost_ret (v := .tuple #[.agg #[.slice none 0 0, .int .i64 0, .int .i64 0, .bool false, .slice none 0 0, .int .i64 0], .int .i64 5]) (by simp [results, Tryz.results6, go_sem, d0, d1, d2, d3, d4, d5]) rfl ⟨leS_none _ _ HQ.out, ?_⟩
      exact below_six HB9.out (Nat.le_add_right _ 3) _ _ _ _ _ _
    have e1' : decide ((n5 : Int) ≤ k) = false := decide_eq_false (by omega)
    have e1'' : decide (n5 ≤ k) = false := decide_eq_false (by omega)
    have e1n : ¬ n5 ≤ k := by omega
    have e1i : (k : Int) < n5 := by omega
    obtain ⟨-, -, -, h5, h6, h7, h8, -, -⟩ := HWc.out.agentAt (k := k) (by rw [hn5]; exact e1) b4
    rw [if_pos (show (k : Int) < (n5 : Int) from e1i)] at HQ0
    have hg5lt : g5 < wc.heap.size := HGG.out.2.2.2.1
    generalize ks.getD k ⟨0, 0, false⟩ = kn at h5 h6 h7 HQ0
    obtain ⟨st, tr, bb⟩ := kn
    simp only at h5 h6 h7 HQ0
    have hag := al_below wc (.cells #[.int .i64 st, .int .i64 tr, .bool bb] 54)
    clear h8
    have HBa : Hid (Below w.heap.size w (wc.alloc (.cells #[.int .i64 st, .int .i64 tr, .bool bb] 54))) := HBc.out.trans (hag.mono HBc.out.size)
    have HZa : Hid (Blk (wc.alloc (.cells #[.int .i64 st, .int .i64 tr, .bool bb] 54)) (w.heap.size + 1 + 1 + 1) #[.slice none 0 0, .int .i64 0, .int .i64 0, .bool false, .slice none 0 0, .int .i64 0] 32) := HZc.out.below hag
    have HRa : Hid (Blk (wc.alloc (.cells #[.int .i64 st, .int .i64 tr, .bool bb] 54)) (w.heap.size + 1 + 1) _ 34) := HRc.out.below hag
    have HBKa : Hid (Blk (wc.alloc (.cells #[.int .i64 st, .int .i64 tr, .bool bb] 54)) (w.heap.size + 1) #[.slice (some ⟨g4, 0, none⟩) n4 k4, .int .i64 nw, .int .i64 g, .bool bk, .slice (some ⟨g5, 0, none⟩) n5 k5, .int .i64 nx] 32) := HBKc.out.below hag
    have HAa : Hid (Blk (wc.alloc (.cells #[.int .i64 st, .int .i64 tr, .bool bb] 54)) wc.heap.size #[.int .i64 st, .int .i64 tr, .bool bb] 54) := blk_alloc wc _ _
    by_cases e2 : g = 0
    · have HQ : Hid (Q = (Ld.Leader.none, 7)) := by
        show Q = _
        rw [HQ0.out, if_neg (fun e => e.1 e2)]
      have e2' : (g == 0) = true := by rw [beq_iff_eq]; exact e2
      clear HQ0 HWc HRa HAa HBKa HGG HG4 HG5 HLD HTT hag hn4 hn5 hg0 hra hx1 hx2 e2 HBc HZc
      go_wp2_with fail
      refine (lebad_any 7 _).mono ?_
      rintro e w9 ⟨rfl, hb9⟩
      have HB9 : Hid (Below w.heap.size w w9) := HBa.out.trans (hb9.mono HBa.out.size)
      have hz9 := HZa.out.below hb9
      clear hb9 HBa HZa
      have d0 := hz9.cell 0
      have d1 := hz9.cell 1
      have d2 := hz9.cell 2
      have d3 := hz9.cell 3
      have d4 := hz9.cell 4
      have d5 := hz9.cell 5
      simp only [List.getElem?_toArray, List.getElem?_cons_zero, List.getElem?_cons_succ] at d0 d1 d2 d3 d4 d5
      have df0 := hz9.free 0
      have df1 := hz9.free 1
      have df2 := hz9.free 2
      have df3 := hz9.free 3
      have df4 := hz9.free 4
      have df5 := hz9.free 5
      clear hz9
      go_wp2
      refine bodyPost_ret (v := .tuple #[.agg #[.slice none 0 0, .int .i64 0, .int .i64 0, .bool false, .slice none 0 0, .int .i64 0], .int .i64 7]) (by simp [results, Tryz.results6, go_sem, d0, d1, d2, d3, d4, d5]) rfl ⟨leS_none _ _ HQ.out, ?_⟩
      exact below_six HB9.out (Nat.le_add_right _ 3) _ _ _ _ _ _
    have e2' : (g == 0) = false := by rw [beq_eq_false_iff_ne]; exact e2
    by_cases e3 : rt = nx
    rotate_left
    · have HQ : Hid (Q = (Ld.Leader.none, 7)) := by
        show Q = _
        rw [HQ0.out, if_neg (fun e => e3 e.2.1)]
      have e3' : (rt != nx) = true := by rw [bne_iff_ne]; exact e3
      clear HQ0 HWc HRa HAa HBKa HGG HG4 HG5 HLD HTT hag hn4 hn5 hg0 hra hx1 hx2 e3 e2 HBc HZc
      go_wp2_with fail
      refine (lebad_any 7 _).mono ?_
      rintro e w9 ⟨rfl, hb9⟩
      have HB9 : Hid (Below w.heap.size w w9) := HBa.out.trans (hb9.mono HBa.out.size)
      have hz9 := HZa.out.below hb9
      clear hb9 HBa HZa
      have d0 := hz9.cell 0
      have d1 := hz9.cell 1
      have d2 := hz9.cell 2
      have d3 := hz9.cell 3
      have d4 := hz9.cell 4
      have d5 := hz9.cell 5
      simp only [List.getElem?_toArray, List.getElem?_cons_zero, List.getElem?_cons_succ] at d0 d1 d2 d3 d4 d5
      have df0 := hz9.free 0
      have df1 := hz9.free 1
      have df2 := hz9.free 2
      have df3 := hz9.free 3
      have df4 := hz9.free 4
      have df5 := hz9.free 5
      clear hz9
      go_wp2
      refine bodyPost_ret (v := .tuple #[.agg #[.slice none 0 0, .int .i64 0, .int .i64 0, .bool false, .slice none 0 0, .int .i64 0], .int .i64 7]) (by simp [results, Tryz.results6, go_sem, d0, d1, d2, d3, d4, d5]) rfl ⟨leS_none _ _ HQ.out, ?_⟩
      exact below_six HB9.out (Nat.le_add_right _ 3) _ _ _ _ _ _
    have e3' : (rt != nx) = false := by rw [e3]; simp
    have HLA : Hid (LdAt (wc.alloc (.cells #[.int .i64 st, .int .i64 tr, .bool bb] 54)) ⟨rs, nw, g, bk, ks, nx⟩ (.slice (some ⟨g4, 0, none⟩) n4 k4) (.slice (some ⟨g5, 0, none⟩) n5 k5)) := HLD.out.below hag
    have HAG : Hid (Below wc.heap.size wc (wc.alloc (.cells #[.int .i64 st, .int .i64 tr, .bool bb] 54))) := hag
    clear HLD hag
    have kc0 := HCc.out.cell 0
    have kc1 := HCc.out.cell 1
    have kc2 := HCc.out.cell 2
    have kc3 := HCc.out.cell 3
    have kc4 := HCc.out.cell 4
    simp only [List.getElem?_toArray, List.getElem?_cons_zero, List.getElem?_cons_succ] at kc0 kc1 kc2 kc3 kc4
    go_wp2_with fail
    refine (HTT.out k e1 _ _ _ HBa.out HLA.out).mono ?_
    rintro e wt ⟨rfl, hb⟩
    have HBt : Hid (Below w.heap.size w wt) := HBa.out.trans (hb.mono HBa.out.size)
    have HZt : Hid (Blk wt (w.heap.size + 1 + 1 + 1) #[.slice none 0 0, .int .i64 0, .int .i64 0, .bool false, .slice none 0 0, .int .i64 0] 32) := HZa.out.below hb
    have HRt : Hid (Blk wt (w.heap.size + 1 + 1) _ 34) := HRa.out.below hb
    have HBKt : Hid (Blk wt (w.heap.size + 1) #[.slice (some ⟨g4, 0, none⟩) n4 k4, .int .i64 nw, .int .i64 g, .bool bk, .slice (some ⟨g5, 0, none⟩) n5 k5, .int .i64 nx] 32) := HBKa.out.below hb
    have HAt : Hid (Blk wt wc.heap.size #[.int .i64 st, .int .i64 tr, .bool bb] 54) := HAa.out.below hb
    have hct : Below wc.heap.size wc wt := HAG.out.trans (hb.mono HAG.out.size)
    have HCT : Hid (Below wc.heap.size wc wt) := hct
    clear hb HBa HZa HRa HBKa HAa HAG HLA HTT HCc hct h5 h6 h7 kc0 kc1 kc2 kc3 kc4 b0 b1 b2 b3 b4 b5 bf0 bf1 bf2 bf3 bf4 bf5 r0 r1 r2 r3 r4 r5 r6
    generalize TT k = tk at HQ0 ⊢
    cases tk
    · have HQ : Hid (Q = (Ld.Leader.none, 7)) := by
        show Q = _
        rw [HQ0.out, if_neg (fun e => by cases e.2.2)]
      clear HQ0 HWc HRt HAt HBKt HGG HG4 HG5 HCT hn4 hn5 hg0 hra hx1 hx2 e3 e2 HBc HZc
      go_wp2_with fail
      refine (lebad_any 7 _).mono ?_
      rintro e w9 ⟨rfl, hb9⟩
      have HB9 : Hid (Below w.heap.size w w9) := HBt.out.trans (hb9.mono HBt.out.size)
      have hz9 := HZt.out.below hb9
      clear hb9 HBt HZt
      have d0 := hz9.cell 0
      have d1 := hz9.cell 1
      have d2 := hz9.cell 2
      have d3 := hz9.cell 3
      have d4 := hz9.cell 4
      have d5 := hz9.cell 5
      simp only [List.getElem?_toArray, List.getElem?_cons_zero, List.getElem?_cons_succ] at d0 d1 d2 d3 d4 d5
      have df0 := hz9.free 0
      have df1 := hz9.free 1
      have df2 := hz9.free 2
      have df3 := hz9.free 3
      have df4 := hz9.free 4
      have df5 := hz9.free 5
      clear hz9
      go_wp2
      refine bodyPost_ret (v := .tuple #[.agg #[.slice none 0 0, .int .i64 0, .int .i64 0, .bool false, .slice none 0 0, .int .i64 0], .int .i64 7]) (by simp [results, Tryz.results6, go_sem, d0, d1, d2, d3, d4, d5]) rfl ⟨leS_none _ _ HQ.out, ?_⟩
      exact below_six HB9.out (Nat.le_add_right _ 3) _ _ _ _ _ _
    have HQ : Hid (Q = (⟨rs, nw, g, bk, ks.set k ⟨1, nx, bk⟩, nx + 1⟩, 0)) := by
      show Q = _
      rw [HQ0.out, if_pos ⟨e2, e3, rfl⟩]
    clear HQ0
    have b0 := HBKt.out.cell 0
    have b1 := HBKt.out.cell 1
    have b2 := HBKt.out.cell 2
    have b3 := HBKt.out.cell 3
    have b4 := HBKt.out.cell 4
    have b5 := HBKt.out.cell 5
    simp only [List.getElem?_toArray, List.getElem?_cons_zero, List.getElem?_cons_succ] at b0 b1 b2 b3 b4 b5
    have bf0 := HBKt.out.free 0
    have bf1 := HBKt.out.free 1
    have bf2 := HBKt.out.free 2
    have bf3 := HBKt.out.free 3
    have bf4 := HBKt.out.free 4
    have bf5 := HBKt.out.free 5
    have xa0 := HAt.out.cell 0
    have xa1 := HAt.out.cell 1
    have xa2 := HAt.out.cell 2
    simp only [List.getElem?_toArray, List.getElem?_cons_zero, List.getElem?_cons_succ] at xa0 xa1 xa2
    have xaf0 := HAt.out.free 0
    have xaf1 := HAt.out.free 1
    have xaf2 := HAt.out.free 2
    have hltt : wc.heap.size < wt.heap.size := HAt.out.lt
    have hne1 : ¬ wc.heap.size = w.heap.size + 1 := Nat.ne_of_gt hltc1
    have hne2 : ¬ w.heap.size + 1 = wc.heap.size := Nat.ne_of_lt hltc1
    go_upto_region 42 with fail
    have HX1 : Hid (LdY (fun x => S x ∨ w.heap.size ≤ x) ((((wt.setCell ⟨wc.heap.size, 0, none⟩ (.int .i64 1)).setCell ⟨wc.heap.size, 1, none⟩ (.int .i64 nx)).setCell ⟨wc.heap.size, 2, none⟩ (.bool bk)).setCell ⟨w.heap.size + 1, 5, none⟩ (.int .i64 (nx + 1))) w.heap.size (w.heap.size + 1) ⟨rs, nw, g, bk, ks, nx + 1⟩) := (HWc.out.stay (x := wc.heap.size) (Nat.le_refl _) (.inr HBc.out.size) (as_trans (as_below HCT.out) (as_trans (as_self _ _ _ _) (as_trans (as_self _ _ _ _) (as_self _ _ _ _))))).field rfl rfl (fun _ _ => rfl)
    have HXB : Hid (Below w.heap.size w ((((wt.setCell ⟨wc.heap.size, 0, none⟩ (.int .i64 1)).setCell ⟨wc.heap.size, 1, none⟩ (.int .i64 nx)).setCell ⟨wc.heap.size, 2, none⟩ (.bool bk)).setCell ⟨w.heap.size + 1, 5, none⟩ (.int .i64 (nx + 1)))) := (((HBt.out.setCell (p := ⟨wc.heap.size, 0, none⟩) HBc.out.size _).setCell (p := ⟨wc.heap.size, 1, none⟩) HBc.out.size _).setCell (p := ⟨wc.heap.size, 2, none⟩) HBc.out.size _).setCell (p := ⟨w.heap.size + 1, 5, none⟩) (Nat.le_succ _) _
    have HXZ : Hid (Blk ((((wt.setCell ⟨wc.heap.size, 0, none⟩ (.int .i64 1)).setCell ⟨wc.heap.size, 1, none⟩ (.int .i64 nx)).setCell ⟨wc.heap.size, 2, none⟩ (.bool bk)).setCell ⟨w.heap.size + 1, 5, none⟩ (.int .i64 (nx + 1))) (w.heap.size + 1 + 1 + 1) #[.slice none 0 0, .int .i64 0, .int .i64 0, .bool false, .slice none 0 0, .int .i64 0] 32) := (((HZt.out.off (Nat.ne_of_gt hltc)).off (Nat.ne_of_gt hltc)).off (Nat.ne_of_gt hltc)).off (by omega)
    have HXR : Hid (Blk ((((wt.setCell ⟨wc.heap.size, 0, none⟩ (.int .i64 1)).setCell ⟨wc.heap.size, 1, none⟩ (.int .i64 nx)).setCell ⟨wc.heap.size, 2, none⟩ (.bool bk)).setCell ⟨w.heap.size + 1, 5, none⟩ (.int .i64 (nx + 1))) (w.heap.size + 1 + 1) _ 34) := (((HRt.out.off (Nat.ne_of_gt hltc2)).off (Nat.ne_of_gt hltc2)).off (Nat.ne_of_gt hltc2)).off (by omega)
    have HXA : Hid (Blk ((((wt.setCell ⟨wc.heap.size, 0, none⟩ (.int .i64 1)).setCell ⟨wc.heap.size, 1, none⟩ (.int .i64 nx)).setCell ⟨wc.heap.size, 2, none⟩ (.bool bk)).setCell ⟨w.heap.size + 1, 5, none⟩ (.int .i64 (nx + 1))) wc.heap.size #[.int .i64 1, .int .i64 nx, .bool bk] 54) := (((HAt.out.put 0 _).put 1 _).put 2 _).off hne2
    have HXK : Hid (Blk ((((wt.setCell ⟨wc.heap.size, 0, none⟩ (.int .i64 1)).setCell ⟨wc.heap.size, 1, none⟩ (.int .i64 nx)).setCell ⟨wc.heap.size, 2, none⟩ (.bool bk)).setCell ⟨w.heap.size + 1, 5, none⟩ (.int .i64 (nx + 1))) (w.heap.size + 1) #[.slice (some ⟨g4, 0, none⟩) n4 k4, .int .i64 nw, .int .i64 g, .bool bk, .slice (some ⟨g5, 0, none⟩) n5 k5, .int .i64 (nx + 1)] 32) := (((HBKt.out.off hne1).off hne1).off hne1).put 5 _
    have HBcs : Hid (w.heap.size ≤ wc.heap.size) := HBc.out.size
    clear HWc HBt HZt HRt HAt HBKt HCT HBc HZc xa0 xa1 xa2 xaf0 xaf1 xaf2 hg0 e2 e3 b0 b1 b2 b3 b4 b5 bf0 bf1 bf2 bf3 bf4 bf5
    generalize ((((wt.setCell ⟨wc.heap.size, 0, none⟩ (.int .i64 1)).setCell ⟨wc.heap.size, 1, none⟩ (.int .i64 nx)).setCell ⟨wc.heap.size, 2, none⟩ (.bool bk)).setCell ⟨w.heap.size + 1, 5, none⟩ (.int .i64 (nx + 1))) = X at HX1 HXB HXZ HXR HXA HXK ⊢
    have hltx : wc.heap.size < X.heap.size := HXA.out.lt
    have b0 := HXK.out.cell 0
    have b1 := HXK.out.cell 1
    have b2 := HXK.out.cell 2
    have b3 := HXK.out.cell 3
    have b4 := HXK.out.cell 4
    have b5 := HXK.out.cell 5
    simp only [List.getElem?_toArray, List.getElem?_cons_zero, List.getElem?_cons_succ] at b0 b1 b2 b3 b4 b5
    have bf0 := HXK.out.free 0
    have bf1 := HXK.out.free 1
    have bf2 := HXK.out.free 2
    have bf3 := HXK.out.free 3
    have bf4 := HXK.out.free 4
    have bf5 := HXK.out.free 5
    have r0 := HXR.out.cell 0
    have r1 := HXR.out.cell 1
    have r2 := HXR.out.cell 2
    have r3 := HXR.out.cell 3
    have r4 := HXR.out.cell 4
    have r5 := HXR.out.cell 5
    have r6 := HXR.out.cell 6
    simp only [List.getElem?_toArray, List.getElem?_cons_zero, List.getElem?_cons_succ] at r0 r1 r2 r3 r4 r5 r6
    have xa0 := HXA.out.cell 0
    have xa1 := HXA.out.cell 1
    have xa2 := HXA.out.cell 2
    simp only [List.getElem?_toArray, List.getElem?_cons_zero, List.getElem?_cons_succ] at xa0 xa1 xa2
    obtain ⟨-, -, -, hq5, hq6, hq7, hq8, hq9, -⟩ := HX1.out.agentAt (k := k) (by show k < ks.length; rw [hn5]; exact e1) b4
    have hqf0 := hq8 (k * 3)
    have hqf1 := hq8 (k * 3 + 1)
    have hqf2 := hq8 (k * 3 + 2)
    have HY1 : Hid (LdY (fun x => S x ∨ w.heap.size ≤ x) (((X.setCell ⟨g5, k * 3, none⟩ (.int .i64 1)).setCell ⟨g5, k * 3 + 1, none⟩ (.int .i64 nx)).setCell ⟨g5, k * 3 + 2, none⟩ (.bool bk)) w.heap.size (w.heap.size + 1) { (⟨rs, nw, g, bk, ks, nx + 1⟩ : Ld.Leader) with ags := ks.set k ⟨1, nx, bk⟩ }) := hq9 ⟨1, nx, bk⟩
    have HYB : Hid (Below w.heap.size w (((X.setCell ⟨g5, k * 3, none⟩ (.int .i64 1)).setCell ⟨g5, k * 3 + 1, none⟩ (.int .i64 nx)).setCell ⟨g5, k * 3 + 2, none⟩ (.bool bk))) := ((HXB.out.setCell (p := ⟨g5, k * 3, none⟩) HGG.out.2.1 _).setCell (p := ⟨g5, k * 3 + 1, none⟩) HGG.out.2.1 _).setCell (p := ⟨g5, k * 3 + 2, none⟩) HGG.out.2.1 _
    have HYZ : Hid (Blk (((X.setCell ⟨g5, k * 3, none⟩ (.int .i64 1)).setCell ⟨g5, k * 3 + 1, none⟩ (.int .i64 nx)).setCell ⟨g5, k * 3 + 2, none⟩ (.bool bk)) (w.heap.size + 1 + 1 + 1) #[.slice none 0 0, .int .i64 0, .int .i64 0, .bool false, .slice none 0 0, .int .i64 0] 32) := ((HXZ.out.off HG5.out).off HG5.out).off HG5.out
    generalize ks.getD k ⟨0, 0, false⟩ = kq at hq5 hq6 hq7
    clear hq8 hq9 HX1 HXB HXZ HXK HXR HXA
    go_upto_region 58 with fail
    clear b0 b1 b2 b3 b4 b5 bf0 bf1 bf2 bf3 bf4 bf5 r0 r1 r2 r3 r4 r5 r6 xa0 xa1 xa2 hq5 hq6 hq7 hqf0 hqf1 hqf2
    generalize (((X.setCell ⟨g5, k * 3, none⟩ (.int .i64 1)).setCell ⟨g5, k * 3 + 1, none⟩ (.int .i64 nx)).setCell ⟨g5, k * 3 + 2, none⟩ (.bool bk)) = U at HY1 HYB HYZ ⊢
    obtain ⟨g4', k4', g5', k5', hblk', hans'⟩ := HY1.out.told HYZ.out (Nat.le_add_right _ 3) HS.out
    simp only [hn4, hn5, List.length_set] at hblk' hans'
    have HANS : Hid (∀ v0 v1 v2 v3 v4 v5, _) := hans'
    clear hans'
    have b0 := hblk'.cell 0
    have b1 := hblk'.cell 1
    have b2 := hblk'.cell 2
    have b3 := hblk'.cell 3
    have b4 := hblk'.cell 4
    have b5 := hblk'.cell 5
    simp only [List.getElem?_toArray, List.getElem?_cons_zero, List.getElem?_cons_succ] at b0 b1 b2 b3 b4 b5
    clear hblk'
    have d0 := HYZ.out.cell 0
    have d1 := HYZ.out.cell 1
    have d2 := HYZ.out.cell 2
    have d3 := HYZ.out.cell 3
    have d4 := HYZ.out.cell 4
    have d5 := HYZ.out.cell 5
    simp only [List.getElem?_toArray, List.getElem?_cons_zero, List.getElem?_cons_succ] at d0 d1 d2 d3 d4 d5
    have df0 := HYZ.out.free 0
    have df1 := HYZ.out.free 1
    have df2 := HYZ.out.free 2
    have df3 := HYZ.out.free 3
    have df4 := HYZ.out.free 4
    have df5 := HYZ.out.free 5
    clear HYZ
    go_wp2
    refine bodyPost_ret (v := .tuple #[.agg #[.slice (some ⟨g4', 0, none⟩) (n4) k4', .int .i64 nw, .int .i64 g, .bool bk, .slice (some ⟨g5', 0, none⟩) n5 k5', .int .i64 (nx + 1)], .int .i64 0]) (by simp [results, Tryz.results6, go_sem, d0, d1, d2, d3, d4, d5]) rfl ⟨?_, ?_⟩
    · rw [HQ.out]
      exact HANS.out _ _ _ _ _ _
    · exact below_six HYB.out (Nat.le_add_right _ 3) _ _ _ _ _ _
  by_cases e7 : rk = 7
  · subst e7
    have HQ0 : Hid (Q = _) := M7.out rfl
    clear M4 M5 M6 M7 M8 M9 M0 e4 e5 e6
    clear HFB HPZ HCc hx1 hx2 HTT HOO HLD hi hz0 hz1 hz2
    obtain ⟨k, rfl⟩ : ∃ k : Nat, ra = k := ⟨ra.toNat, by omega⟩
    rw [show ((k : Int).toNat) = k from Int.toNat_natCast k] at HQ0
    by_cases e1 : k < n5
    rotate_left
    · have HQ : Hid (Q = (Ld.Leader.none, 5)) := by
        show Q = _
        rw [HQ0.out, if_neg (by omega)]
      have e1' : decide ((n5 : Int) ≤ k) = true := decide_eq_true (by omega)
      have e1'' : decide (n5 ≤ k) = true := decide_eq_true (by omega)
      have e1n : n5 ≤ k := by omega
      have e1i : (n5 : Int) ≤ k := by omega
      clear HQ0 HWc HRc HBKc HGG HG4 HG5 e1 hn4 hn5 hg0 hra
      go_wp2_with fail
      refine (lebad_any 5 _).mono ?_
      rintro e w9 ⟨rfl, hb9⟩
      have HB9 : Hid (Below w.heap.size w w9) := HBc.out.trans (hb9.mono HBc.out.size)
      have hz9 := HZc.out.below hb9
      clear hb9 HBc HZc
      have d0 := hz9.cell 0
      have d1 := hz9.cell 1
      have d2 := hz9.cell 2
      have d3 := hz9.cell 3
      have d4 := hz9.cell 4
      have d5 := hz9.cell 5
      simp only [List.getElem?_toArray, List.getElem?_cons_zero, List.getElem?_cons_succ] at d0 d1 d2 d3 d4 d5
      have df0 := hz9.free 0
      have df1 := hz9.free 1
      have df2 := hz9.free 2
      have df3 := hz9.free 3
      have df4 := hz9.free 4
      have df5 := hz9.free 5
      clear hz9
      go_wp2
      refine bodyPost_ret (v := .tuple #[.agg #[.slice none 0 0, .int .i64 0, .int .i64 0, .bool false, .slice none 0 0, .int .i64 0], .int .i64 5]) (by simp [results, Tryz.results6, go_sem, d0, d1, d2, d3, d4, d5]) rfl ⟨leS_none _ _ HQ.out, ?_⟩
      exact below_six HB9.out (Nat.le_add_right _ 3) _ _ _ _ _ _
    have e1' : decide ((n5 : Int) ≤ k) = false := decide_eq_false (by omega)
    have e1'' : decide (n5 ≤ k) = false := decide_eq_false (by omega)
    have e1n : ¬ n5 ≤ k := by omega
    have e1i : (k : Int) < n5 := by omega
    obtain ⟨-, -, -, h5, h6, h7, h8, -, -⟩ := HWc.out.agentAt (k := k) (by rw [hn5]; exact e1) b4
    rw [if_pos (show (k : Int) < (n5 : Int) from e1i)] at HQ0
    have hg5lt : g5 < wc.heap.size := HGG.out.2.2.2.1
    generalize ks.getD k ⟨0, 0, false⟩ = kn at h5 h6 h7 HQ0
    obtain ⟨st, tr, bb⟩ := kn
    simp only at h5 h6 h7 HQ0
    have hag := al_below wc (.cells #[.int .i64 st, .int .i64 tr, .bool bb] 54)
    clear h8
    have HBa : Hid (Below w.heap.size w (wc.alloc (.cells #[.int .i64 st, .int .i64 tr, .bool bb] 54))) := HBc.out.trans (hag.mono HBc.out.size)
    have HZa : Hid (Blk (wc.alloc (.cells #[.int .i64 st, .int .i64 tr, .bool bb] 54)) (w.heap.size + 1 + 1 + 1) #[.slice none 0 0, .int .i64 0, .int .i64 0, .bool false, .slice none 0 0, .int .i64 0] 32) := HZc.out.below hag
    have HRa : Hid (Blk (wc.alloc (.cells #[.int .i64 st, .int .i64 tr, .bool bb] 54)) (w.heap.size + 1 + 1) _ 34) := HRc.out.below hag
    have HBKa : Hid (Blk (wc.alloc (.cells #[.int .i64 st, .int .i64 tr, .bool bb] 54)) (w.heap.size + 1) #[.slice (some ⟨g4, 0, none⟩) n4 k4, .int .i64 nw, .int .i64 g, .bool bk, .slice (some ⟨g5, 0, none⟩) n5 k5, .int .i64 nx] 32) := HBKc.out.below hag
    have HAa : Hid (Blk (wc.alloc (.cells #[.int .i64 st, .int .i64 tr, .bool bb] 54)) wc.heap.size #[.int .i64 st, .int .i64 tr, .bool bb] 54) := blk_alloc wc _ _
    by_cases e2 : st = 1
    rotate_left
    · have HQ : Hid (Q = (Ld.Leader.none, 7)) := by
        show Q = _
        rw [HQ0.out, if_neg (fun e => e2 e.1)]
      have e2' : (st != 1) = true := by rw [bne_iff_ne]; exact e2
      clear HQ0 HWc HRa HAa HBKa HGG HG4 HG5 hag hn4 hn5 hg0 hra e2 HBc HZc
      go_wp2_with fail
      refine (lebad_any 7 _).mono ?_
      rintro e w9 ⟨rfl, hb9⟩
      have HB9 : Hid (Below w.heap.size w w9) := HBa.out.trans (hb9.mono HBa.out.size)
      have hz9 := HZa.out.below hb9
      clear hb9 HBa HZa
      have d0 := hz9.cell 0
      have d1 := hz9.cell 1
      have d2 := hz9.cell 2
      have d3 := hz9.cell 3
      have d4 := hz9.cell 4
      have d5 := hz9.cell 5
      simp only [List.getElem?_toArray, List.getElem?_cons_zero, List.getElem?_cons_succ] at d0 d1 d2 d3 d4 d5
      have df0 := hz9.free 0
      have df1 := hz9.free 1
      have df2 := hz9.free 2
      have df3 := hz9.free 3
      have df4 := hz9.free 4
      have df5 := hz9.free 5
      clear hz9
      go_wp2
      refine bodyPost_ret (v := .tuple #[.agg #[.slice none 0 0, .int .i64 0, .int .i64 0, .bool false, .slice none 0 0, .int .i64 0], .int .i64 7]) (by simp [results, Tryz.results6, go_sem, d0, d1, d2, d3, d4, d5]) rfl ⟨leS_none _ _ HQ.out, ?_⟩
      exact below_six HB9.out (Nat.le_add_right _ 3) _ _ _ _ _ _
    have e2' : (st != 1) = false := by rw [e2]; rfl
    by_cases e3 : tr = rt
    rotate_left
    · have HQ : Hid (Q = (Ld.Leader.none, 7)) := by
        show Q = _
        rw [HQ0.out, if_neg (fun e => e3 e.2)]
      have e3' : (tr != rt) = true := by rw [bne_iff_ne]; exact e3
      clear HQ0 HWc HRa HAa HBKa HGG HG4 HG5 hag hn4 hn5 hg0 hra e3 e2 HBc HZc
      go_wp2_with fail
      refine (lebad_any 7 _).mono ?_
      rintro e w9 ⟨rfl, hb9⟩
      have HB9 : Hid (Below w.heap.size w w9) := HBa.out.trans (hb9.mono HBa.out.size)
      have hz9 := HZa.out.below hb9
      clear hb9 HBa HZa
      have d0 := hz9.cell 0
      have d1 := hz9.cell 1
      have d2 := hz9.cell 2
      have d3 := hz9.cell 3
      have d4 := hz9.cell 4
      have d5 := hz9.cell 5
      simp only [List.getElem?_toArray, List.getElem?_cons_zero, List.getElem?_cons_succ] at d0 d1 d2 d3 d4 d5
      have df0 := hz9.free 0
      have df1 := hz9.free 1
      have df2 := hz9.free 2
      have df3 := hz9.free 3
      have df4 := hz9.free 4
      have df5 := hz9.free 5
      clear hz9
      go_wp2
      refine bodyPost_ret (v := .tuple #[.agg #[.slice none 0 0, .int .i64 0, .int .i64 0, .bool false, .slice none 0 0, .int .i64 0], .int .i64 7]) (by simp [results, Tryz.results6, go_sem, d0, d1, d2, d3, d4, d5]) rfl ⟨leS_none _ _ HQ.out, ?_⟩
      exact below_six HB9.out (Nat.le_add_right _ 3) _ _ _ _ _ _
    have e3' : (tr != rt) = false := by rw [e3]; simp
    have HAG : Hid (Below wc.heap.size wc (wc.alloc (.cells #[.int .i64 st, .int .i64 tr, .bool bb] 54))) := hag
    have M0 : Hid (GotMap ((wc.alloc (.cells #[.int .i64 st, .int .i64 tr, .bool bb] 54)).alloc (.map #[] 0)) (wc.heap.size + 1) 0) := by
      have := GotMap.made (wc.alloc (.cells #[.int .i64 st, .int .i64 tr, .bool bb] 54))
      rwa [World.size_alloc] at this
    have B0 : Hid (Below (wc.heap.size + 1) (wc.alloc (.cells #[.int .i64 st, .int .i64 tr, .bool bb] 54)) ((wc.alloc (.cells #[.int .i64 st, .int .i64 tr, .bool bb] 54)).alloc (.map #[] 0))) := (Below.refl _ _).alloc (by simp) _
    clear hag
    cases rg
    · skip
      have HQ : Hid (Q = (⟨rs, nw, g, bk, ks.set k ⟨3, tr, bb⟩, nx⟩, 0)) := by
        show Q = _
        rw [HQ0.out, if_pos ⟨e2, e3⟩]
        rfl
      clear HQ0 e2 e3
      have hmm := @run_makeMap Tryz.prog
      go_upto_region 42 with (first
        | (guard_target = wpList _ _ _ (Oper.mk _ (Op.insert _ _ (.const (.bool true)) _) _ _ _ _ :: _) _ _; refine wpList_insert_own _ rfl _ _ _ 56 rfl 4 3 keyedB Tryz.underlying56 _ (wc.heap.size + 1) 0 (gotD 0) rfl M0.out (by unfold maxLen; omega) _ _ (.bool true) rfl rfl (keyB true) (.lit (.int .i64 2)) [] (numE 2 (by decide)) ?_; intro x1 o1 gg1; have M1 : Hid (GotMap x1 (wc.heap.size + 1) 1) := o1; have B1 : Hid (Below (wc.heap.size + 1) (wc.alloc (.cells #[.int .i64 st, .int .i64 tr, .bool bb] 54)) x1) := B0.out.grown gg1 (Nat.le_trans (by simp) B0.out.size) (fun j hj => by cases hj; exact Nat.le_refl _); clear o1 gg1)
        | (guard_target = wpList _ _ _ (Oper.mk _ (Op.insert _ _ (.const (.bool false)) _) _ _ _ _ :: _) _ _; refine wpList_insert_own _ rfl _ _ _ 56 rfl 4 3 keyedB Tryz.underlying56 _ (wc.heap.size + 1) 1 (gotD 1) rfl M1.out (by unfold maxLen; omega) _ _ (.bool false) rfl rfl (keyB false) (.lit (.int .i64 3)) [] (numE 3 (by decide)) ?_; intro x2 o2 gg2; have M2 : Hid (GotMap x2 (wc.heap.size + 1) 2) := o2; have B2 : Hid (Below (wc.heap.size + 1) (wc.alloc (.cells #[.int .i64 st, .int .i64 tr, .bool bb] 54)) x2) := B1.out.grown gg2 (Nat.le_trans (by simp) B1.out.size) (fun j hj => by cases hj; exact Nat.le_refl _); clear o2 gg2; have hb2 : Below (wc.alloc (.cells #[.int .i64 st, .int .i64 tr, .bool bb] 54)).heap.size (wc.alloc (.cells #[.int .i64 st, .int .i64 tr, .bool bb] 54)) x2 := B2.out.mono (by simp); have HX2 : Hid (Below (wc.alloc (.cells #[.int .i64 st, .int .i64 tr, .bool bb] 54)).heap.size (wc.alloc (.cells #[.int .i64 st, .int .i64 tr, .bool bb] 54)) x2) := hb2; have hlk := look_got M2.out false; have hr2 := HRa.out.below hb2; have ha2 := HAa.out.below hb2; have v4 := hr2.cell 4; have va0 := ha2.cell 0; have va1 := ha2.cell 1; have va2 := ha2.cell 2; simp only [List.getElem?_toArray, List.getElem?_cons_zero, List.getElem?_cons_succ] at v4 va0 va1 va2; have vaf0 := ha2.free 0; clear hb2 hr2 ha2))
      have HCT : Hid (Below wc.heap.size wc x2) := HAG.out.trans (HX2.out.mono HAG.out.size)
      have HX1 : Hid (LdY (fun x => S x ∨ w.heap.size ≤ x) (x2.setCell ⟨wc.heap.size, 0, none⟩ (.int .i64 3)) w.heap.size (w.heap.size + 1) ⟨rs, nw, g, bk, ks, nx⟩) := HWc.out.stay (x := wc.heap.size) (Nat.le_refl _) (.inr HBc.out.size) (as_trans (as_below HCT.out) (as_self _ _ _ _))
      have HXB : Hid (Below w.heap.size w (x2.setCell ⟨wc.heap.size, 0, none⟩ (.int .i64 3))) := (HBa.out.trans (HX2.out.mono HBa.out.size)).setCell (p := ⟨wc.heap.size, 0, none⟩) HBc.out.size _
      have HXZ : Hid (Blk (x2.setCell ⟨wc.heap.size, 0, none⟩ (.int .i64 3)) (w.heap.size + 1 + 1 + 1) #[.slice none 0 0, .int .i64 0, .int .i64 0, .bool false, .slice none 0 0, .int .i64 0] 32) := (HZa.out.below HX2.out).off (Nat.ne_of_gt hltc)
      have HXR : Hid (Blk (x2.setCell ⟨wc.heap.size, 0, none⟩ (.int .i64 3)) (w.heap.size + 1 + 1) _ 34) := (HRa.out.below HX2.out).off (Nat.ne_of_gt hltc2)
      have HXA : Hid (Blk (x2.setCell ⟨wc.heap.size, 0, none⟩ (.int .i64 3)) wc.heap.size #[.int .i64 3, .int .i64 tr, .bool bb] 54) := (HAa.out.below HX2.out).put 0 _
      have HXK : Hid (Blk (x2.setCell ⟨wc.heap.size, 0, none⟩ (.int .i64 3)) (w.heap.size + 1) #[.slice (some ⟨g4, 0, none⟩) n4 k4, .int .i64 nw, .int .i64 g, .bool bk, .slice (some ⟨g5, 0, none⟩) n5 k5, .int .i64 nx] 32) := (HBKa.out.below HX2.out).off (Nat.ne_of_gt hltc1)
      clear HWc HBa HZa HRa HAa HBKa HCT HBc HZc HAG HX2 M0 M1 M2 B0 B1 B2 hlk hmm v4 va0 va1 va2 vaf0 h5 h6 h7 hg0 b0 b1 b2 b3 b4 b5 bf0 bf1 bf2 bf3 bf4 bf5 r0 r1 r2 r3 r4 r5 r6
      generalize (x2.setCell ⟨wc.heap.size, 0, none⟩ (.int .i64 3)) = X at HX1 HXB HXZ HXR HXA HXK ⊢
      have hltx : wc.heap.size < X.heap.size := HXA.out.lt
      have b0 := HXK.out.cell 0
      have b1 := HXK.out.cell 1
      have b2 := HXK.out.cell 2
      have b3 := HXK.out.cell 3
      have b4 := HXK.out.cell 4
      have b5 := HXK.out.cell 5
      simp only [List.getElem?_toArray, List.getElem?_cons_zero, List.getElem?_cons_succ] at b0 b1 b2 b3 b4 b5
      have bf0 := HXK.out.free 0
      have bf1 := HXK.out.free 1
      have bf2 := HXK.out.free 2
      have bf3 := HXK.out.free 3
      have bf4 := HXK.out.free 4
      have bf5 := HXK.out.free 5
      have r0 := HXR.out.cell 0
      have r1 := HXR.out.cell 1
      have r2 := HXR.out.cell 2
      have r3 := HXR.out.cell 3
      have r4 := HXR.out.cell 4
      have r5 := HXR.out.cell 5
      have r6 := HXR.out.cell 6
      simp only [List.getElem?_toArray, List.getElem?_cons_zero, List.getElem?_cons_succ] at r0 r1 r2 r3 r4 r5 r6
      have xa0 := HXA.out.cell 0
      have xa1 := HXA.out.cell 1
      have xa2 := HXA.out.cell 2
      simp only [List.getElem?_toArray, List.getElem?_cons_zero, List.getElem?_cons_succ] at xa0 xa1 xa2
      obtain ⟨-, -, -, hq5, hq6, hq7, hq8, hq9, -⟩ := HX1.out.agentAt (k := k) (by show k < ks.length; rw [hn5]; exact e1) b4
      have hqf0 := hq8 (k * 3)
      have hqf1 := hq8 (k * 3 + 1)
      have hqf2 := hq8 (k * 3 + 2)
      have HY1 : Hid (LdY (fun x => S x ∨ w.heap.size ≤ x) (((X.setCell ⟨g5, k * 3, none⟩ (.int .i64 3)).setCell ⟨g5, k * 3 + 1, none⟩ (.int .i64 tr)).setCell ⟨g5, k * 3 + 2, none⟩ (.bool bb)) w.heap.size (w.heap.size + 1) { (⟨rs, nw, g, bk, ks, nx⟩ : Ld.Leader) with ags := ks.set k ⟨3, tr, bb⟩ }) := hq9 ⟨3, tr, bb⟩
      have HYB : Hid (Below w.heap.size w (((X.setCell ⟨g5, k * 3, none⟩ (.int .i64 3)).setCell ⟨g5, k * 3 + 1, none⟩ (.int .i64 tr)).setCell ⟨g5, k * 3 + 2, none⟩ (.bool bb))) := ((HXB.out.setCell (p := ⟨g5, k * 3, none⟩) HGG.out.2.1 _).setCell (p := ⟨g5, k * 3 + 1, none⟩) HGG.out.2.1 _).setCell (p := ⟨g5, k * 3 + 2, none⟩) HGG.out.2.1 _
      have HYZ : Hid (Blk (((X.setCell ⟨g5, k * 3, none⟩ (.int .i64 3)).setCell ⟨g5, k * 3 + 1, none⟩ (.int .i64 tr)).setCell ⟨g5, k * 3 + 2, none⟩ (.bool bb)) (w.heap.size + 1 + 1 + 1) #[.slice none 0 0, .int .i64 0, .int .i64 0, .bool false, .slice none 0 0, .int .i64 0] 32) := ((HXZ.out.off HG5.out).off HG5.out).off HG5.out
      generalize ks.getD k ⟨0, 0, false⟩ = kq at hq5 hq6 hq7
      clear hq8 hq9 HX1 HXB HXZ HXK HXR HXA
      go_upto_region 58 with fail
      clear b0 b1 b2 b3 b4 b5 bf0 bf1 bf2 bf3 bf4 bf5 r0 r1 r2 r3 r4 r5 r6 xa0 xa1 xa2 hq5 hq6 hq7 hqf0 hqf1 hqf2
      generalize (((X.setCell ⟨g5, k * 3, none⟩ (.int .i64 3)).setCell ⟨g5, k * 3 + 1, none⟩ (.int .i64 tr)).setCell ⟨g5, k * 3 + 2, none⟩ (.bool bb)) = U at HY1 HYB HYZ ⊢
      obtain ⟨g4', k4', g5', k5', hblk', hans'⟩ := HY1.out.told HYZ.out (Nat.le_add_right _ 3) HS.out
      simp only [hn4, hn5, List.length_set] at hblk' hans'
      have HANS : Hid (∀ v0 v1 v2 v3 v4 v5, _) := hans'
      clear hans'
      have b0 := hblk'.cell 0
      have b1 := hblk'.cell 1
      have b2 := hblk'.cell 2
      have b3 := hblk'.cell 3
      have b4 := hblk'.cell 4
      have b5 := hblk'.cell 5
      simp only [List.getElem?_toArray, List.getElem?_cons_zero, List.getElem?_cons_succ] at b0 b1 b2 b3 b4 b5
      clear hblk'
      have d0 := HYZ.out.cell 0
      have d1 := HYZ.out.cell 1
      have d2 := HYZ.out.cell 2
      have d3 := HYZ.out.cell 3
      have d4 := HYZ.out.cell 4
      have d5 := HYZ.out.cell 5
      simp only [List.getElem?_toArray, List.getElem?_cons_zero, List.getElem?_cons_succ] at d0 d1 d2 d3 d4 d5
      have df0 := HYZ.out.free 0
      have df1 := HYZ.out.free 1
      have df2 := HYZ.out.free 2
      have df3 := HYZ.out.free 3
      have df4 := HYZ.out.free 4
      have df5 := HYZ.out.free 5
      clear HYZ
      go_wp2
      refine bodyPost_ret (v := .tuple #[.agg #[.slice (some ⟨g4', 0, none⟩) (n4) k4', .int .i64 nw, .int .i64 g, .bool bk, .slice (some ⟨g5', 0, none⟩) n5 k5', .int .i64 (nx)], .int .i64 0]) (by simp [results, Tryz.results6, go_sem, d0, d1, d2, d3, d4, d5]) rfl ⟨?_, ?_⟩
      · rw [HQ.out]
        exact HANS.out _ _ _ _ _ _
      · exact below_six HYB.out (Nat.le_add_right _ 3) _ _ _ _ _ _
    · skip
      have HQ : Hid (Q = (⟨rs, nw, g, bk, ks.set k ⟨2, tr, bb⟩, nx⟩, 0)) := by
        show Q = _
        rw [HQ0.out, if_pos ⟨e2, e3⟩]
        rfl
      clear HQ0 e2 e3
      have hmm := @run_makeMap Tryz.prog
      go_upto_region 42 with (first
        | (guard_target = wpList _ _ _ (Oper.mk _ (Op.insert _ _ (.const (.bool true)) _) _ _ _ _ :: _) _ _; refine wpList_insert_own _ rfl _ _ _ 56 rfl 4 3 keyedB Tryz.underlying56 _ (wc.heap.size + 1) 0 (gotD 0) rfl M0.out (by unfold maxLen; omega) _ _ (.bool true) rfl rfl (keyB true) (.lit (.int .i64 2)) [] (numE 2 (by decide)) ?_; intro x1 o1 gg1; have M1 : Hid (GotMap x1 (wc.heap.size + 1) 1) := o1; have B1 : Hid (Below (wc.heap.size + 1) (wc.alloc (.cells #[.int .i64 st, .int .i64 tr, .bool bb] 54)) x1) := B0.out.grown gg1 (Nat.le_trans (by simp) B0.out.size) (fun j hj => by cases hj; exact Nat.le_refl _); clear o1 gg1)
        | (guard_target = wpList _ _ _ (Oper.mk _ (Op.insert _ _ (.const (.bool false)) _) _ _ _ _ :: _) _ _; refine wpList_insert_own _ rfl _ _ _ 56 rfl 4 3 keyedB Tryz.underlying56 _ (wc.heap.size + 1) 1 (gotD 1) rfl M1.out (by unfold maxLen; omega) _ _ (.bool false) rfl rfl (keyB false) (.lit (.int .i64 3)) [] (numE 3 (by decide)) ?_; intro x2 o2 gg2; have M2 : Hid (GotMap x2 (wc.heap.size + 1) 2) := o2; have B2 : Hid (Below (wc.heap.size + 1) (wc.alloc (.cells #[.int .i64 st, .int .i64 tr, .bool bb] 54)) x2) := B1.out.grown gg2 (Nat.le_trans (by simp) B1.out.size) (fun j hj => by cases hj; exact Nat.le_refl _); clear o2 gg2; have hb2 : Below (wc.alloc (.cells #[.int .i64 st, .int .i64 tr, .bool bb] 54)).heap.size (wc.alloc (.cells #[.int .i64 st, .int .i64 tr, .bool bb] 54)) x2 := B2.out.mono (by simp); have HX2 : Hid (Below (wc.alloc (.cells #[.int .i64 st, .int .i64 tr, .bool bb] 54)).heap.size (wc.alloc (.cells #[.int .i64 st, .int .i64 tr, .bool bb] 54)) x2) := hb2; have hlk := look_got M2.out true; have hr2 := HRa.out.below hb2; have ha2 := HAa.out.below hb2; have v4 := hr2.cell 4; have va0 := ha2.cell 0; have va1 := ha2.cell 1; have va2 := ha2.cell 2; simp only [List.getElem?_toArray, List.getElem?_cons_zero, List.getElem?_cons_succ] at v4 va0 va1 va2; have vaf0 := ha2.free 0; clear hb2 hr2 ha2))
      have HCT : Hid (Below wc.heap.size wc x2) := HAG.out.trans (HX2.out.mono HAG.out.size)
      have HX1 : Hid (LdY (fun x => S x ∨ w.heap.size ≤ x) (x2.setCell ⟨wc.heap.size, 0, none⟩ (.int .i64 2)) w.heap.size (w.heap.size + 1) ⟨rs, nw, g, bk, ks, nx⟩) := HWc.out.stay (x := wc.heap.size) (Nat.le_refl _) (.inr HBc.out.size) (as_trans (as_below HCT.out) (as_self _ _ _ _))
      have HXB : Hid (Below w.heap.size w (x2.setCell ⟨wc.heap.size, 0, none⟩ (.int .i64 2))) := (HBa.out.trans (HX2.out.mono HBa.out.size)).setCell (p := ⟨wc.heap.size, 0, none⟩) HBc.out.size _
      have HXZ : Hid (Blk (x2.setCell ⟨wc.heap.size, 0, none⟩ (.int .i64 2)) (w.heap.size + 1 + 1 + 1) #[.slice none 0 0, .int .i64 0, .int .i64 0, .bool false, .slice none 0 0, .int .i64 0] 32) := (HZa.out.below HX2.out).off (Nat.ne_of_gt hltc)
      have HXR : Hid (Blk (x2.setCell ⟨wc.heap.size, 0, none⟩ (.int .i64 2)) (w.heap.size + 1 + 1) _ 34) := (HRa.out.below HX2.out).off (Nat.ne_of_gt hltc2)
      have HXA : Hid (Blk (x2.setCell ⟨wc.heap.size, 0, none⟩ (.int .i64 2)) wc.heap.size #[.int .i64 2, .int .i64 tr, .bool bb] 54) := (HAa.out.below HX2.out).put 0 _
      have HXK : Hid (Blk (x2.setCell ⟨wc.heap.size, 0, none⟩ (.int .i64 2)) (w.heap.size + 1) #[.slice (some ⟨g4, 0, none⟩) n4 k4, .int .i64 nw, .int .i64 g, .bool bk, .slice (some ⟨g5, 0, none⟩) n5 k5, .int .i64 nx] 32) := (HBKa.out.below HX2.out).off (Nat.ne_of_gt hltc1)
      clear HWc HBa HZa HRa HAa HBKa HCT HBc HZc HAG HX2 M0 M1 M2 B0 B1 B2 hlk hmm v4 va0 va1 va2 vaf0 h5 h6 h7 hg0 b0 b1 b2 b3 b4 b5 bf0 bf1 bf2 bf3 bf4 bf5 r0 r1 r2 r3 r4 r5 r6
      generalize (x2.setCell ⟨wc.heap.size, 0, none⟩ (.int .i64 2)) = X at HX1 HXB HXZ HXR HXA HXK ⊢
      have hltx : wc.heap.size < X.heap.size := HXA.out.lt
      have b0 := HXK.out.cell 0
      have b1 := HXK.out.cell 1
      have b2 := HXK.out.cell 2
      have b3 := HXK.out.cell 3
      have b4 := HXK.out.cell 4
      have b5 := HXK.out.cell 5
      simp only [List.getElem?_toArray, List.getElem?_cons_zero, List.getElem?_cons_succ] at b0 b1 b2 b3 b4 b5
      have bf0 := HXK.out.free 0
      have bf1 := HXK.out.free 1
      have bf2 := HXK.out.free 2
      have bf3 := HXK.out.free 3
      have bf4 := HXK.out.free 4
      have bf5 := HXK.out.free 5
      have r0 := HXR.out.cell 0
      have r1 := HXR.out.cell 1
      have r2 := HXR.out.cell 2
      have r3 := HXR.out.cell 3
      have r4 := HXR.out.cell 4
      have r5 := HXR.out.cell 5
      have r6 := HXR.out.cell 6
      simp only [List.getElem?_toArray, List.getElem?_cons_zero, List.getElem?_cons_succ] at r0 r1 r2 r3 r4 r5 r6
      have xa0 := HXA.out.cell 0
      have xa1 := HXA.out.cell 1
      have xa2 := HXA.out.cell 2
      simp only [List.getElem?_toArray, List.getElem?_cons_zero, List.getElem?_cons_succ] at xa0 xa1 xa2
      obtain ⟨-, -, -, hq5, hq6, hq7, hq8, hq9, -⟩ := HX1.out.agentAt (k := k) (by show k < ks.length; rw [hn5]; exact e1) b4
      have hqf0 := hq8 (k * 3)
      have hqf1 := hq8 (k * 3 + 1)
      have hqf2 := hq8 (k * 3 + 2)
      have HY1 : Hid (LdY (fun x => S x ∨ w.heap.size ≤ x) (((X.setCell ⟨g5, k * 3, none⟩ (.int .i64 2)).setCell ⟨g5, k * 3 + 1, none⟩ (.int .i64 tr)).setCell ⟨g5, k * 3 + 2, none⟩ (.bool bb)) w.heap.size (w.heap.size + 1) { (⟨rs, nw, g, bk, ks, nx⟩ : Ld.Leader) with ags := ks.set k ⟨2, tr, bb⟩ }) := hq9 ⟨2, tr, bb⟩
      have HYB : Hid (Below w.heap.size w (((X.setCell ⟨g5, k * 3, none⟩ (.int .i64 2)).setCell ⟨g5, k * 3 + 1, none⟩ (.int .i64 tr)).setCell ⟨g5, k * 3 + 2, none⟩ (.bool bb))) := ((HXB.out.setCell (p := ⟨g5, k * 3, none⟩) HGG.out.2.1 _).setCell (p := ⟨g5, k * 3 + 1, none⟩) HGG.out.2.1 _).setCell (p := ⟨g5, k * 3 + 2, none⟩) HGG.out.2.1 _
      have HYZ : Hid (Blk (((X.setCell ⟨g5, k * 3, none⟩ (.int .i64 2)).setCell ⟨g5, k * 3 + 1, none⟩ (.int .i64 tr)).setCell ⟨g5, k * 3 + 2, none⟩ (.bool bb)) (w.heap.size + 1 + 1 + 1) #[.slice none 0 0, .int .i64 0, .int .i64 0, .bool false, .slice none 0 0, .int .i64 0] 32) := ((HXZ.out.off HG5.out).off HG5.out).off HG5.out
      generalize ks.getD k ⟨0, 0, false⟩ = kq at hq5 hq6 hq7
      clear hq8 hq9 HX1 HXB HXZ HXK HXR HXA
      go_upto_region 58 with fail
      clear b0 b1 b2 b3 b4 b5 bf0 bf1 bf2 bf3 bf4 bf5 r0 r1 r2 r3 r4 r5 r6 xa0 xa1 xa2 hq5 hq6 hq7 hqf0 hqf1 hqf2
      generalize (((X.setCell ⟨g5, k * 3, none⟩ (.int .i64 2)).setCell ⟨g5, k * 3 + 1, none⟩ (.int .i64 tr)).setCell ⟨g5, k * 3 + 2, none⟩ (.bool bb)) = U at HY1 HYB HYZ ⊢
      obtain ⟨g4', k4', g5', k5', hblk', hans'⟩ := HY1.out.told HYZ.out (Nat.le_add_right _ 3) HS.out
      simp only [hn4, hn5, List.length_set] at hblk' hans'
      have HANS : Hid (∀ v0 v1 v2 v3 v4 v5, _) := hans'
      clear hans'
      have b0 := hblk'.cell 0
      have b1 := hblk'.cell 1
      have b2 := hblk'.cell 2
      have b3 := hblk'.cell 3
      have b4 := hblk'.cell 4
      have b5 := hblk'.cell 5
      simp only [List.getElem?_toArray, List.getElem?_cons_zero, List.getElem?_cons_succ] at b0 b1 b2 b3 b4 b5
      clear hblk'
      have d0 := HYZ.out.cell 0
      have d1 := HYZ.out.cell 1
      have d2 := HYZ.out.cell 2
      have d3 := HYZ.out.cell 3
      have d4 := HYZ.out.cell 4
      have d5 := HYZ.out.cell 5
      simp only [List.getElem?_toArray, List.getElem?_cons_zero, List.getElem?_cons_succ] at d0 d1 d2 d3 d4 d5
      have df0 := HYZ.out.free 0
      have df1 := HYZ.out.free 1
      have df2 := HYZ.out.free 2
      have df3 := HYZ.out.free 3
      have df4 := HYZ.out.free 4
      have df5 := HYZ.out.free 5
      clear HYZ
      go_wp2
      refine bodyPost_ret (v := .tuple #[.agg #[.slice (some ⟨g4', 0, none⟩) (n4) k4', .int .i64 nw, .int .i64 g, .bool bk, .slice (some ⟨g5', 0, none⟩) n5 k5', .int .i64 (nx)], .int .i64 0]) (by simp [results, Tryz.results6, go_sem, d0, d1, d2, d3, d4, d5]) rfl ⟨?_, ?_⟩
      · rw [HQ.out]
        exact HANS.out _ _ _ _ _ _
      · exact below_six HYB.out (Nat.le_add_right _ 3) _ _ _ _ _ _
  by_cases e8 : rk = 8
  · subst e8
    have HQ0 : Hid (Q = _) := M8.out rfl
    clear M4 M5 M6 M7 M8 M9 M0 e4 e5 e6 e7
    clear HFB HTT HOO HLD HPZ HGG HCc HBKc HRc hx1 hx2 hra hi hz0 hz1 hz2
    by_cases e1 : g = 0
    · have HQ : Hid (Q = (Ld.Leader.none, 7)) := by
        show Q = _
        rw [HQ0.out, if_pos (.inl e1)]
      have e1' : (g == 0) = true := by rw [beq_iff_eq]; exact e1
      clear HQ0 HWc e1 hn4 hn5 hg0
      cases bk
      · skip
        go_wp2_with fail
        refine (lebad_any 7 _).mono ?_
        rintro e w9 ⟨rfl, hb9⟩
        have HB9 : Hid (Below w.heap.size w w9) := HBc.out.trans (hb9.mono HBc.out.size)
        have hz9 := HZc.out.below hb9
        clear hb9 HBc HZc
        have d0 := hz9.cell 0
        have d1 := hz9.cell 1
        have d2 := hz9.cell 2
        have d3 := hz9.cell 3
        have d4 := hz9.cell 4
        have d5 := hz9.cell 5
        simp only [List.getElem?_toArray, List.getElem?_cons_zero, List.getElem?_cons_succ] at d0 d1 d2 d3 d4 d5
        have df0 := hz9.free 0
        have df1 := hz9.free 1
        have df2 := hz9.free 2
        have df3 := hz9.free 3
        have df4 := hz9.free 4
        have df5 := hz9.free 5
        clear hz9
        go_wp2
        refine bodyPost_ret (v := .tuple #[.agg #[.slice none 0 0, .int .i64 0, .int .i64 0, .bool false, .slice none 0 0, .int .i64 0], .int .i64 7]) (by simp [results, Tryz.results6, go_sem, d0, d1, d2, d3, d4, d5]) rfl ⟨leS_none _ _ HQ.out, ?_⟩
        exact below_six HB9.out (Nat.le_add_right _ 3) _ _ _ _ _ _
      · skip
        go_wp2_with fail
        refine (lebad_any 7 _).mono ?_
        rintro e w9 ⟨rfl, hb9⟩
        have HB9 : Hid (Below w.heap.size w w9) := HBc.out.trans (hb9.mono HBc.out.size)
        have hz9 := HZc.out.below hb9
        clear hb9 HBc HZc
        have d0 := hz9.cell 0
        have d1 := hz9.cell 1
        have d2 := hz9.cell 2
        have d3 := hz9.cell 3
        have d4 := hz9.cell 4
        have d5 := hz9.cell 5
        simp only [List.getElem?_toArray, List.getElem?_cons_zero, List.getElem?_cons_succ] at d0 d1 d2 d3 d4 d5
        have df0 := hz9.free 0
        have df1 := hz9.free 1
        have df2 := hz9.free 2
        have df3 := hz9.free 3
        have df4 := hz9.free 4
        have df5 := hz9.free 5
        clear hz9
        go_wp2
        refine bodyPost_ret (v := .tuple #[.agg #[.slice none 0 0, .int .i64 0, .int .i64 0, .bool false, .slice none 0 0, .int .i64 0], .int .i64 7]) (by simp [results, Tryz.results6, go_sem, d0, d1, d2, d3, d4, d5]) rfl ⟨leS_none _ _ HQ.out, ?_⟩
        exact below_six HB9.out (Nat.le_add_right _ 3) _ _ _ _ _ _
    have e1' : (g == 0) = false := by rw [beq_eq_false_iff_ne]; exact e1
    cases bk
    rotate_left
    · have HQ : Hid (Q = (Ld.Leader.none, 7)) := by
        show Q = _
        rw [HQ0.out, if_pos (.inr rfl)]
      clear HQ0 HWc e1 hn4 hn5 hg0
      go_wp2_with fail
      refine (lebad_any 7 _).mono ?_
      rintro e w9 ⟨rfl, hb9⟩
      have HB9 : Hid (Below w.heap.size w w9) := HBc.out.trans (hb9.mono HBc.out.size)
      have hz9 := HZc.out.below hb9
      clear hb9 HBc HZc
      have d0 := hz9.cell 0
      have d1 := hz9.cell 1
      have d2 := hz9.cell 2
      have d3 := hz9.cell 3
      have d4 := hz9.cell 4
      have d5 := hz9.cell 5
      simp only [List.getElem?_toArray, List.getElem?_cons_zero, List.getElem?_cons_succ] at d0 d1 d2 d3 d4 d5
      have df0 := hz9.free 0
      have df1 := hz9.free 1
      have df2 := hz9.free 2
      have df3 := hz9.free 3
      have df4 := hz9.free 4
      have df5 := hz9.free 5
      clear hz9
      go_wp2
      refine bodyPost_ret (v := .tuple #[.agg #[.slice none 0 0, .int .i64 0, .int .i64 0, .bool false, .slice none 0 0, .int .i64 0], .int .i64 7]) (by simp [results, Tryz.results6, go_sem, d0, d1, d2, d3, d4, d5]) rfl ⟨leS_none _ _ HQ.out, ?_⟩
      exact below_six HB9.out (Nat.le_add_right _ 3) _ _ _ _ _ _
    have HQ : Hid (Q = (⟨rs, nw, g, true, ks, nx⟩, 0)) := by
      show Q = _
      rw [HQ0.out, if_neg (fun e => by rcases e with e | e; exact e1 e; cases e)]
    clear HQ0 e1 hg0
    go_upto_region 58 with fail
    have HX1 : Hid (LdY (fun x => S x ∨ w.heap.size ≤ x) (wc.setCell ⟨w.heap.size + 1, 3, none⟩ (.bool true)) w.heap.size (w.heap.size + 1) ⟨rs, nw, g, true, ks, nx⟩) := (HWc.out.field (l' := ⟨rs, nw, g, true, ks, nx⟩) (i := 3) (u := (.bool true)) rfl rfl (fun _ _ => rfl))
    have HXB : Hid (Below w.heap.size w (wc.setCell ⟨w.heap.size + 1, 3, none⟩ (.bool true))) := (HBc.out.setCell (p := ⟨w.heap.size + 1, 3, none⟩) (Nat.le_succ _) (.bool true))
    have HXZ : Hid (Blk (wc.setCell ⟨w.heap.size + 1, 3, none⟩ (.bool true)) (w.heap.size + 1 + 1 + 1) #[.slice none 0 0, .int .i64 0, .int .i64 0, .bool false, .slice none 0 0, .int .i64 0] 32) := (HZc.out.off (g := w.heap.size + 1) (by omega) (o := 3) (u := (.bool true)))
    clear HWc HBc HZc b0 b1 b2 b3 b4 b5 bf0 bf1 bf2 bf3 bf4 bf5
    generalize (wc.setCell ⟨w.heap.size + 1, 3, none⟩ (.bool true)) = U at HX1 HXB HXZ ⊢
    obtain ⟨g4', k4', g5', k5', hblk', hans'⟩ := HX1.out.told HXZ.out (Nat.le_add_right _ 3) HS.out
    simp only [hn4, hn5] at hblk' hans'
    have HANS : Hid (∀ v0 v1 v2 v3 v4 v5, _) := hans'
    clear hans'
    have b0 := hblk'.cell 0
    have b1 := hblk'.cell 1
    have b2 := hblk'.cell 2
    have b3 := hblk'.cell 3
    have b4 := hblk'.cell 4
    have b5 := hblk'.cell 5
    simp only [List.getElem?_toArray, List.getElem?_cons_zero, List.getElem?_cons_succ] at b0 b1 b2 b3 b4 b5
    clear hblk'
    have d0 := HXZ.out.cell 0
    have d1 := HXZ.out.cell 1
    have d2 := HXZ.out.cell 2
    have d3 := HXZ.out.cell 3
    have d4 := HXZ.out.cell 4
    have d5 := HXZ.out.cell 5
    simp only [List.getElem?_toArray, List.getElem?_cons_zero, List.getElem?_cons_succ] at d0 d1 d2 d3 d4 d5
    have df0 := HXZ.out.free 0
    have df1 := HXZ.out.free 1
    have df2 := HXZ.out.free 2
    have df3 := HXZ.out.free 3
    have df4 := HXZ.out.free 4
    have df5 := HXZ.out.free 5
    clear HXZ
    go_wp2
    refine bodyPost_ret (v := .tuple #[.agg #[.slice (some ⟨g4', 0, none⟩) (n4) k4', .int .i64 nw, .int .i64 g, .bool true, .slice (some ⟨g5', 0, none⟩) n5 k5', .int .i64 (nx)], .int .i64 0]) (by simp [results, Tryz.results6, go_sem, d0, d1, d2, d3, d4, d5]) rfl ⟨?_, ?_⟩
    · rw [HQ.out]
      exact HANS.out _ _ _ _ _ _
    · exact below_six HXB.out (Nat.le_add_right _ 3) _ _ _ _ _ _
  by_cases e9 : rk = 9
  · subst e9
    have HQ0 : Hid (Q = _) := M9.out rfl
    clear M4 M5 M6 M7 M8 M9 M0 e4 e5 e6 e7 e8
    clear HFB HTT HPZ HRc hx1 hx2 hra hi hz0 hz1 hz2
    by_cases e1 : g = 0
    · have HQ : Hid (Q = (Ld.Leader.none, 7)) := by
        show Q = _
        rw [HQ0.out, if_pos (.inl e1)]
      have e1' : (g == 0) = true := by rw [beq_iff_eq]; exact e1
      clear HQ0 HWc HBKc HCc HOO HLD HGG HG4 HG5 hn4 hn5 hg0 e1
      go_wp2_with fail
      refine (lebad_any 7 _).mono ?_
      rintro e w9 ⟨rfl, hb9⟩
      have HB9 : Hid (Below w.heap.size w w9) := HBc.out.trans (hb9.mono HBc.out.size)
      have hz9 := HZc.out.below hb9
      clear hb9 HBc HZc
      have d0 := hz9.cell 0
      have d1 := hz9.cell 1
      have d2 := hz9.cell 2
      have d3 := hz9.cell 3
      have d4 := hz9.cell 4
      have d5 := hz9.cell 5
      simp only [List.getElem?_toArray, List.getElem?_cons_zero, List.getElem?_cons_succ] at d0 d1 d2 d3 d4 d5
      have df0 := hz9.free 0
      have df1 := hz9.free 1
      have df2 := hz9.free 2
      have df3 := hz9.free 3
      have df4 := hz9.free 4
      have df5 := hz9.free 5
      clear hz9
      go_wp2
      refine bodyPost_ret (v := .tuple #[.agg #[.slice none 0 0, .int .i64 0, .int .i64 0, .bool false, .slice none 0 0, .int .i64 0], .int .i64 7]) (by simp [results, Tryz.results6, go_sem, d0, d1, d2, d3, d4, d5]) rfl ⟨leS_none _ _ HQ.out, ?_⟩
      exact below_six HB9.out (Nat.le_add_right _ 3) _ _ _ _ _ _
    have e1' : (g == 0) = false := by rw [beq_eq_false_iff_ne]; exact e1
    have kc0 := HCc.out.cell 0
    have kc1 := HCc.out.cell 1
    have kc2 := HCc.out.cell 2
    have kc3 := HCc.out.cell 3
    have kc4 := HCc.out.cell 4
    simp only [List.getElem?_toArray, List.getElem?_cons_zero, List.getElem?_cons_succ] at kc0 kc1 kc2 kc3 kc4
    go_wp2_with fail
    refine (HOO.out _ _ _ HLD.out).mono ?_
    rintro e wt ⟨rfl, hb⟩
    have HWt : Hid (LdY (fun x => S x ∨ w.heap.size ≤ x) wt w.heap.size (w.heap.size + 1) ⟨rs, nw, g, bk, ks, nx⟩) := HWc.out.below hb
    have HBt : Hid (Below w.heap.size w wt) := HBc.out.trans (hb.mono HBc.out.size)
    have HZt : Hid (Blk wt (w.heap.size + 1 + 1 + 1) #[.slice none 0 0, .int .i64 0, .int .i64 0, .bool false, .slice none 0 0, .int .i64 0] 32) := HZc.out.below hb
    have HBKt : Hid (Blk wt (w.heap.size + 1) #[.slice (some ⟨g4, 0, none⟩) n4 k4, .int .i64 nw, .int .i64 g, .bool bk, .slice (some ⟨g5, 0, none⟩) n5 k5, .int .i64 nx] 32) := HBKc.out.below hb
    clear hb HOO HLD HCc HWc HBc HZc HBKc kc0 kc1 kc2 kc3 kc4 b0 b1 b2 b3 b4 b5 bf0 bf1 bf2 bf3 bf4 bf5 r0 r1 r2 r3 r4 r5 r6
    cases OV
    · have HQ : Hid (Q = (Ld.Leader.none, 7)) := by
        show Q = _
        rw [HQ0.out, if_pos (.inr rfl)]
      clear HQ0 HWt HBKt HGG HG4 HG5 hn4 hn5 hg0 e1
      go_wp2_with fail
      refine (lebad_any 7 _).mono ?_
      rintro e w9 ⟨rfl, hb9⟩
      have HB9 : Hid (Below w.heap.size w w9) := HBt.out.trans (hb9.mono HBt.out.size)
      have hz9 := HZt.out.below hb9
      clear hb9 HBt HZt
      have d0 := hz9.cell 0
      have d1 := hz9.cell 1
      have d2 := hz9.cell 2
      have d3 := hz9.cell 3
      have d4 := hz9.cell 4
      have d5 := hz9.cell 5
      simp only [List.getElem?_toArray, List.getElem?_cons_zero, List.getElem?_cons_succ] at d0 d1 d2 d3 d4 d5
      have df0 := hz9.free 0
      have df1 := hz9.free 1
      have df2 := hz9.free 2
      have df3 := hz9.free 3
      have df4 := hz9.free 4
      have df5 := hz9.free 5
      clear hz9
      go_wp2
      refine bodyPost_ret (v := .tuple #[.agg #[.slice none 0 0, .int .i64 0, .int .i64 0, .bool false, .slice none 0 0, .int .i64 0], .int .i64 7]) (by simp [results, Tryz.results6, go_sem, d0, d1, d2, d3, d4, d5]) rfl ⟨leS_none _ _ HQ.out, ?_⟩
      exact below_six HB9.out (Nat.le_add_right _ 3) _ _ _ _ _ _
    have b0 := HBKt.out.cell 0
    have b1 := HBKt.out.cell 1
    have b2 := HBKt.out.cell 2
    have b3 := HBKt.out.cell 3
    have b4 := HBKt.out.cell 4
    have b5 := HBKt.out.cell 5
    simp only [List.getElem?_toArray, List.getElem?_cons_zero, List.getElem?_cons_succ] at b0 b1 b2 b3 b4 b5
    have bf0 := HBKt.out.free 0
    have bf1 := HBKt.out.free 1
    have bf2 := HBKt.out.free 2
    have bf3 := HBKt.out.free 3
    have bf4 := HBKt.out.free 4
    have bf5 := HBKt.out.free 5
    cases bk
    · have HQ : Hid (Q = (⟨rs, g, 0, false, ks.map endZ, nx⟩, 0)) := by
        show Q = _
        rw [HQ0.out, if_neg (fun e => by rcases e with e | e; exact e1 e; cases e)]
        rfl
      clear HQ0 e1
      go_upto_region 53 with fail
      have HX1 : Hid (LdY (fun x => S x ∨ w.heap.size ≤ x) (((wt.setCell ⟨w.heap.size + 1, 1, none⟩ (.int .i64 g)).setCell ⟨w.heap.size + 1, 2, none⟩ (.int .i64 0)).setCell ⟨w.heap.size + 1, 3, none⟩ (.bool false)) w.heap.size (w.heap.size + 1) ⟨rs, g, 0, false, ks, nx⟩) := (((HWt.out.field (l' := ⟨rs, g, g, false, ks, nx⟩) (i := 1) (u := (.int .i64 g)) rfl rfl (fun _ _ => rfl)).field (l' := ⟨rs, g, 0, false, ks, nx⟩) (i := 2) (u := (.int .i64 0)) rfl rfl (fun _ _ => rfl)).field (l' := ⟨rs, g, 0, false, ks, nx⟩) (i := 3) (u := (.bool false)) rfl rfl (fun _ _ => rfl))
      have HXB : Hid (Below w.heap.size w (((wt.setCell ⟨w.heap.size + 1, 1, none⟩ (.int .i64 g)).setCell ⟨w.heap.size + 1, 2, none⟩ (.int .i64 0)).setCell ⟨w.heap.size + 1, 3, none⟩ (.bool false))) := (((HBt.out.setCell (p := ⟨w.heap.size + 1, 1, none⟩) (Nat.le_succ _) (.int .i64 g)).setCell (p := ⟨w.heap.size + 1, 2, none⟩) (Nat.le_succ _) (.int .i64 0)).setCell (p := ⟨w.heap.size + 1, 3, none⟩) (Nat.le_succ _) (.bool false))
      have HXZ : Hid (Blk (((wt.setCell ⟨w.heap.size + 1, 1, none⟩ (.int .i64 g)).setCell ⟨w.heap.size + 1, 2, none⟩ (.int .i64 0)).setCell ⟨w.heap.size + 1, 3, none⟩ (.bool false)) (w.heap.size + 1 + 1 + 1) #[.slice none 0 0, .int .i64 0, .int .i64 0, .bool false, .slice none 0 0, .int .i64 0] 32) := (((HZt.out.off (g := w.heap.size + 1) (by omega) (o := 1) (u := (.int .i64 g))).off (g := w.heap.size + 1) (by omega) (o := 2) (u := (.int .i64 0))).off (g := w.heap.size + 1) (by omega) (o := 3) (u := (.bool false)))
      have hxk := (((HBKt.out.put 1 (.int .i64 g)).put 2 (.int .i64 0)).put 3 (.bool false))
      clear HWt HBt HZt HBKt b0 b1 b2 b3 b4 b5 bf0 bf1 bf2 bf3 bf4 bf5
      generalize (((wt.setCell ⟨w.heap.size + 1, 1, none⟩ (.int .i64 g)).setCell ⟨w.heap.size + 1, 2, none⟩ (.int .i64 0)).setCell ⟨w.heap.size + 1, 3, none⟩ (.bool false)) = X at HX1 HXB HXZ hxk ⊢
      have hc40 : X.cell? ⟨w.heap.size + 1, 4, none⟩ = some (.slice (some ⟨g5, 0, none⟩) n5 k5) := hxk.cell 4
      clear hxk
      go_wp2_with fail
      go_loopg [248] n5 (fun g' s248 wr => ∃ k : Nat, k ≤ n5 ∧ n5 - k ≤ g' ∧ s248 = .int .i64 k ∧ wr.cell? ⟨w.heap.size + 1, 4, none⟩ = some (.slice (some ⟨g5, 0, none⟩) n5 k5) ∧ Hid (LdY (fun x => S x ∨ w.heap.size ≤ x) wr w.heap.size (w.heap.size + 1) ⟨rs, g, 0, false, (ks.take k).map endZ ++ ks.drop k, nx⟩) ∧ Hid (Below w.heap.size w wr) ∧ Hid (Blk wr (w.heap.size + 1 + 1 + 1) #[.slice none 0 0, .int .i64 0, .int .i64 0, .bool false, .slice none 0 0, .int .i64 0] 32))
      case atStart => exact ⟨0, Nat.zero_le _, by omega, rfl, hc40, HX1, HXB, HXZ⟩
      case round =>
        obtain ⟨k, hk, hgk, rfl, hc4, HWk, HBk, HZk⟩ := hrel
        clear HX1 HXB HXZ hc40
        by_cases hlt : k < n5
        · have hlt' : k < ks.length := by rw [hn5]; exact hlt
          have hkl : k < ((ks.take k).map endZ ++ ks.drop k).length := by simp; omega
          obtain ⟨-, h3, h4, h5, h6, h7, h8, h9, -⟩ := HWk.out.agentAt (k := k) hkl hc4
          rw [end_at hlt'] at h5 h6 h7
          have hst := end_step hlt'
          have HL : Hid (LdY (fun x => S x ∨ w.heap.size ≤ x) (((wr.setCell ⟨g5, k * 3, none⟩ (.int .i64 0)).setCell ⟨g5, k * 3 + 1, none⟩ (.int .i64 (ks.getD k ⟨0, 0, false⟩).tr)).setCell ⟨g5, k * 3 + 2, none⟩ (.bool false)) w.heap.size (w.heap.size + 1) ⟨rs, g, 0, false, (ks.take (k + 1)).map endZ ++ ks.drop (k + 1), nx⟩) := by
            have := h9 ⟨0, (ks.getD k ⟨0, 0, false⟩).tr, false⟩
            simp only at this
            rw [hst] at this
            exact this
          have e1' : (wr.setCell ⟨g5, k * 3, none⟩ (.int .i64 0)).setCell ⟨g5, k * 3 + 1, none⟩ (.int .i64 (ks.getD k ⟨0, 0, false⟩).tr) = wr.setCell ⟨g5, k * 3, none⟩ (.int .i64 0) := setCell_same _ _ _ _ (by rw [World.cell?_setCell_other _ _ _ _ (fun e => by injection e with _ e2; omega)]; exact h6)
          rw [e1'] at HL
          have HBL : Hid (Below w.heap.size w ((wr.setCell ⟨g5, k * 3, none⟩ (.int .i64 0)).setCell ⟨g5, k * 3 + 2, none⟩ (.bool false))) := (HBk.out.setCell (p := ⟨g5, k * 3, none⟩) h3 _).setCell (p := ⟨g5, k * 3 + 2, none⟩) h3 _
          have HZL : Hid (Blk ((wr.setCell ⟨g5, k * 3, none⟩ (.int .i64 0)).setCell ⟨g5, k * 3 + 2, none⟩ (.bool false)) (w.heap.size + 1 + 1 + 1) #[.slice none 0 0, .int .i64 0, .int .i64 0, .bool false, .slice none 0 0, .int .i64 0] 32) := (HZk.out.off HG5.out).off HG5.out
          have hc4' : ((wr.setCell ⟨g5, k * 3, none⟩ (.int .i64 0)).setCell ⟨g5, k * 3 + 2, none⟩ (.bool false)).cell? ⟨w.heap.size + 1, 4, none⟩ = some (.slice (some ⟨g5, 0, none⟩) n5 k5) := by
            rw [World.cell?_setCell_other _ _ _ _ (fun e => by injection e with e1; exact h4 e1.symm), World.cell?_setCell_other _ _ _ _ (fun e => by injection e with e1; exact h4 e1.symm)]
            exact hc4
          have HC4 : Hid (_ = _) := hc4'
          have hf0 := h8 (k * 3)
          have hf2 := h8 (k * 3 + 2)
          have h4' : ¬ w.heap.size + 1 = g5 := h4
          have h4'' : ¬ g5 = w.heap.size + 1 := fun e => h4 e.symm
          have hklt : (k : Int) < n5 := by omega
          clear h8 h9 hst hkl hc4' h3 e1' HWk HBk HZk hlt'
          generalize ks.getD k ⟨0, 0, false⟩ = p at h5 h6 h7
          obtain ⟨s, t, bb⟩ := p
          simp only at h5 h6 h7
          have hk0 : (0 : Int) ≤ (k : Int) := by omega
          have KS : Hid (∀ (x : World) (o : Nat) (v : Value), x.cell? ⟨w.heap.size + 1, 4, none⟩ = some (.slice (some ⟨g5, 0, none⟩) n5 k5) → (x.setCell ⟨g5, o, none⟩ v).cell? ⟨w.heap.size + 1, 4, none⟩ = some (.slice (some ⟨g5, 0, none⟩) n5 k5)) := fun x o v h => by
            rw [World.cell?_setCell_other _ _ _ _ (fun e => by injection e with e1; exact h4 e1.symm)]
            exact h
          go_wp2_with fail
          go_region_held3 (fun w' => w'.cell? ⟨w.heap.size + 1, 4, none⟩ = some (.slice (some ⟨g5, 0, none⟩) n5 k5)) (first | with_reducible assumption | with_reducible exact hc4 | (show (World.drew _).cell? _ = _; exact hc4) | (show (World.drew _).cell? _ = _; exact KS.out _ _ _ hc4) | (show (World.drew _).cell? _ = _; exact KS.out _ _ _ (KS.out _ _ _ hc4))) (fail)
          all_goals
            go_wp2
            go_roundg (n5 - (k + 1))
            case measure => omega
            case rel =>
              refine ⟨k + 1, by omega, by omega, by go_num, ?_, ?_, ?_, ?_⟩
              · exact HC4.out
              · first | exact HL | exact HL.out.below ((Below.refl _ _).drew)
              · first | exact HBL | exact HBL.out.drew
              · first | exact HZL | exact HZL.out.below ((Below.refl _ _).drew)
        · have hk' : k = n5 := by omega
          have HLE : Hid (LdY (fun x => S x ∨ w.heap.size ≤ x) wr w.heap.size (w.heap.size + 1) ⟨rs, g, 0, false, ks.map endZ, nx⟩) := by
            have := HWk.out
            rw [hk', ← hn5, List.take_of_length_le (Nat.le_refl _), List.drop_length, List.append_nil] at this
            exact this
          have hk2 : n5 = k := hk'.symm
          subst hk2
          clear hk hlt HWk hc4
          obtain ⟨g4', k4', g5', k5', hblk', hans'⟩ := HLE.out.told HZk.out (Nat.le_add_right _ 3) HS.out
          simp only [hn4, hn5, List.length_map] at hblk' hans'
          have HANS : Hid (∀ v0 v1 v2 v3 v4 v5, _) := hans'
          clear hans'
          have b0 := hblk'.cell 0
          have b1 := hblk'.cell 1
          have b2 := hblk'.cell 2
          have b3 := hblk'.cell 3
          have b4 := hblk'.cell 4
          have b5 := hblk'.cell 5
          simp only [List.getElem?_toArray, List.getElem?_cons_zero, List.getElem?_cons_succ] at b0 b1 b2 b3 b4 b5
          clear hblk'
          have d0 := HZk.out.cell 0
          have d1 := HZk.out.cell 1
          have d2 := HZk.out.cell 2
          have d3 := HZk.out.cell 3
          have d4 := HZk.out.cell 4
          have d5 := HZk.out.cell 5
          simp only [List.getElem?_toArray, List.getElem?_cons_zero, List.getElem?_cons_succ] at d0 d1 d2 d3 d4 d5
          have df0 := HZk.out.free 0
          have df1 := HZk.out.free 1
          have df2 := HZk.out.free 2
          have df3 := HZk.out.free 3
          have df4 := HZk.out.free 4
          have df5 := HZk.out.free 5
          clear HZk
          go_wp2
          refine bodyPost_ret (v := .tuple #[.agg #[.slice (some ⟨g4', 0, none⟩) (n4) k4', .int .i64 g, .int .i64 0, .bool false, .slice (some ⟨g5', 0, none⟩) n5 k5', .int .i64 (nx)], .int .i64 0]) (by simp [results, Tryz.results6, go_sem, d0, d1, d2, d3, d4, d5]) rfl ⟨?_, ?_⟩
          · rw [HQ.out]
            exact HANS.out _ _ _ _ _ _
          · exact below_six HBk.out (Nat.le_add_right _ 3) _ _ _ _ _ _
    · have HQ : Hid (Q = (⟨rs, nw, 0, false, ks.map endZ, nx⟩, 0)) := by
        show Q = _
        rw [HQ0.out, if_neg (fun e => by rcases e with e | e; exact e1 e; cases e)]
        rfl
      clear HQ0 e1
      go_upto_region 53 with fail
      have HX1 : Hid (LdY (fun x => S x ∨ w.heap.size ≤ x) ((wt.setCell ⟨w.heap.size + 1, 2, none⟩ (.int .i64 0)).setCell ⟨w.heap.size + 1, 3, none⟩ (.bool false)) w.heap.size (w.heap.size + 1) ⟨rs, nw, 0, false, ks, nx⟩) := ((HWt.out.field (l' := ⟨rs, nw, 0, true, ks, nx⟩) (i := 2) (u := (.int .i64 0)) rfl rfl (fun _ _ => rfl)).field (l' := ⟨rs, nw, 0, false, ks, nx⟩) (i := 3) (u := (.bool false)) rfl rfl (fun _ _ => rfl))
      have HXB : Hid (Below w.heap.size w ((wt.setCell ⟨w.heap.size + 1, 2, none⟩ (.int .i64 0)).setCell ⟨w.heap.size + 1, 3, none⟩ (.bool false))) := ((HBt.out.setCell (p := ⟨w.heap.size + 1, 2, none⟩) (Nat.le_succ _) (.int .i64 0)).setCell (p := ⟨w.heap.size + 1, 3, none⟩) (Nat.le_succ _) (.bool false))
      have HXZ : Hid (Blk ((wt.setCell ⟨w.heap.size + 1, 2, none⟩ (.int .i64 0)).setCell ⟨w.heap.size + 1, 3, none⟩ (.bool false)) (w.heap.size + 1 + 1 + 1) #[.slice none 0 0, .int .i64 0, .int .i64 0, .bool false, .slice none 0 0, .int .i64 0] 32) := ((HZt.out.off (g := w.heap.size + 1) (by omega) (o := 2) (u := (.int .i64 0))).off (g := w.heap.size + 1) (by omega) (o := 3) (u := (.bool false)))
      have hxk := ((HBKt.out.put 2 (.int .i64 0)).put 3 (.bool false))
      clear HWt HBt HZt HBKt b0 b1 b2 b3 b4 b5 bf0 bf1 bf2 bf3 bf4 bf5
      generalize ((wt.setCell ⟨w.heap.size + 1, 2, none⟩ (.int .i64 0)).setCell ⟨w.heap.size + 1, 3, none⟩ (.bool false)) = X at HX1 HXB HXZ hxk ⊢
      have hc40 : X.cell? ⟨w.heap.size + 1, 4, none⟩ = some (.slice (some ⟨g5, 0, none⟩) n5 k5) := hxk.cell 4
      clear hxk
      go_wp2_with fail
      go_loopg [248] n5 (fun g' s248 wr => ∃ k : Nat, k ≤ n5 ∧ n5 - k ≤ g' ∧ s248 = .int .i64 k ∧ wr.cell? ⟨w.heap.size + 1, 4, none⟩ = some (.slice (some ⟨g5, 0, none⟩) n5 k5) ∧ Hid (LdY (fun x => S x ∨ w.heap.size ≤ x) wr w.heap.size (w.heap.size + 1) ⟨rs, nw, 0, false, (ks.take k).map endZ ++ ks.drop k, nx⟩) ∧ Hid (Below w.heap.size w wr) ∧ Hid (Blk wr (w.heap.size + 1 + 1 + 1) #[.slice none 0 0, .int .i64 0, .int .i64 0, .bool false, .slice none 0 0, .int .i64 0] 32))
      case atStart => exact ⟨0, Nat.zero_le _, by omega, rfl, hc40, HX1, HXB, HXZ⟩
      case round =>
        obtain ⟨k, hk, hgk, rfl, hc4, HWk, HBk, HZk⟩ := hrel
        clear HX1 HXB HXZ hc40
        by_cases hlt : k < n5
        · have hlt' : k < ks.length := by rw [hn5]; exact hlt
          have hkl : k < ((ks.take k).map endZ ++ ks.drop k).length := by simp; omega
          obtain ⟨-, h3, h4, h5, h6, h7, h8, h9, -⟩ := HWk.out.agentAt (k := k) hkl hc4
          rw [end_at hlt'] at h5 h6 h7
          have hst := end_step hlt'
          have HL : Hid (LdY (fun x => S x ∨ w.heap.size ≤ x) (((wr.setCell ⟨g5, k * 3, none⟩ (.int .i64 0)).setCell ⟨g5, k * 3 + 1, none⟩ (.int .i64 (ks.getD k ⟨0, 0, false⟩).tr)).setCell ⟨g5, k * 3 + 2, none⟩ (.bool false)) w.heap.size (w.heap.size + 1) ⟨rs, nw, 0, false, (ks.take (k + 1)).map endZ ++ ks.drop (k + 1), nx⟩) := by
            have := h9 ⟨0, (ks.getD k ⟨0, 0, false⟩).tr, false⟩
            simp only at this
            rw [hst] at this
            exact this
          have e1' : (wr.setCell ⟨g5, k * 3, none⟩ (.int .i64 0)).setCell ⟨g5, k * 3 + 1, none⟩ (.int .i64 (ks.getD k ⟨0, 0, false⟩).tr) = wr.setCell ⟨g5, k * 3, none⟩ (.int .i64 0) := setCell_same _ _ _ _ (by rw [World.cell?_setCell_other _ _ _ _ (fun e => by injection e with _ e2; omega)]; exact h6)
          rw [e1'] at HL
          have HBL : Hid (Below w.heap.size w ((wr.setCell ⟨g5, k * 3, none⟩ (.int .i64 0)).setCell ⟨g5, k * 3 + 2, none⟩ (.bool false))) := (HBk.out.setCell (p := ⟨g5, k * 3, none⟩) h3 _).setCell (p := ⟨g5, k * 3 + 2, none⟩) h3 _
          have HZL : Hid (Blk ((wr.setCell ⟨g5, k * 3, none⟩ (.int .i64 0)).setCell ⟨g5, k * 3 + 2, none⟩ (.bool false)) (w.heap.size + 1 + 1 + 1) #[.slice none 0 0, .int .i64 0, .int .i64 0, .bool false, .slice none 0 0, .int .i64 0] 32) := (HZk.out.off HG5.out).off HG5.out
          have hc4' : ((wr.setCell ⟨g5, k * 3, none⟩ (.int .i64 0)).setCell ⟨g5, k * 3 + 2, none⟩ (.bool false)).cell? ⟨w.heap.size + 1, 4, none⟩ = some (.slice (some ⟨g5, 0, none⟩) n5 k5) := by
            rw [World.cell?_setCell_other _ _ _ _ (fun e => by injection e with e1; exact h4 e1.symm), World.cell?_setCell_other _ _ _ _ (fun e => by injection e with e1; exact h4 e1.symm)]
            exact hc4
          have HC4 : Hid (_ = _) := hc4'
          have hf0 := h8 (k * 3)
          have hf2 := h8 (k * 3 + 2)
          have h4' : ¬ w.heap.size + 1 = g5 := h4
          have h4'' : ¬ g5 = w.heap.size + 1 := fun e => h4 e.symm
          have hklt : (k : Int) < n5 := by omega
          clear h8 h9 hst hkl hc4' h3 e1' HWk HBk HZk hlt'
          generalize ks.getD k ⟨0, 0, false⟩ = p at h5 h6 h7
          obtain ⟨s, t, bb⟩ := p
          simp only at h5 h6 h7
          have hk0 : (0 : Int) ≤ (k : Int) := by omega
          have KS : Hid (∀ (x : World) (o : Nat) (v : Value), x.cell? ⟨w.heap.size + 1, 4, none⟩ = some (.slice (some ⟨g5, 0, none⟩) n5 k5) → (x.setCell ⟨g5, o, none⟩ v).cell? ⟨w.heap.size + 1, 4, none⟩ = some (.slice (some ⟨g5, 0, none⟩) n5 k5)) := fun x o v h => by
            rw [World.cell?_setCell_other _ _ _ _ (fun e => by injection e with e1; exact h4 e1.symm)]
            exact h
          go_wp2_with fail
          go_region_held3 (fun w' => w'.cell? ⟨w.heap.size + 1, 4, none⟩ = some (.slice (some ⟨g5, 0, none⟩) n5 k5)) (first | with_reducible assumption | with_reducible exact hc4 | (show (World.drew _).cell? _ = _; exact hc4) | (show (World.drew _).cell? _ = _; exact KS.out _ _ _ hc4) | (show (World.drew _).cell? _ = _; exact KS.out _ _ _ (KS.out _ _ _ hc4))) (fail)
          all_goals
            go_wp2
            go_roundg (n5 - (k + 1))
            case measure => omega
            case rel =>
              refine ⟨k + 1, by omega, by omega, by go_num, ?_, ?_, ?_, ?_⟩
              · exact HC4.out
              · first | exact HL | exact HL.out.below ((Below.refl _ _).drew)
              · first | exact HBL | exact HBL.out.drew
              · first | exact HZL | exact HZL.out.below ((Below.refl _ _).drew)
        · have hk' : k = n5 := by omega
          have HLE : Hid (LdY (fun x => S x ∨ w.heap.size ≤ x) wr w.heap.size (w.heap.size + 1) ⟨rs, nw, 0, false, ks.map endZ, nx⟩) := by
            have := HWk.out
            rw [hk', ← hn5, List.take_of_length_le (Nat.le_refl _), List.drop_length, List.append_nil] at this
            exact this
          have hk2 : n5 = k := hk'.symm
          subst hk2
          clear hk hlt HWk hc4
          obtain ⟨g4', k4', g5', k5', hblk', hans'⟩ := HLE.out.told HZk.out (Nat.le_add_right _ 3) HS.out
          simp only [hn4, hn5, List.length_map] at hblk' hans'
          have HANS : Hid (∀ v0 v1 v2 v3 v4 v5, _) := hans'
          clear hans'
          have b0 := hblk'.cell 0
          have b1 := hblk'.cell 1
          have b2 := hblk'.cell 2
          have b3 := hblk'.cell 3
          have b4 := hblk'.cell 4
          have b5 := hblk'.cell 5
          simp only [List.getElem?_toArray, List.getElem?_cons_zero, List.getElem?_cons_succ] at b0 b1 b2 b3 b4 b5
          clear hblk'
          have d0 := HZk.out.cell 0
          have d1 := HZk.out.cell 1
          have d2 := HZk.out.cell 2
          have d3 := HZk.out.cell 3
          have d4 := HZk.out.cell 4
          have d5 := HZk.out.cell 5
          simp only [List.getElem?_toArray, List.getElem?_cons_zero, List.getElem?_cons_succ] at d0 d1 d2 d3 d4 d5
          have df0 := HZk.out.free 0
          have df1 := HZk.out.free 1
          have df2 := HZk.out.free 2
          have df3 := HZk.out.free 3
          have df4 := HZk.out.free 4
          have df5 := HZk.out.free 5
          clear HZk
          go_wp2
          refine bodyPost_ret (v := .tuple #[.agg #[.slice (some ⟨g4', 0, none⟩) (n4) k4', .int .i64 nw, .int .i64 0, .bool false, .slice (some ⟨g5', 0, none⟩) n5 k5', .int .i64 (nx)], .int .i64 0]) (by simp [results, Tryz.results6, go_sem, d0, d1, d2, d3, d4, d5]) rfl ⟨?_, ?_⟩
          · rw [HQ.out]
            exact HANS.out _ _ _ _ _ _
          · exact below_six HBk.out (Nat.le_add_right _ 3) _ _ _ _ _ _
  have HQ : Hid (Q = (Ld.Leader.none, 4)) := M0.out e4 e5 e6 e7 e8 e9
  have e4' : (rk == 4) = false := by rw [beq_eq_false_iff_ne]; exact e4
  have e5' : (rk == 5) = false := by rw [beq_eq_false_iff_ne]; exact e5
  have e6' : (rk == 6) = false := by rw [beq_eq_false_iff_ne]; exact e6
  have e7' : (rk == 7) = false := by rw [beq_eq_false_iff_ne]; exact e7
  have e8' : (rk == 8) = false := by rw [beq_eq_false_iff_ne]; exact e8
  have e9' : (rk == 9) = false := by rw [beq_eq_false_iff_ne]; exact e9
  clear M4 M5 M6 M7 M8 M9 M0 HFB HTT HOO HLD HPZ HGG HCc HBKc HRc HWc hx1 hx2 hra hn4 hn5 hg0 e4 e5 e6 e7 e8 e9 hi hz0 hz1 hz2
  go_wp2_with fail
  refine (lebad_any 4 _).mono ?_
  rintro e w9 ⟨rfl, hb9⟩
  have HB9 : Hid (Below w.heap.size w w9) := HBc.out.trans (hb9.mono HBc.out.size)
  have hz9 := HZc.out.below hb9
  clear hb9 HBc HZc
  have d0 := hz9.cell 0
  have d1 := hz9.cell 1
  have d2 := hz9.cell 2
  have d3 := hz9.cell 3
  have d4 := hz9.cell 4
  have d5 := hz9.cell 5
  simp only [List.getElem?_toArray, List.getElem?_cons_zero, List.getElem?_cons_succ] at d0 d1 d2 d3 d4 d5
  have df0 := hz9.free 0
  have df1 := hz9.free 1
  have df2 := hz9.free 2
  have df3 := hz9.free 3
  have df4 := hz9.free 4
  have df5 := hz9.free 5
  clear hz9
  go_wp2
  refine bodyPost_ret (v := .tuple #[.agg #[.slice none 0 0, .int .i64 0, .int .i64 0, .bool false, .slice none 0 0, .int .i64 0], .int .i64 4]) (by simp [results, Tryz.results6, go_sem, d0, d1, d2, d3, d4, d5]) rfl ⟨leS_none _ _ HQ.out, ?_⟩
  exact below_six HB9.out (Nat.le_add_right _ 3) _ _ _ _ _ _

end Go.Proofs.YtmlhipdfjnamiaaGreat
