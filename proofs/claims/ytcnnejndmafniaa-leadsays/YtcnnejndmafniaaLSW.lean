/- The walk of the law LeadSays. -/
import Derived.Test.YtcnnejndmafniaaLOC
import Derived.Test.YtcnnejndmafniaaLL1
import Derived.Test.YtcnnejndmafniaaLG3
import Derived.Test.YtcnnejndmafniaaME
namespace Go.Proofs.Ytcnnejndmafniaa
open Go.RowKit
/-- a leader in a block: its rows stay whatever is written into that block or into newer ones -/
def LdH (w : World) (g : Nat) (l : Ld.Leader) : Prop := ∃ b4 e4 b5 e5, Blk w g #[.slice b4 l.rels.length e4, .int .i64 l.now, .int .i64 l.goal, .bool l.back, .slice b5 l.ags.length e5, .int .i64 l.next] 32 ∧ Keep (fun x => g ≤ x) (fun w => LdAt w l (.slice b4 l.rels.length e4) (.slice b5 l.ags.length e5)) w
theorem LdH.below {w w' : World} {g : Nat} {l : Ld.Leader} (h : LdH w g l) (hb : Below w.heap.size w w') : LdH w' g l := by
  obtain ⟨b4, e4, b5, e5, h1, h2⟩ := h
  exact ⟨b4, e4, b5, e5, h1.below hb, Keep.below h2 hb⟩
theorem aside_sub {S T : Nat → Prop} {w w' : World} (h : Aside S w w') (hs : ∀ x, S x → T x) : Aside T w w' := ⟨h.1, h.2.1, h.2.2.1, h.2.2.2.1, fun b hl hn => h.2.2.2.2 b hl (fun hx => hn (hs b hx))⟩
theorem LdH.aside {w w' : World} {g f : Nat} {l : Ld.Leader} (h : LdH w g l) (ha : Aside (fun x => x = f) w w') (hf : g < f) : LdH w' g l := by
  obtain ⟨b4, e4, b5, e5, h1, h2⟩ := h
  exact ⟨b4, e4, b5, e5, h1.aside ha (show ¬ g = f by omega), Keep.aside h2 (aside_sub ha (fun x (hx : x = f) => by omega))⟩
set_option maxHeartbeats 16000000 in
set_option maxRecDepth 100000 in
theorem lsays_any (cf : Ld.Config) (A B D : Value) (l : Ld.Leader) (Y Z : Value) (k : Int) (m : Ld.Leader) (Y2 Z2 : Value) (w : World) (hC : CfAt w cf A B D) (hL : LdAt w l Y Z) (hM : LdAt w m Y2 Z2) (hw : ∀ p ∈ l.rels, -9223372036854775808 ≤ p.1 ∧ p.1 < 9223372036854775808) :
    Calls Try.prog 3 #[cfV cf A B D, leV l Y Z, .int .i64 k, leV m Y2 Z2] w fun e w' => e = .returned (.bool true) ∧ Below w.heap.size w w' := by
  obtain ⟨cx, hcx⟩ : ∃ x, x = cf := ⟨_, rfl⟩
  obtain ⟨lx, hlx⟩ : ∃ x, x = l := ⟨_, rfl⟩
  obtain ⟨N, hN⟩ : ∃ x, x = (Ld.newL cf).1 := ⟨_, rfl⟩
  have HNW : Hid (∀ w', Below w.heap.size w w' → Calls Try.prog 6 #[cfV cf A B D] w' fun e w'' => leN w'' w'.heap.size (N, Ld.chkConfig cx) e ∧ Below w'.heap.size w' w'') := fun w' hb => by
    have h := ldNew_any cf A B D w' (hC.below hb)
    have e : Ld.newL cf = (N, Ld.chkConfig cx) := by rw [hN, hcx]; unfold Ld.newL; split <;> simp_all
    rw [e] at h; exact h
  have HTN : Hid (∀ w', Below w.heap.size w w' → Calls Try.prog 7 #[cfV cf A B D, leV l Y Z, .int .i64 k] w' fun e w'' => leT w'' (Ld.turnL cx lx k) e ∧ Below w'.heap.size w' w'') := fun w' hb => by rw [hcx, hlx]; exact ldTurn_any cf A B D l Y Z k w' (hC.below hb) (hL.below hb)
  have HOV : Hid (∀ w', Below w.heap.size w w' → Calls Try.prog 8 #[cfV cf A B D, leV l Y Z] w' fun e w'' => e = .returned (.tuple #[.bool (Ld.overL cx lx).1, .int .i64 (Ld.overL cx lx).2]) ∧ Below w'.heap.size w' w'') := fun w' hb => by rw [hcx, hlx]; exact ldOver_any cf A B D l Y Z w' (hC.below hb) (hL.below hb)
  have HCC : Hid (∀ w', Below w.heap.size w w' → Calls Try.prog 9 #[cfV cf A B D] w' fun e w'' => e = .returned (.int .i64 (Ld.chkConfig cx)) ∧ Below w'.heap.size w' w'') := fun w' hb => by rw [hcx]; exact ckConfR_any cf A B D w' (hC.below hb)
  have HCL : Hid (∀ w', Below w.heap.size w w' → Calls Try.prog 10 #[cfV cf A B D, leV l Y Z] w' fun e w'' => e = .returned (.int .i64 (Ld.chkLeader cx lx)) ∧ Below w'.heap.size w' w'') := fun w' hb => by rw [hcx, hlx]; exact ckLeadR_any cf A B D l Y Z w' (hC.below hb) (hL.below hb) hw
  have HFR : Hid (Ld.chkConfig cx = 0 → ∀ w', Below w.heap.size w w' → Calls Try.prog 11 #[cfV cf A B D] w' fun e w'' => (∃ gR gK, e = .returned (leV N (.slice (some ⟨gR, 0, none⟩) 1 1) (.slice (some ⟨gK, 0, none⟩) (Ld.many cx) (Ld.many cx))) ∧ w'.heap.size ≤ gR ∧ w'.heap.size ≤ gK ∧ Keep (fun x => w.heap.size ≤ x ∧ x ≠ gR ∧ x ≠ gK) (fun w => LdAt w N (.slice (some ⟨gR, 0, none⟩) 1 1) (.slice (some ⟨gK, 0, none⟩) (Ld.many cx) (Ld.many cx))) w'') ∧ Below w'.heap.size w' w'') := fun h w' hb => by
    rw [hcx] at h ⊢
    have e : N = Ld.freshL cf := by rw [hN]; unfold Ld.newL; rw [if_pos h]
    rw [e]; exact freshR_any cf A B D w w' hC hb h
  have HNO : Hid (¬ Ld.chkConfig cx = 0 → N = Ld.Leader.none) := fun h => by rw [hcx] at h; rw [hN]; unfold Ld.newL; rw [if_neg h]
  have HAG : Hid (∀ w', Below w.heap.size w w' → Calls Try.prog 12 #[cfV cf A B D] w' fun e w'' => e = .returned (.int .i64 (Ld.agents cx)) ∧ Below w'.heap.size w' w'') := fun w' hb => by rw [hcx]; exact ldAgents_any cf A B D w' (hC.below hb)
  have HAR : Hid (∀ w', Below w.heap.size w w' → Calls Try.prog 18 #[cfV cf A B D] w' fun e w'' => e = .returned (.int .i64 (agR cx)) ∧ Below w'.heap.size w' w'') := fun w' hb => by rw [hcx]; exact agR_any cf A B D w' (hC.below hb)
  have HLC : Hid (∀ w', Below w.heap.size w w' → Calls Try.prog 14 #[cfV cf A B D] w' fun e w'' => e = .returned (.int .i64 (Ld.chkConfig cx)) ∧ Below w'.heap.size w' w'') := fun w' hb => by rw [hcx]; exact config_any cf A B D w' (hC.below hb)
  have HLKc : Hid (∀ w', Below w.heap.size w w' → Calls Try.prog 15 #[cfV cf A B D, leV l Y Z] w' fun e w'' => e = .returned (.int .i64 (Ld.chkLeader cx lx)) ∧ Below w'.heap.size w' w'') := fun w' hb => by rw [hcx, hlx]; exact ldCheck_any cf A B D l Y Z w' (hC.below hb) (hL.below hb)
  have HS1 : Hid (∀ w', Below w.heap.size w w' → Calls Try.prog 16 #[leV l Y Z, leV m Y2 Z2] w' fun e w'' => e = .returned (.bool (Ld.sameLeader l m)) ∧ Below w'.heap.size w' w'') := fun w' hb => ldSame_any l m Y Z Y2 Z2 w' (hL.below hb) (hM.below hb)
  have HS2 : Hid (∀ w', Below w.heap.size w w' → Calls Try.prog 17 #[leV l Y Z, leV m Y2 Z2] w' fun e w'' => e = .returned (.bool (Ld.sameLeader l m)) ∧ Below w'.heap.size w' w'') := fun w' hb => sameLR_any l m Y Z Y2 Z2 w' (hL.below hb) (hM.below hb)
  have HIO : Hid (Ld.chkLeader cx lx = 0 → ∀ w', Below w.heap.size w w' → Calls Try.prog 19 #[cfV cf A B D, leV l Y Z] w' fun e w'' => e = .returned (.bool (Ld.isOver cx lx)) ∧ Below w'.heap.size w' w'') := fun h w' hb => by rw [hcx, hlx] at h ⊢; exact overR_any cf A B D l Y Z w' (hL.below hb) h
  have HIT : Hid (Ld.chkLeader cx lx = 0 → 0 ≤ k → k < lx.ags.length → ∀ w', Below w.heap.size w w' → Calls Try.prog 21 #[cfV cf A B D, leV l Y Z, .int .i64 k] w' fun e w'' => e = .returned (.bool (Ld.isTurn cx lx k.toNat)) ∧ Below w'.heap.size w' w'') := fun h h0 h1 w' hb => by
    rw [hcx, hlx] at h; rw [hlx] at h1; rw [hcx, hlx]
    obtain ⟨j, rfl⟩ : ∃ j : Nat, k = j := ⟨k.toNat, by omega⟩
    exact turnR_any cf A B D l Y Z j w' (hC.below hb) (hL.below hb) h (by omega)
  have HGO : Hid (Ld.chkLeader cx lx = 0 → lx.goal ≠ 0 → ∃ y, PinsAt w y (Ld.goalOf lx).2 ∧ ∀ wv, Below w.heap.size w wv → Calls Try.prog 22 #[leV l Y Z] wv fun e w' => e = .returned (relV (Ld.goalOf lx).1 y) ∧ Below wv.heap.size wv w') := fun h h1 => by rw [hcx, hlx] at h; rw [hlx] at h1 ⊢; exact goalR_fix cf l Y Z w hL h h1
  have HTL : Hid (Ld.turnL cx lx k = if Ld.chkLeader cx lx = 0 then (if 0 ≤ k ∧ k < lx.ags.length then (if lx.goal = 0 then (false, (0, []), 7) else (Ld.isTurn cx lx k.toNat, Ld.goalOf lx, 0)) else (false, (0, []), 5)) else (false, (0, []), Ld.chkLeader cx lx)) := rfl
  have HOL : Hid (Ld.overL cx lx = if Ld.chkLeader cx lx = 0 then (if lx.goal = 0 then (false, 7) else (Ld.isOver cx lx, 0)) else (false, Ld.chkLeader cx lx)) := rfl
  have HAA : Hid (Ld.agents cx = agR cx ∨ (7 ≤ Ld.agents cx ∧ 7 ≤ agR cx)) := agR_agents cx
  obtain ⟨f, L, R, W, d⟩ := cf
  obtain ⟨a1, c1, rfl⟩ := pins_slice hC.1
  obtain ⟨a2, c2, rfl⟩ := rules_slice hC.2.1
  obtain ⟨a3, c3, rfl⟩ := waves_slice hC.2.2
  obtain ⟨a4, c4, rfl⟩ := relA_slice hL.1
  obtain ⟨a5, c5, rfl⟩ := knows_slice hL.2
  obtain ⟨a6, c6, rfl⟩ := relA_slice hM.1
  obtain ⟨a7, c7, rfl⟩ := knows_slice hM.2
  obtain ⟨rs, nw, g, bk, ks, nx⟩ := l
  obtain ⟨rs2, mw, mg, mb, ks2, mx⟩ := m
  have HLG : Hid (lx.goal = g) := by rw [hlx]; rfl
  have HLK : Hid (lx.ags.length = ks.length) := by rw [hlx]; rfl
  have hk5 := hL.2.1
  simp only at hk5
  clear hC hL hM hw hcx hlx hN
  unfold cfV cfC at HNW HTN HOV HCC HCL HFR HAG HAR HLC HLKc HIO HIT
  unfold leV leC at HTN HOV HCL HLKc HS1 HS2 HIO HIT HGO
  unfold cfV cfC leV leC
  simp only at HNW HTN HOV HCC HCL HFR HAG HAR HLC HLKc HS1 HS2 HIO HIT HGO
  simp only
  generalize Ld.sameLeader ⟨rs, nw, g, bk, ks, nx⟩ ⟨rs2, mw, mg, mb, ks2, mx⟩ = SM at HS1 HS2
  generalize Ld.chkConfig cx = CC at HNW HCC HFR HNO HLC
  generalize Ld.chkLeader cx lx = CL at HCL HLKc HIO HIT HGO HTL HOL
  generalize Ld.agents cx = AG at HAG HAA
  generalize agR cx = AR at HAR HAA
  generalize Ld.turnL cx lx k = TQ at HTN HTL
  generalize Ld.overL cx lx = OQ at HOV HOL
  obtain ⟨tb, ⟨ri, rl⟩, te⟩ := TQ
  obtain ⟨ob, oe⟩ := OQ
  simp only at HOV
  rw [HLG.out, HLK.out] at HTL
  rw [HLG.out] at HOL
  generalize L.length = n1 at *
  generalize R.length = n2 at *
  generalize W.length = n3 at *
  generalize rs.length = n4 at *
  generalize hn5 : ks.length = n5 at *
  generalize rs2.length = n6 at *
  generalize ks2.length = n7 at *
  obtain ⟨hB0, hK0, hG0, hM0⟩ := box3 w #[.int .i64 f, .slice a1 n1 c1, .slice a2 n2 c2, .slice a3 n3 c3, .int .i64 d] #[.slice a4 n4 c4, .int .i64 nw, .int .i64 g, .bool bk, .slice a5 n5 c5, .int .i64 nx] #[.slice a6 n6 c6, .int .i64 mw, .int .i64 mg, .bool mb, .slice a7 n7 c7, .int .i64 mx] 28 32 32
  go_enter Try.func3, Try.ntmps3
  go_wp2_with fail
  generalize (((w.alloc (.cells #[.int .i64 f, .slice a1 n1 c1, .slice a2 n2 c2, .slice a3 n3 c3, .int .i64 d] 28)).alloc (.cells #[.slice a4 n4 c4, .int .i64 nw, .int .i64 g, .bool bk, .slice a5 n5 c5, .int .i64 nx] 32)).alloc (.cells #[.slice a6 n6 c6, .int .i64 mw, .int .i64 mg, .bool mb, .slice a7 n7 c7, .int .i64 mx] 32)) = V0 at *
  have HB0 : Hid (Below w.heap.size w V0) := hB0
  have HK0 : Hid (Blk V0 w.heap.size #[.int .i64 f, .slice a1 n1 c1, .slice a2 n2 c2, .slice a3 n3 c3, .int .i64 d] 28) := hK0
  have HG0 : Hid (Blk V0 (w.heap.size + 1) #[.slice a4 n4 c4, .int .i64 nw, .int .i64 g, .bool bk, .slice a5 n5 c5, .int .i64 nx] 32) := hG0
  have HM0 : Hid (Blk V0 (w.heap.size + 1 + 1) #[.slice a6 n6 c6, .int .i64 mw, .int .i64 mg, .bool mb, .slice a7 n7 c7, .int .i64 mx] 32) := hM0
  have hsz : w.heap.size + 1 + 1 < V0.heap.size := hM0.lt
  clear hB0 hK0 hG0 hM0
  refine (HNW.out _ HB0.out).mono ?_
  rintro e w1 ⟨⟨Yn, Zn, rfl, hnew⟩, hb1⟩
  simp only at hnew
  have hY := hnew.here
  obtain ⟨p4, q4, rfl⟩ := relA_slice hY.1
  obtain ⟨p5, q5, rfl⟩ := knows_slice hY.2
  simp only [leV, leC]
  have hba1 : Below w1.heap.size w1 (w1.alloc (.cells #[.slice p4 N.rels.length q4, .int .i64 N.now, .int .i64 N.goal, .bool N.back, .slice p5 N.ags.length q5, .int .i64 N.next] 32)) := (box1 w1 _ _).1
  have HB1 : Hid (Below V0.heap.size V0 (w1.alloc (.cells #[.slice p4 N.rels.length q4, .int .i64 N.now, .int .i64 N.goal, .bool N.back, .slice p5 N.ags.length q5, .int .i64 N.next] 32))) := hb1.trans (hba1.mono hb1.size)
  have HN1 : Hid (LdH (w1.alloc (.cells #[.slice p4 N.rels.length q4, .int .i64 N.now, .int .i64 N.goal, .bool N.back, .slice p5 N.ags.length q5, .int .i64 N.next] 32)) w1.heap.size N) := ⟨p4, q4, p5, q5, (box1 w1 _ _).2, Keep.grow hnew hba1 (fun x (hx : w1.heap.size ≤ x) => .inr hx)⟩
  have HGN1 : Hid (V0.heap.size ≤ w1.heap.size) := hb1.size
  clear hb1 hba1 hnew hY HNW
  go_upto_region 2 with fail
  generalize (w1.alloc (.cells #[.slice p4 N.rels.length q4, .int .i64 N.now, .int .i64 N.goal, .bool N.back, .slice p5 N.ags.length q5, .int .i64 N.next] 32)) = V1 at *
  generalize w1.heap.size = gn at *
  have kc0 := (HK0.out.below HB1.out).cell 0
  have kc1 := (HK0.out.below HB1.out).cell 1
  have kc2 := (HK0.out.below HB1.out).cell 2
  have kc3 := (HK0.out.below HB1.out).cell 3
  have kc4 := (HK0.out.below HB1.out).cell 4
  simp only [List.getElem?_toArray, List.getElem?_cons_zero, List.getElem?_cons_succ] at kc0 kc1 kc2 kc3 kc4
  have kg0 := (HG0.out.below HB1.out).cell 0
  have kg1 := (HG0.out.below HB1.out).cell 1
  have kg2 := (HG0.out.below HB1.out).cell 2
  have kg3 := (HG0.out.below HB1.out).cell 3
  have kg4 := (HG0.out.below HB1.out).cell 4
  have kg5 := (HG0.out.below HB1.out).cell 5
  simp only [List.getElem?_toArray, List.getElem?_cons_zero, List.getElem?_cons_succ] at kg0 kg1 kg2 kg3 kg4 kg5
  go_wp2_with fail
  refine (HTN.out _ (HB0.out.trans (HB1.out.mono HB0.out.size))).mono ?_
  rintro e w2 ⟨⟨y, rfl, hp⟩, hb2⟩
  simp only at hp ⊢
  obtain ⟨ya, yc, rfl⟩ := pins_slice hp
  have hba2 : Below w2.heap.size w2 (w2.alloc (.cells #[.int .i64 ri, .slice ya rl.length yc] 24)) := (box1 w2 _ _).1
  have HB2 : Hid (Below V1.heap.size V1 (w2.alloc (.cells #[.int .i64 ri, .slice ya rl.length yc] 24))) := hb2.trans (hba2.mono hb2.size)
  have HR2 : Hid (Blk (w2.alloc (.cells #[.int .i64 ri, .slice ya rl.length yc] 24)) w2.heap.size #[.int .i64 ri, .slice ya rl.length yc] 24) := (box1 w2 _ _).2
  have HP2 : Hid (Keep (fun x => w2.heap.size ≤ x) (fun w => PinsAt w (.slice ya rl.length yc) rl) (w2.alloc (.cells #[.int .i64 ri, .slice ya rl.length yc] 24))) := Keep.older hp (pins_stab _ _) (fun b h => h) hba2
  have HGR2 : Hid (V1.heap.size ≤ w2.heap.size) := hb2.size
  clear hb2 hba2 hp HTN kc0 kc1 kc2 kc3 kc4 kg0 kg1 kg2 kg3 kg4 kg5
  go_upto_region 3 with fail
  generalize (w2.alloc (.cells #[.int .i64 ri, .slice ya rl.length yc] 24)) = V2 at *
  generalize w2.heap.size = gr at *
  have HB2' : Hid (Below V0.heap.size V0 V2) := HB1.out.trans (HB2.out.mono HB1.out.size)
  have HN2 : Hid (LdH V2 gn N) := LdH.below HN1.out HB2.out
  clear HB1 HN1 HB2
  have kc0 := (HK0.out.below HB2'.out).cell 0
  have kc1 := (HK0.out.below HB2'.out).cell 1
  have kc2 := (HK0.out.below HB2'.out).cell 2
  have kc3 := (HK0.out.below HB2'.out).cell 3
  have kc4 := (HK0.out.below HB2'.out).cell 4
  simp only [List.getElem?_toArray, List.getElem?_cons_zero, List.getElem?_cons_succ] at kc0 kc1 kc2 kc3 kc4
  have kg0 := (HG0.out.below HB2'.out).cell 0
  have kg1 := (HG0.out.below HB2'.out).cell 1
  have kg2 := (HG0.out.below HB2'.out).cell 2
  have kg3 := (HG0.out.below HB2'.out).cell 3
  have kg4 := (HG0.out.below HB2'.out).cell 4
  have kg5 := (HG0.out.below HB2'.out).cell 5
  simp only [List.getElem?_toArray, List.getElem?_cons_zero, List.getElem?_cons_succ] at kg0 kg1 kg2 kg3 kg4 kg5
  go_wp2_with fail
  refine (HOV.out _ (HB0.out.trans (HB2'.out.mono HB0.out.size))).mono ?_
  rintro e V3 ⟨rfl, hb3⟩
  have HB3 : Hid (Below V0.heap.size V0 V3) := HB2'.out.trans (hb3.mono HB2'.out.size)
  have HN3 : Hid (LdH V3 gn N) := LdH.below HN2.out hb3
  have HR3 : Hid (Blk V3 gr #[.int .i64 ri, .slice ya rl.length yc] 24) := HR2.out.below hb3
  have HP3 : Hid (Keep (fun x => gr ≤ x) (fun w => PinsAt w (.slice ya rl.length yc) rl) V3) := Keep.below HP2.out hb3
  clear hb3 HB2' HN2 HR2 HP2 HOV kc0 kc1 kc2 kc3 kc4 kg0 kg1 kg2 kg3 kg4 kg5
  go_upto_region 4 with fail
  have cl1 := fun (d' : Nat) (os : Array Obj) => Calls.regrown_of (HCC.out (Sort.grow (redrawn V3 d') os) (HB0.out.trans ((HB3.out.trans ((below_regrown V3 d' os).mono HB3.out.size)).mono HB0.out.size)))
  have cl2 := fun (d' : Nat) (os : Array Obj) => Calls.regrown_of (HCL.out (Sort.grow (redrawn V3 d') os) (HB0.out.trans ((HB3.out.trans ((below_regrown V3 d' os).mono HB3.out.size)).mono HB0.out.size)))
  have rc0 := cell_regrown (show _ = some _ from (HK0.out.below HB3.out).cell 0)
  have rc1 := cell_regrown (show _ = some _ from (HK0.out.below HB3.out).cell 1)
  have rc2 := cell_regrown (show _ = some _ from (HK0.out.below HB3.out).cell 2)
  have rc3 := cell_regrown (show _ = some _ from (HK0.out.below HB3.out).cell 3)
  have rc4 := cell_regrown (show _ = some _ from (HK0.out.below HB3.out).cell 4)
  have rg0 := cell_regrown (show _ = some _ from (HG0.out.below HB3.out).cell 0)
  have rg1 := cell_regrown (show _ = some _ from (HG0.out.below HB3.out).cell 1)
  have rg2 := cell_regrown (show _ = some _ from (HG0.out.below HB3.out).cell 2)
  have rg3 := cell_regrown (show _ = some _ from (HG0.out.below HB3.out).cell 3)
  have rg4 := cell_regrown (show _ = some _ from (HG0.out.below HB3.out).cell 4)
  have rg5 := cell_regrown (show _ = some _ from (HG0.out.below HB3.out).cell 5)
  refine wp_region_quiet_below (by kernel_rfl) (by kernel_rfl) ?_
  repeat (go_big_quiet_step (first | with_reducible exact cl1 _ _ | with_reducible exact cl2 _ _))
  refine wpQuiet_nil ?_
  intro _ hw'
  obtain ⟨⟨dq, osq⟩, hw''⟩ := hw'
  subst hw''
  have hq4 := below_regrown V3 dq osq
  have HB4 : Hid (Below V0.heap.size V0 (Sort.grow (redrawn V3 dq) osq)) := HB3.out.trans (hq4.mono HB3.out.size)
  have HN4 : Hid (LdH (Sort.grow (redrawn V3 dq) osq) gn N) := LdH.below HN3.out hq4
  have HR4 : Hid (Blk (Sort.grow (redrawn V3 dq) osq) gr #[.int .i64 ri, .slice ya rl.length yc] 24) := HR3.out.below hq4
  have HP4 : Hid (Keep (fun x => gr ≤ x) (fun w => PinsAt w (.slice ya rl.length yc) rl) (Sort.grow (redrawn V3 dq) osq)) := Keep.below HP3.out hq4
  clear cl1 cl2 hq4 HB3 HN3 HR3 HP3 HCC
  clear rc0 rc1 rc2 rc3 rc4 rg0 rg1 rg2 rg3 rg4 rg5
  generalize (Sort.grow (redrawn V3 dq) osq) = V4 at *
  have hbx := box1 V4 #[.slice none 0 0, .int .i64 0, .int .i64 0, .bool false, .slice none 0 0, .int .i64 0] 32
  have HB5 : Hid (Below V0.heap.size V0 (V4.alloc (.cells #[.slice none 0 0, .int .i64 0, .int .i64 0, .bool false, .slice none 0 0, .int .i64 0] 32))) := HB4.out.trans (hbx.1.mono HB4.out.size)
  have HN5 : Hid (LdH (V4.alloc (.cells #[.slice none 0 0, .int .i64 0, .int .i64 0, .bool false, .slice none 0 0, .int .i64 0] 32)) gn N) := LdH.below HN4.out hbx.1
  have HR5 : Hid (Blk (V4.alloc (.cells #[.slice none 0 0, .int .i64 0, .int .i64 0, .bool false, .slice none 0 0, .int .i64 0] 32)) gr #[.int .i64 ri, .slice ya rl.length yc] 24) := HR4.out.below hbx.1
  have HP5 : Hid (Keep (fun x => gr ≤ x) (fun w => PinsAt w (.slice ya rl.length yc) rl) (V4.alloc (.cells #[.slice none 0 0, .int .i64 0, .int .i64 0, .bool false, .slice none 0 0, .int .i64 0] 32))) := Keep.below HP4.out hbx.1
  have HF5 : Hid (Blk (V4.alloc (.cells #[.slice none 0 0, .int .i64 0, .int .i64 0, .bool false, .slice none 0 0, .int .i64 0] 32)) V4.heap.size #[.slice none 0 0, .int .i64 0, .int .i64 0, .bool false, .slice none 0 0, .int .i64 0] 32) := hbx.2
  have HZ5 : Hid (V0.heap.size ≤ V4.heap.size ∧ gn < V4.heap.size ∧ gr < V4.heap.size) := ⟨HB4.out.size, (by obtain ⟨_, _, _, _, h, _⟩ := HN4.out; exact h.lt), HR4.out.lt⟩
  clear hbx HB4 HN4 HR4 HP4
  go_upto_region 6 with fail
  generalize (V4.alloc (.cells #[.slice none 0 0, .int .i64 0, .int .i64 0, .bool false, .slice none 0 0, .int .i64 0] 32)) = V5 at *
  generalize V4.heap.size = gf at *
  go_cut [46] from 45 to 46 (fun s46 wx => ∃ b : Bool, s46 = .bool b ∧ Hid (b = (CC == 0)) ∧ V5 = wx)
  case first =>
    go_wp2_with fail
    go_meet
    case rel => exact ⟨_, rfl, rfl, rfl⟩
  case rest =>
  obtain ⟨b46, rfl, H46, rfl⟩ := hcut
  go_upto_if 46 with fail
  go_cut [] from 47 to 48 (fun wx => Hid (LdB wx gf N) ∧ Hid (Aside (fun x => x = gf) V5 wx))
  case first =>
    cases b46
    · have hNn := HNO.out (by have h := H46.out; exact fun e => by rw [e] at h; exact absurd h (by decide))
      have HF6 : Hid (LdB V5 gf N) := by rw [hNn]; exact ⟨none, 0, none, 0, HF5.out, fun w' _ => ld_none w'⟩
      clear hNn HFR HNO HN5
      go_wp2_with fail
      go_meet
      case rel => exact ⟨HF6, aside_refl _ _⟩
    · have hFC := HFR.out (by have h := H46.out; exact eq_of_beq h.symm) V5 (HB0.out.trans (HB5.out.mono HB0.out.size))
      have HSZ : Hid (w.heap.size ≤ gf) := Nat.le_trans HB0.out.size HZ5.out.1
      clear HFR HNO H46
      have kc0 := (HK0.out.below HB5.out).cell 0
      have kc1 := (HK0.out.below HB5.out).cell 1
      have kc2 := (HK0.out.below HB5.out).cell 2
      have kc3 := (HK0.out.below HB5.out).cell 3
      have kc4 := (HK0.out.below HB5.out).cell 4
      simp only [List.getElem?_toArray, List.getElem?_cons_zero, List.getElem?_cons_succ] at kc0 kc1 kc2 kc3 kc4
      go_wp2_with fail
      refine hFC.mono ?_
      rintro e w6 ⟨⟨gR, gK, rfl, hgR, hgK, hkp⟩, hb6⟩
      have hh := hkp.here
      obtain ⟨x4, y4, ex4⟩ := relA_slice hh.1
      obtain ⟨x5, y5, ex5⟩ := knows_slice hh.2
      have HF6 := HF5.out.below hb6
      have hgf : gf < V5.heap.size := HF5.out.lt
      have HO6 : Hid (Off gf (fun w => LdAt w N (.slice (some ⟨gR, 0, none⟩) 1 1) (.slice (some ⟨gK, 0, none⟩) (Ld.many cx) (Ld.many cx))) w6) := Keep.sub hkp (fun x (hx : x = gf) => ⟨by rw [hx]; exact HSZ.out, by omega, by omega⟩)
      rw [ex4, ex5] at HO6
      have HA6 : Hid (Aside (fun x => x = gf) V5 w6) := aside_of_below hb6
      simp only [leV, leC]
      rw [ex4, ex5]
      have jf0 := HF6.cell 0
      have jf1 := HF6.cell 1
      have jf2 := HF6.cell 2
      have jf3 := HF6.cell 3
      have jf4 := HF6.cell 4
      have jf5 := HF6.cell 5
      simp only [List.getElem?_toArray, List.getElem?_cons_zero, List.getElem?_cons_succ] at jf0 jf1 jf2 jf3 jf4 jf5
      have jff0 := HF6.free 0
      have jff1 := HF6.free 1
      have jff2 := HF6.free 2
      have jff3 := HF6.free 3
      have jff4 := HF6.free 4
      have jff5 := HF6.free 5
      have HBF6 : Hid (Blk w6 gf _ 32) := HF6
      clear hFC hkp hb6 hh HF6 ex4 ex5 kc0 kc1 kc2 kc3 kc4
      go_wp2_with fail
      go_meet
      case rel =>
        refine ⟨⟨x4, y4, x5, y5, ?_, ?_⟩, ?_⟩
        · exact (((((HBF6.out.put 0 _).put 1 _).put 2 _).put 3 _).put 4 _).put 5 _
        · exact HO6.out.six rfl _ _ _ _ _ _
        · exact aside_trans HA6.out (aside_six (S := fun x => x = gf) rfl _ _ _ _ _ _)
  case rest =>
  obtain ⟨HF6, HA6⟩ := hcut
  have HB6 : Hid (Below V0.heap.size V0 wc) := HB5.out.trans (below_aside HA6.out HB5.out.size (fun x (hx : x = gf) => by rw [hx]; exact HZ5.out.1))
  have HN6 : Hid (LdH wc gn N) := LdH.aside HN5.out HA6.out HZ5.out.2.1
  have HR6 : Hid (Blk wc gr #[.int .i64 ri, .slice ya rl.length yc] 24) := HR5.out.aside HA6.out (show ¬ gr = gf by have := HZ5.out.2.2; omega)
  have HP6 : Hid (PinsAt wc (.slice ya rl.length yc) rl) := (Keep.aside HP5.out (aside_sub HA6.out (fun x (hx : x = gf) => by have := HZ5.out.2.2; show gr ≤ x; omega))).here
  clear HB5 HN5 HR5 HP5 HF5 HA6 HFR HNO H46
  obtain ⟨V6, hV6⟩ : ∃ x, x = wc := ⟨_, rfl⟩
  subst hV6
  have kc0 := (HK0.out.below HB6.out).cell 0
  have kc1 := (HK0.out.below HB6.out).cell 1
  have kc2 := (HK0.out.below HB6.out).cell 2
  have kc3 := (HK0.out.below HB6.out).cell 3
  have kc4 := (HK0.out.below HB6.out).cell 4
  simp only [List.getElem?_toArray, List.getElem?_cons_zero, List.getElem?_cons_succ] at kc0 kc1 kc2 kc3 kc4
  go_wp2_with fail
  refine (HAG.out _ (HB0.out.trans (HB6.out.mono HB0.out.size))).mono ?_
  rintro e V7 ⟨rfl, hb7⟩
  have HB7 : Hid (Below V0.heap.size V0 V7) := HB6.out.trans (hb7.mono HB6.out.size)
  have HN7 : Hid (LdH V7 gn N) := LdH.below HN6.out hb7
  have HF7 : Hid (LdB V7 gf N) := LdB.below HF6.out hb7
  have HR7 : Hid (Blk V7 gr #[.int .i64 ri, .slice ya rl.length yc] 24) := HR6.out.below hb7
  have HP7 : Hid (PinsAt V7 (.slice ya rl.length yc) rl) := HP6.out.below hb7
  clear hb7 HB6 HN6 HF6 HR6 HP6 HAG kc0 kc1 kc2 kc3 kc4
  go_upto_region 9 with fail
  go_cut [100] from 51 to 100 (fun s100 wx => s100 = .bool false ∧ Hid (Below V7.heap.size V7 wx))
  case first =>
    obtain ⟨u4, v4, u5, v5, hbn, hkn⟩ := HN7.out
    obtain ⟨x4, y4, x5, y5, hbf, hkf⟩ := HF7.out
    have hlN := hkn.here
    have hlF := hkf.here
    have cl1 := fun (d' : Nat) (os : Array Obj) => Calls.regrown_of (led_any (Sort.grow (redrawn V7 d') os))
    have cl2 := fun (d' : Nat) (os : Array Obj) => Calls.regrown_of (HLC.out (Sort.grow (redrawn V7 d') os) (HB0.out.trans ((HB7.out.trans ((below_regrown V7 d' os).mono HB7.out.size)).mono HB0.out.size)))
    have cl3 := fun (d' : Nat) (os : Array Obj) => Calls.regrown_of (HLKc.out (Sort.grow (redrawn V7 d') os) (HB0.out.trans ((HB7.out.trans ((below_regrown V7 d' os).mono HB7.out.size)).mono HB0.out.size)))
    have cl4 := fun (d' : Nat) (os : Array Obj) => Calls.regrown_of (HS1.out (Sort.grow (redrawn V7 d') os) (HB0.out.trans ((HB7.out.trans ((below_regrown V7 d' os).mono HB7.out.size)).mono HB0.out.size)))
    have cl5 := fun (d' : Nat) (os : Array Obj) => Calls.regrown_of (HS2.out (Sort.grow (redrawn V7 d') os) (HB0.out.trans ((HB7.out.trans ((below_regrown V7 d' os).mono HB7.out.size)).mono HB0.out.size)))
    have cl7 := fun (d' : Nat) (os : Array Obj) => Calls.regrown_of (HAR.out (Sort.grow (redrawn V7 d') os) (HB0.out.trans ((HB7.out.trans ((below_regrown V7 d' os).mono HB7.out.size)).mono HB0.out.size)))
    have hSN : ∀ w', Below V7.heap.size V7 w' → Calls Try.prog 17 #[leV N (.slice u4 N.rels.length v4) (.slice u5 N.ags.length v5), leV N (.slice x4 N.rels.length y4) (.slice x5 N.ags.length y5)] w' fun e w'' => e = .returned (.bool true) ∧ Below w'.heap.size w' w'' := fun w' hb => by
      have := sameLR_any N N _ _ _ _ w' (hlN.below hb) (hlF.below hb)
      rw [Ld.sameLeader_self] at this
      exact this
    simp only [leV, leC] at hSN
    have cl6 := fun (d' : Nat) (os : Array Obj) => Calls.regrown_of (hSN (Sort.grow (redrawn V7 d') os) (below_regrown V7 d' os))
    have rc0 := cell_regrown (show _ = some _ from (HK0.out.below HB7.out).cell 0)
    have rc1 := cell_regrown (show _ = some _ from (HK0.out.below HB7.out).cell 1)
    have rc2 := cell_regrown (show _ = some _ from (HK0.out.below HB7.out).cell 2)
    have rc3 := cell_regrown (show _ = some _ from (HK0.out.below HB7.out).cell 3)
    have rc4 := cell_regrown (show _ = some _ from (HK0.out.below HB7.out).cell 4)
    have rg0 := cell_regrown (show _ = some _ from (HG0.out.below HB7.out).cell 0)
    have rg1 := cell_regrown (show _ = some _ from (HG0.out.below HB7.out).cell 1)
    have rg2 := cell_regrown (show _ = some _ from (HG0.out.below HB7.out).cell 2)
    have rg3 := cell_regrown (show _ = some _ from (HG0.out.below HB7.out).cell 3)
    have rg4 := cell_regrown (show _ = some _ from (HG0.out.below HB7.out).cell 4)
    have rg5 := cell_regrown (show _ = some _ from (HG0.out.below HB7.out).cell 5)
    have rm0 := cell_regrown (show _ = some _ from (HM0.out.below HB7.out).cell 0)
    have rm1 := cell_regrown (show _ = some _ from (HM0.out.below HB7.out).cell 1)
    have rm2 := cell_regrown (show _ = some _ from (HM0.out.below HB7.out).cell 2)
    have rm3 := cell_regrown (show _ = some _ from (HM0.out.below HB7.out).cell 3)
    have rm4 := cell_regrown (show _ = some _ from (HM0.out.below HB7.out).cell 4)
    have rm5 := cell_regrown (show _ = some _ from (HM0.out.below HB7.out).cell 5)
    have rn0 := cell_regrown (show _ = some _ from (hbn).cell 0)
    have rn1 := cell_regrown (show _ = some _ from (hbn).cell 1)
    have rn2 := cell_regrown (show _ = some _ from (hbn).cell 2)
    have rn3 := cell_regrown (show _ = some _ from (hbn).cell 3)
    have rn4 := cell_regrown (show _ = some _ from (hbn).cell 4)
    have rn5 := cell_regrown (show _ = some _ from (hbn).cell 5)
    have rf0 := cell_regrown (show _ = some _ from (hbf).cell 0)
    have rf1 := cell_regrown (show _ = some _ from (hbf).cell 1)
    have rf2 := cell_regrown (show _ = some _ from (hbf).cell 2)
    have rf3 := cell_regrown (show _ = some _ from (hbf).cell 3)
    have rf4 := cell_regrown (show _ = some _ from (hbf).cell 4)
    have rf5 := cell_regrown (show _ = some _ from (hbf).cell 5)
    clear hbn hkn hbf hkf hlN hlF hSN HN7 HF7 HR7 HP7 HTL HOL HGO HIO HIT HCL
    rcases HAA.out with ha | ⟨ha1, ha2⟩
    · subst ha
      refine wp_region_quiet_below (by kernel_rfl) (by kernel_rfl) ?_
      repeat (go_big_quiet_step (first | with_reducible exact cl1 _ _ | with_reducible exact cl2 _ _ | with_reducible exact cl3 _ _ | with_reducible exact cl4 _ _ | with_reducible exact cl5 _ _ | with_reducible exact cl6 _ _ | with_reducible exact cl7 _ _))
      refine wpQuiet_nil ?_
      intro _ hw'
      obtain ⟨⟨dq, osq⟩, hw''⟩ := hw'
      subst hw''
      have HB8 : Hid (Below V7.heap.size V7 (Sort.grow (redrawn V7 dq) osq)) := below_regrown V7 dq osq
      clear cl1 cl2 cl3 cl4 cl5 cl6 cl7
      go_wp2_with fail
      go_meet
      case rel => exact ⟨rfl, HB8⟩
    · by_cases hne : AG = AR
      · subst hne
        refine wp_region_quiet_below (by kernel_rfl) (by kernel_rfl) ?_
        repeat (go_big_quiet_step (first | with_reducible exact cl1 _ _ | with_reducible exact cl2 _ _ | with_reducible exact cl3 _ _ | with_reducible exact cl4 _ _ | with_reducible exact cl5 _ _ | with_reducible exact cl6 _ _ | with_reducible exact cl7 _ _))
        refine wpQuiet_nil ?_
        intro _ hw'
        obtain ⟨⟨dq, osq⟩, hw''⟩ := hw'
        subst hw''
        have HB8 : Hid (Below V7.heap.size V7 (Sort.grow (redrawn V7 dq) osq)) := below_regrown V7 dq osq
        clear cl1 cl2 cl3 cl4 cl5 cl6 cl7
        go_wp2_with fail
        go_meet
        case rel => exact ⟨rfl, HB8⟩
      · have hne' : ((AG : Int) != (AR : Int)) = true := by rw [bne_iff_ne]; omega
        have ha1' : decide ((AG : Int) < 7) = false := decide_eq_false (by omega)
        have ha2' : decide ((AR : Int) < 7) = false := decide_eq_false (by omega)
        have ha3' : decide (AG < 7) = false := decide_eq_false (by omega)
        have ha4' : decide (AR < 7) = false := decide_eq_false (by omega)
        refine wp_region_quiet_below (by kernel_rfl) (by kernel_rfl) ?_
        repeat (go_big_quiet_step (first | with_reducible exact cl1 _ _ | with_reducible exact cl2 _ _ | with_reducible exact cl3 _ _ | with_reducible exact cl4 _ _ | with_reducible exact cl5 _ _ | with_reducible exact cl6 _ _ | with_reducible exact cl7 _ _))
        refine wpQuiet_nil ?_
        intro _ hw'
        obtain ⟨⟨dq, osq⟩, hw''⟩ := hw'
        subst hw''
        have HB8 : Hid (Below V7.heap.size V7 (Sort.grow (redrawn V7 dq) osq)) := below_regrown V7 dq osq
        clear cl1 cl2 cl3 cl4 cl5 cl6 cl7
        go_wp2_with fail
        go_meet
        case rel => exact ⟨rfl, HB8⟩
  case rest =>
  obtain ⟨rfl, HB8⟩ := hcut
  have HB9 : Hid (Below V0.heap.size V0 wc) := HB7.out.trans (HB8.out.mono HB7.out.size)
  have HR9 : Hid (Blk wc gr #[.int .i64 ri, .slice ya rl.length yc] 24) := HR7.out.below HB8.out
  have HP9 : Hid (PinsAt wc (.slice ya rl.length yc) rl) := HP7.out.below HB8.out
  clear HB7 HN7 HF7 HR7 HP7 HB8 HAA HAR HLC HLKc HS1 HS2
  obtain ⟨V9, hV9⟩ : ∃ x, x = wc := ⟨_, rfl⟩
  subst hV9
  have hn5i : (n5 : Int) ≤ 140737488355328 := by omega
  have HAL : Hid (∀ w' v, Below V9.heap.size V9 w' → PinsAt w' v [] → Calls Try.prog 20 #[.agg #[.int .i64 ri, .slice ya rl.length yc], .agg #[.int .i64 0, v]] w' fun e w'' => e = .returned (.bool (Lk.alike ri rl 0 [])) ∧ Below w'.heap.size w' w'') := fun w' v hb h => alikeR_any ri 0 _ v rl [] w' (HP9.out.below hb) h
  generalize rl.length = nr at *
  have kc0 := (HK0.out.below HB9.out).cell 0
  have kc1 := (HK0.out.below HB9.out).cell 1
  have kc2 := (HK0.out.below HB9.out).cell 2
  have kc3 := (HK0.out.below HB9.out).cell 3
  have kc4 := (HK0.out.below HB9.out).cell 4
  simp only [List.getElem?_toArray, List.getElem?_cons_zero, List.getElem?_cons_succ] at kc0 kc1 kc2 kc3 kc4
  have kg0 := (HG0.out.below HB9.out).cell 0
  have kg1 := (HG0.out.below HB9.out).cell 1
  have kg2 := (HG0.out.below HB9.out).cell 2
  have kg3 := (HG0.out.below HB9.out).cell 3
  have kg4 := (HG0.out.below HB9.out).cell 4
  have kg5 := (HG0.out.below HB9.out).cell 5
  simp only [List.getElem?_toArray, List.getElem?_cons_zero, List.getElem?_cons_succ] at kg0 kg1 kg2 kg3 kg4 kg5
  by_cases c0 : CL = 0
  rotate_left
  · have e1 := HTL.out
    have e2 := HOL.out
    rw [if_neg c0] at e1 e2
    simp only [Prod.mk.injEq] at e1 e2
    obtain ⟨rfl, ⟨rfl, rfl⟩, rfl⟩ := e1
    obtain ⟨rfl, rfl⟩ := e2
    have c1 : (oe == 0) = false := by simpa using c0
    have c2 : (oe != 0) = true := by rw [bne_iff_ne]; exact c0
    clear HTL HOL HIO HIT HGO c0
    go_wp2_with fail
    refine (HCL.out _ (HB0.out.trans (HB9.out.mono HB0.out.size))).mono ?_
    rintro e w10 ⟨rfl, hb10⟩
    have hr10 := HR9.out.below hb10
    have hg10 := (HG0.out.below HB9.out).below hb10
    have kr0 := hr10.cell 0
    have kr1 := hr10.cell 1
    have kh2 := hg10.cell 2
    have kh4 := hg10.cell 4
    simp only [List.getElem?_toArray, List.getElem?_cons_zero, List.getElem?_cons_succ] at kr0 kr1 kh2 kh4
    have HB10 : Hid (Below V9.heap.size V9 w10) := hb10
    clear hr10 hg10 hb10 HCL kc0 kc1 kc2 kc3 kc4 kg0 kg1 kg2 kg3 kg4 kg5
    go_wp2_with fail
    refine (HAL.out w10 _ HB10.out (pins_none _)).mono ?_
    rintro e w11 ⟨rfl, hb11⟩
    have HB11 : Hid (Below w.heap.size w w11) := HB0.out.trans ((HB9.out.trans ((HB10.out.trans (hb11.mono HB10.out.size)).mono HB9.out.size)).mono HB0.out.size)
    clear hb11 kr0 kr1 kh2 kh4
    go_wp2
    go_ret
    exact ⟨rfl, HB11.out⟩
  subst c0
  have e1 := HTL.out
  have e2 := HOL.out
  rw [if_pos rfl] at e1 e2
  by_cases g0 : g = 0
  · rw [if_pos g0] at e2
    have g0' : (g == 0) = true := by simpa using g0
    simp only [Prod.mk.injEq] at e2
    obtain ⟨rfl, rfl⟩ := e2
    by_cases k0 : 0 ≤ k
    rotate_left
    · rw [if_neg (fun h => k0 h.1)] at e1
      simp only [Prod.mk.injEq] at e1
      obtain ⟨rfl, ⟨rfl, rfl⟩, rfl⟩ := e1
      have k0' : decide (k < 0) = true := decide_eq_true (Int.not_le.1 k0)
      clear HTL HOL HIO HIT HGO g0 k0
      go_wp2_with fail
      refine (HCL.out _ (HB0.out.trans (HB9.out.mono HB0.out.size))).mono ?_
      rintro e w10 ⟨rfl, hb10⟩
      have hr10 := HR9.out.below hb10
      have hg10 := (HG0.out.below HB9.out).below hb10
      have kr0 := hr10.cell 0
      have kr1 := hr10.cell 1
      have kh2 := hg10.cell 2
      have kh4 := hg10.cell 4
      simp only [List.getElem?_toArray, List.getElem?_cons_zero, List.getElem?_cons_succ] at kr0 kr1 kh2 kh4
      have HB10 : Hid (Below V9.heap.size V9 w10) := hb10
      clear hr10 hg10 hb10 HCL kc0 kc1 kc2 kc3 kc4 kg0 kg1 kg2 kg3 kg4 kg5
      go_wp2_with fail
      refine (HAL.out w10 _ HB10.out (pins_none _)).mono ?_
      rintro e w11 ⟨rfl, hb11⟩
      have HB11 : Hid (Below w.heap.size w w11) := HB0.out.trans ((HB9.out.trans ((HB10.out.trans (hb11.mono HB10.out.size)).mono HB9.out.size)).mono HB0.out.size)
      clear hb11 kr0 kr1 kh2 kh4
      go_wp2
      go_ret
      exact ⟨rfl, HB11.out⟩
    have k0' : decide (k < 0) = false := decide_eq_false (Int.not_lt.2 k0)
    by_cases k1 : k < (n5 : Int)
    rotate_left
    · rw [if_neg (fun h => k1 h.2)] at e1
      simp only [Prod.mk.injEq] at e1
      obtain ⟨rfl, ⟨rfl, rfl⟩, rfl⟩ := e1
      have k1' : decide (k ≥ (n5 : Int)) = true := decide_eq_true (Int.not_lt.1 k1)
      have k2' : decide ((n5 : Int) ≤ k) = true := decide_eq_true (Int.not_lt.1 k1)
      clear HTL HOL HIO HIT HGO g0 k0 k1
      go_wp2_with fail
      refine (HCL.out _ (HB0.out.trans (HB9.out.mono HB0.out.size))).mono ?_
      rintro e w10 ⟨rfl, hb10⟩
      have hr10 := HR9.out.below hb10
      have hg10 := (HG0.out.below HB9.out).below hb10
      have kr0 := hr10.cell 0
      have kr1 := hr10.cell 1
      have kh2 := hg10.cell 2
      have kh4 := hg10.cell 4
      simp only [List.getElem?_toArray, List.getElem?_cons_zero, List.getElem?_cons_succ] at kr0 kr1 kh2 kh4
      have HB10 : Hid (Below V9.heap.size V9 w10) := hb10
      clear hr10 hg10 hb10 HCL kc0 kc1 kc2 kc3 kc4 kg0 kg1 kg2 kg3 kg4 kg5
      go_wp2_with fail
      refine (HAL.out w10 _ HB10.out (pins_none _)).mono ?_
      rintro e w11 ⟨rfl, hb11⟩
      have HB11 : Hid (Below w.heap.size w w11) := HB0.out.trans ((HB9.out.trans ((HB10.out.trans (hb11.mono HB10.out.size)).mono HB9.out.size)).mono HB0.out.size)
      clear hb11 kr0 kr1 kh2 kh4
      go_wp2
      go_ret
      exact ⟨rfl, HB11.out⟩
    rw [if_pos ⟨k0, k1⟩, if_pos g0] at e1
    simp only [Prod.mk.injEq] at e1
    obtain ⟨rfl, ⟨rfl, rfl⟩, rfl⟩ := e1
    have k2' : decide ((n5 : Int) ≤ k) = false := decide_eq_false (Int.not_le.2 k1)
    clear HTL HOL HIO HIT HGO g0 k0 k1
    go_wp2_with fail
    refine (HCL.out _ (HB0.out.trans (HB9.out.mono HB0.out.size))).mono ?_
    rintro e w10 ⟨rfl, hb10⟩
    have hr10 := HR9.out.below hb10
    have hg10 := (HG0.out.below HB9.out).below hb10
    have kr0 := hr10.cell 0
    have kr1 := hr10.cell 1
    have kh2 := hg10.cell 2
    have kh4 := hg10.cell 4
    simp only [List.getElem?_toArray, List.getElem?_cons_zero, List.getElem?_cons_succ] at kr0 kr1 kh2 kh4
    have HB10 : Hid (Below V9.heap.size V9 w10) := hb10
    clear hr10 hg10 hb10 HCL kc0 kc1 kc2 kc3 kc4 kg0 kg1 kg2 kg3 kg4 kg5
    go_wp2_with fail
    refine (HAL.out w10 _ HB10.out (pins_none _)).mono ?_
    rintro e w11 ⟨rfl, hb11⟩
    have HB11 : Hid (Below w.heap.size w w11) := HB0.out.trans ((HB9.out.trans ((HB10.out.trans (hb11.mono HB10.out.size)).mono HB9.out.size)).mono HB0.out.size)
    clear hb11 kr0 kr1 kh2 kh4
    go_wp2
    go_ret
    exact ⟨rfl, HB11.out⟩
  rw [if_neg g0] at e2
  have g0' : (g == 0) = false := by simpa using g0
  simp only [Prod.mk.injEq] at e2
  obtain ⟨e2a, rfl⟩ := e2
  have hIO := HIO.out rfl V9 (HB0.out.trans (HB9.out.mono HB0.out.size))
  rw [← e2a] at hIO
  clear HTL HOL HIO e2a
  go_wp2_with fail
  refine hIO.mono ?_
  rintro e wA ⟨rfl, hbA⟩
  have HBA : Hid (Below V0.heap.size V0 wA) := HB9.out.trans (hbA.mono HB9.out.size)
  have HBA9 : Hid (Below V9.heap.size V9 wA) := hbA
  clear hbA hIO kc0 kc1 kc2 kc3 kc4 kg0 kg1 kg2 kg3 kg4 kg5
  have kc0 := (HK0.out.below HBA.out).cell 0
  have kc1 := (HK0.out.below HBA.out).cell 1
  have kc2 := (HK0.out.below HBA.out).cell 2
  have kc3 := (HK0.out.below HBA.out).cell 3
  have kc4 := (HK0.out.below HBA.out).cell 4
  simp only [List.getElem?_toArray, List.getElem?_cons_zero, List.getElem?_cons_succ] at kc0 kc1 kc2 kc3 kc4
  have kg0 := (HG0.out.below HBA.out).cell 0
  have kg1 := (HG0.out.below HBA.out).cell 1
  have kg2 := (HG0.out.below HBA.out).cell 2
  have kg3 := (HG0.out.below HBA.out).cell 3
  have kg4 := (HG0.out.below HBA.out).cell 4
  have kg5 := (HG0.out.below HBA.out).cell 5
  simp only [List.getElem?_toArray, List.getElem?_cons_zero, List.getElem?_cons_succ] at kg0 kg1 kg2 kg3 kg4 kg5
  go_wp2_with fail
  refine (HCL.out _ (HB0.out.trans (HBA.out.mono HB0.out.size))).mono ?_
  rintro e w10 ⟨rfl, hb10⟩
  have HB10 : Hid (Below V9.heap.size V9 w10) := HBA9.out.trans (hb10.mono HBA9.out.size)
  have HB010 : Hid (Below V0.heap.size V0 w10) := HBA.out.trans (hb10.mono HBA.out.size)
  have HBw10 : Hid (Below w.heap.size w w10) := HB0.out.trans (HB010.out.mono HB0.out.size)
  have hr10 := HR9.out.below HB10.out
  have kr0 := hr10.cell 0
  have kr1 := hr10.cell 1
  simp only [List.getElem?_toArray, List.getElem?_cons_zero, List.getElem?_cons_succ] at kr0 kr1
  have kh0 := (HG0.out.below HB010.out).cell 0
  have kh1 := (HG0.out.below HB010.out).cell 1
  have kh2 := (HG0.out.below HB010.out).cell 2
  have kh3 := (HG0.out.below HB010.out).cell 3
  have kh4 := (HG0.out.below HB010.out).cell 4
  have kh5 := (HG0.out.below HB010.out).cell 5
  simp only [List.getElem?_toArray, List.getElem?_cons_zero, List.getElem?_cons_succ] at kh0 kh1 kh2 kh3 kh4 kh5
  clear hr10 hb10 HCL HBA HBA9 kc0 kc1 kc2 kc3 kc4 kg0 kg1 kg2 kg3 kg4 kg5
  by_cases k0 : 0 ≤ k
  rotate_left
  · rw [if_neg (fun h => k0 h.1)] at e1
    simp only [Prod.mk.injEq] at e1
    obtain ⟨rfl, ⟨rfl, rfl⟩, rfl⟩ := e1
    have k0' : decide (k < 0) = true := decide_eq_true (Int.not_le.1 k0)
    clear HIT HGO k0 g0
    go_wp2_with fail
    refine (HAL.out w10 _ HB10.out (pins_none _)).mono ?_
    rintro e w11 ⟨rfl, hb11⟩
    have HB11 : Hid (Below w.heap.size w w11) := HBw10.out.trans (hb11.mono HBw10.out.size)
    clear hb11 kr0 kr1 kh0 kh1 kh2 kh3 kh4 kh5
    go_wp2
    go_ret
    exact ⟨rfl, HB11.out⟩
  have k0' : decide (k < 0) = false := decide_eq_false (Int.not_lt.2 k0)
  by_cases k1 : k < (n5 : Int)
  rotate_left
  · rw [if_neg (fun h => k1 h.2)] at e1
    simp only [Prod.mk.injEq] at e1
    obtain ⟨rfl, ⟨rfl, rfl⟩, rfl⟩ := e1
    have k2' : decide ((n5 : Int) ≤ k) = true := decide_eq_true (Int.not_lt.1 k1)
    clear HIT HGO k0 k1 g0
    go_wp2_with fail
    refine (HAL.out w10 _ HB10.out (pins_none _)).mono ?_
    rintro e w11 ⟨rfl, hb11⟩
    have HB11 : Hid (Below w.heap.size w w11) := HBw10.out.trans (hb11.mono HBw10.out.size)
    clear hb11 kr0 kr1 kh0 kh1 kh2 kh3 kh4 kh5
    go_wp2
    go_ret
    exact ⟨rfl, HB11.out⟩
  rw [if_pos ⟨k0, k1⟩, if_neg g0] at e1
  simp only [Prod.mk.injEq] at e1
  obtain ⟨e1a, e1b, rfl⟩ := e1
  have k2' : decide ((n5 : Int) ≤ k) = false := decide_eq_false (Int.not_le.2 k1)
  obtain ⟨y, hy, hgo⟩ := HGO.out (by trivial) (by rw [HLG.out]; exact g0)
  have hIT := HIT.out (by trivial) k0 (by rw [HLK.out]; exact k1)
  rw [← e1a] at hIT
  rw [← e1b] at hy hgo
  simp only at hy hgo
  have HPY : Hid (PinsAt w y rl) := hy
  have HGo : Hid (∀ wv, Below w.heap.size w wv → Calls Try.prog 22 #[.agg #[.slice a4 n4 c4, .int .i64 nw, .int .i64 g, .bool bk, .slice a5 n5 c5, .int .i64 nx]] wv fun e w' => e = .returned (.agg #[.int .i64 ri, y]) ∧ Below wv.heap.size wv w') := hgo
  have HIt : Hid (∀ wv, Below w.heap.size w wv → _) := hIT
  have hAl : ∀ wv, Below w10.heap.size w10 wv → Calls Try.prog 20 #[.agg #[.int .i64 ri, .slice ya nr yc], .agg #[.int .i64 ri, y]] wv fun e w' => e = .returned (.bool true) ∧ Below wv.heap.size wv w' := fun wv hb => by
    have := alikeR_any ri ri (.slice ya nr yc) y rl rl wv (HP9.out.below (HB10.out.trans (hb.mono HB10.out.size))) (HPY.out.below (HBw10.out.trans (hb.mono HBw10.out.size)))
    rw [show Lk.alike ri rl ri rl = true by simp [Lk.alike, Lk.same]] at this
    exact this
  clear hy hgo hIT e1a e1b HIT HGO k0 k1 g0
  go_upto_region 22 with fail
  have cl1 := fun (d' : Nat) (os : Array Obj) => Calls.regrown_of (HIt.out (Sort.grow (redrawn w10 d') os) (HBw10.out.trans ((below_regrown w10 d' os).mono HBw10.out.size)))
  have cl2 := fun (d' : Nat) (os : Array Obj) => Calls.regrown_of (HGo.out (Sort.grow (redrawn w10 d') os) (HBw10.out.trans ((below_regrown w10 d' os).mono HBw10.out.size)))
  have cl3 := fun (d' : Nat) (os : Array Obj) => Calls.regrown_of (hAl (Sort.grow (redrawn w10 d') os) (below_regrown w10 d' os))
  have rc0 := cell_regrown (show _ = some _ from (HK0.out.below HB010.out).cell 0)
  have rc1 := cell_regrown (show _ = some _ from (HK0.out.below HB010.out).cell 1)
  have rc2 := cell_regrown (show _ = some _ from (HK0.out.below HB010.out).cell 2)
  have rc3 := cell_regrown (show _ = some _ from (HK0.out.below HB010.out).cell 3)
  have rc4 := cell_regrown (show _ = some _ from (HK0.out.below HB010.out).cell 4)
  have rg0 := cell_regrown (show _ = some _ from (HG0.out.below HB010.out).cell 0)
  have rg1 := cell_regrown (show _ = some _ from (HG0.out.below HB010.out).cell 1)
  have rg2 := cell_regrown (show _ = some _ from (HG0.out.below HB010.out).cell 2)
  have rg3 := cell_regrown (show _ = some _ from (HG0.out.below HB010.out).cell 3)
  have rg4 := cell_regrown (show _ = some _ from (HG0.out.below HB010.out).cell 4)
  have rg5 := cell_regrown (show _ = some _ from (HG0.out.below HB010.out).cell 5)
  have rr0 := cell_regrown kr0
  have rr1 := cell_regrown kr1
  clear hAl kr0 kr1 kh0 kh1 kh2 kh3 kh4 kh5
  refine wp_region_quiet_below (by kernel_rfl) (by kernel_rfl) ?_
  repeat (go_big_quiet_step (first | with_reducible exact cl1 _ _ | with_reducible exact cl2 _ _ | with_reducible exact cl3 _ _))
  refine wpQuiet_nil ?_
  intro _ hw'
  obtain ⟨⟨dq, osq⟩, hw''⟩ := hw'
  subst hw''
  have HB12 : Hid (Below w.heap.size w (Sort.grow (redrawn w10 dq) osq)) := HBw10.out.trans ((below_regrown w10 dq osq).mono HBw10.out.size)
  clear cl1 cl2 cl3
  go_wp2
  go_ret
  exact ⟨rfl, HB12.out⟩
end Go.Proofs.Ytcnnejndmafniaa
