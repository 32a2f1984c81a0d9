/- The walk of AgentSays. -/
import Derived.Test.YtbnaaookeagjgaaAGo
import Derived.Test.YtbnaaookeagjgaaASm
import Derived.Test.YtbnaaookeagjgaaAG2
import Derived.Test.YtbnaaookeagjgaaAG5
import Derived.Test.YtbnaaookeagjgaaN6
import Derived.Test.YtbnaaookeagjgaaT13
namespace Go.Proofs.Ytbnaaookeagjgaa
open Go.RowKit
theorem newA_err (i : Int) (l : List (Int × Int)) : (Ag.newA i l).2 = Lk.chkRel i l := by
  unfold Ag.newA
  by_cases h : Lk.chkRel i l = 0
  · rw [if_pos h, h]
  · rw [if_neg h]
theorem sameO_self (l : List (Int × Int × Int)) : sameO l l = true := decide_eq_true rfl
set_option maxHeartbeats 32000000 in
set_option maxRecDepth 100000 in
theorem agSays_any (L M r7 Lb Mb : List (Int × Int)) (p t i r1 r2 r3 r4 r6 pb tb_ ib : Int) (g d r5 gb db : Bool) (v u z vb ub : Value) (w : World) (hP : PinsAt w v L) (hQ : PinsAt w u M) (hR : PinsAt w z r7) (hPb : PinsAt w vb Lb) (hQb : PinsAt w ub Mb) (hW : (Lit.int .i64 r1).wf = true) :
    Calls Try.prog 3 #[agV ⟨L, p, t, g, i, M, d⟩ v u, recV ⟨r1, r2, r3, r4, r5, r6, r7⟩ z, agV ⟨Lb, pb, tb_, gb, ib, Mb, db⟩ vb ub] w fun e w' => e = .returned (.bool true) ∧ Below w.heap.size w w' := by
  obtain ⟨a, c, rfl⟩ := pins_slice hP
  obtain ⟨a', c', rfl⟩ := pins_slice hQ
  obtain ⟨b, f, rfl⟩ := pins_slice hR
  obtain ⟨ab, cb, rfl⟩ := pins_slice hPb
  obtain ⟨ab', cb', rfl⟩ := pins_slice hQb
  unfold agV agC recV
  simp only
  have HNw : Hid (∀ w', Below w.heap.size w w' → Calls Try.prog 6 #[.agg #[.int .i64 r6, .slice b r7.length f]] w' fun e w'' => agR w'' (Ag.newA r6 r7) e ∧ Below w'.heap.size w' w'') := fun w' hb => agNew_any r6 _ r7 w' (hR.below hb)
  have HNx : Hid (∀ w', Below w.heap.size w w' → Calls Try.prog 7 #[.agg #[.slice a L.length c, .int .i64 p, .int .i64 t, .bool g, .int .i64 i, .slice a' M.length c', .bool d], .agg #[.int .i64 r1, .int .i64 r2, .int .i64 r3, .int .i64 r4, .bool r5, .int .i64 r6, .slice b r7.length f]] w' fun e w'' => agN w'' w'.heap.size (Ag.nextA ⟨L, p, t, g, i, M, d⟩ ⟨r1, r2, r3, r4, r5, r6, r7⟩) e ∧ Below w'.heap.size w' w'') := fun w' hb => agNext_any L M r7 p t i r1 r2 r3 r4 r6 g d r5 _ _ _ w' (hP.below hb) (hQ.below hb) (hR.below hb)
  have HLf : Hid (∀ w', Below w.heap.size w w' → Calls Try.prog 8 #[.agg #[.slice a L.length c, .int .i64 p, .int .i64 t, .bool g, .int .i64 i, .slice a' M.length c', .bool d]] w' fun e w'' => (∃ x, e = .returned (.tuple #[x, .int .i64 (Ag.leftA ⟨L, p, t, g, i, M, d⟩).2]) ∧ OpsAt w'' x (Ag.leftA ⟨L, p, t, g, i, M, d⟩).1) ∧ Below w'.heap.size w' w'') := fun w' hb => agLeft_any L M p t i g d _ _ w' (hP.below hb) (hQ.below hb)
  have HNR : Hid (∀ w', Below w.heap.size w w' → Calls Try.prog 9 #[.agg #[.slice a L.length c, .int .i64 p, .int .i64 t, .bool g, .int .i64 i, .slice a' M.length c', .bool d], .agg #[.int .i64 r1, .int .i64 r2, .int .i64 r3, .int .i64 r4, .bool r5, .int .i64 r6, .slice b r7.length f]] w' fun e w'' => agR w'' (Ag.nextA ⟨L, p, t, g, i, M, d⟩ ⟨r1, r2, r3, r4, r5, r6, r7⟩) e ∧ Below w'.heap.size w' w'') := fun w' hb => by
    refine (agNextR_any L M r7 p t i r1 r2 r3 r4 r6 g d r5 _ _ _ w' (hP.below hb) (hQ.below hb) (hR.below hb) (fun w'' hb2 => recR_any ⟨r1, r2, r3, r4, r5, r6, r7⟩ _ w'' ((hR.below hb).below hb2) hW)).mono ?_
    rintro e w'' ⟨h1, h2⟩
    exact ⟨h1.r, h2⟩
  have HCA : Hid (∀ w', Below w.heap.size w w' → Calls Try.prog 10 #[.agg #[.slice a L.length c, .int .i64 p, .int .i64 t, .bool g, .int .i64 i, .slice a' M.length c', .bool d]] w' fun e w'' => e = .returned (.int .i64 (Ag.chkAgent ⟨L, p, t, g, i, M, d⟩)) ∧ Below w'.heap.size w' w'') := fun w' hb => checkAgR_any L M p t i g d _ _ w' (hP.below hb) (hQ.below hb)
  have HCW : Hid (∀ w', Below w.heap.size w w' → Calls Try.prog 11 #[.agg #[.int .i64 r6, .slice b r7.length f]] w' fun e w'' => e = .returned (.int .i64 (Lk.chkRel r6 r7)) ∧ Below w'.heap.size w' w'') := fun w' hb => releaseR_any r6 _ r7 w' (hR.below hb)
  have HSt : Hid (Ag.chkAgent ⟨L, p, t, g, i, M, d⟩ = 0 → g = true → ∀ w', Below w.heap.size w w' → Calls Try.prog 12 #[.slice a L.length c, .slice a' M.length c'] w' fun e w'' => (∃ x, e = .returned (.tuple #[x, .int .i64 0]) ∧ OpsAt w'' x (Ag.leftA ⟨L, p, t, g, i, M, d⟩).1) ∧ Below w'.heap.size w' w'') := fun h hg w' hb => by
    subst hg
    rw [left_good h]
    exact stepsR_going _ _ L M p t i d h w' (hP.below hb) (hQ.below hb)
  have HL0 : Hid (¬ (Ag.chkAgent ⟨L, p, t, g, i, M, d⟩ = 0 ∧ g = true) → (Ag.leftA ⟨L, p, t, g, i, M, d⟩).1 = []) := fun h => by
    unfold Ag.leftA
    by_cases h1 : Ag.chkAgent ⟨L, p, t, g, i, M, d⟩ = 0
    · rw [if_pos h1, if_neg (fun hg => h ⟨h1, hg⟩)]
    · rw [if_neg h1]
  have HCk : Hid (∀ w', Below w.heap.size w w' → Calls Try.prog 14 #[.agg #[.slice a L.length c, .int .i64 p, .int .i64 t, .bool g, .int .i64 i, .slice a' M.length c', .bool d]] w' fun e w'' => e = .returned (.int .i64 (Ag.chkAgent ⟨L, p, t, g, i, M, d⟩)) ∧ Below w'.heap.size w' w'') := fun w' hb => agCheck_any L M p t i g d _ _ w' (hP.below hb) (hQ.below hb)
  have HSm : Hid (∀ w', Below w.heap.size w w' → Calls Try.prog 15 #[.agg #[.slice a L.length c, .int .i64 p, .int .i64 t, .bool g, .int .i64 i, .slice a' M.length c', .bool d], .agg #[.slice ab Lb.length cb, .int .i64 pb, .int .i64 tb_, .bool gb, .int .i64 ib, .slice ab' Mb.length cb', .bool db]] w' fun e w'' => e = .returned (.bool (Ag.sameAgent ⟨L, p, t, g, i, M, d⟩ ⟨Lb, pb, tb_, gb, ib, Mb, db⟩)) ∧ Below w'.heap.size w' w'') := fun w' hb => agSame_any L M Lb Mb p t i pb tb_ ib g d gb db _ _ _ _ w' (hP.below hb) (hQ.below hb) (hPb.below hb) (hQb.below hb)
  have HSR : Hid (∀ w', Below w.heap.size w w' → Calls Try.prog 16 #[.agg #[.slice a L.length c, .int .i64 p, .int .i64 t, .bool g, .int .i64 i, .slice a' M.length c', .bool d], .agg #[.slice ab Lb.length cb, .int .i64 pb, .int .i64 tb_, .bool gb, .int .i64 ib, .slice ab' Mb.length cb', .bool db]] w' fun e w'' => e = .returned (.bool (Ag.sameAgent ⟨L, p, t, g, i, M, d⟩ ⟨Lb, pb, tb_, gb, ib, Mb, db⟩)) ∧ Below w'.heap.size w' w'') := fun w' hb => sameAgR_any L M Lb Mb p t i pb tb_ ib g d gb db _ _ _ _ w' (hP.below hb) (hQ.below hb) (hPb.below hb) (hQb.below hb)
  have HPR : Hid (∀ w', Below w.heap.size w w' → PinsAt w' (.slice b r7.length f) r7) := fun w' hb => hR.below hb
  have F1 : Hid ((Ag.newA r6 r7).2 = Lk.chkRel r6 r7 ∧ (Lk.chkRel r6 r7 = 0 → (Ag.newA r6 r7).1 = ⟨r7, r6, 0, false, 0, [], true⟩) ∧ (¬ Lk.chkRel r6 r7 = 0 → (Ag.newA r6 r7).1 = Ag.Agent.none)) := ⟨newA_err r6 r7, fun h => by unfold Ag.newA; rw [if_pos h]; rfl, fun h => by unfold Ag.newA; rw [if_neg h]⟩
  have F2 : Hid ((Ag.leftA ⟨L, p, t, g, i, M, d⟩).2 = Ag.chkAgent ⟨L, p, t, g, i, M, d⟩) := left_err _
  clear hP hQ hR hPb hQb hW
  generalize Ag.sameAgent ⟨L, p, t, g, i, M, d⟩ ⟨Lb, pb, tb_, gb, ib, Mb, db⟩ = SB at HSm HSR
  generalize Ag.nextA ⟨L, p, t, g, i, M, d⟩ ⟨r1, r2, r3, r4, r5, r6, r7⟩ = NX at HNx HNR
  generalize Ag.leftA ⟨L, p, t, g, i, M, d⟩ = LF at HLf HSt HL0 F2
  generalize Ag.chkAgent ⟨L, p, t, g, i, M, d⟩ = CA at HCA HSt HL0 HCk F2
  generalize Ag.newA r6 r7 = NA at HNw F1
  generalize Lk.chkRel r6 r7 = CW at HCW F1
  obtain ⟨LA, EL⟩ := LF
  obtain ⟨⟨nl, np, nt, ng, ni, nm, nd⟩, EN⟩ := NA
  obtain ⟨⟨xl, xp, xt, xg, xi, xm, xd⟩, EX⟩ := NX
  have h2 : EL = CA := F2.out
  have h1 : EN = CW := F1.out.1
  subst h1 h2
  have F3 : Hid ((EN = 0 → (⟨nl, np, nt, ng, ni, nm, nd⟩ : Ag.Agent) = ⟨r7, r6, 0, false, 0, [], true⟩) ∧ (¬ EN = 0 → (⟨nl, np, nt, ng, ni, nm, nd⟩ : Ag.Agent) = Ag.Agent.none)) := F1.out.2
  clear F1 F2
  simp only at HLf HSt HL0
  generalize hqn : r7.length = q at HNw HNx HNR HCW HPR ⊢
  generalize L.length = n at HNx HLf HNR HCA HSt HCk HSm HSR ⊢
  generalize M.length = m at HNx HLf HNR HCA HSt HCk HSm HSR ⊢
  generalize Lb.length = nb at HSm HSR ⊢
  generalize Mb.length = mb at HSm HSR ⊢
  have HRq : Hid (r7.length = q) := hqn
  clear hqn
  have HB0 : Hid (Below w.heap.size w (((w.alloc (.cells #[.slice a n c, .int .i64 p, .int .i64 t, .bool g, .int .i64 i, .slice a' m c', .bool d] 26)).alloc (.cells #[.int .i64 r1, .int .i64 r2, .int .i64 r3, .int .i64 r4, .bool r5, .int .i64 r6, .slice b q f] 28)).alloc (.cells #[.slice ab nb cb, .int .i64 pb, .int .i64 tb_, .bool gb, .int .i64 ib, .slice ab' mb cb', .bool db] 26))) := (((Below.refl _ w).alloc (Nat.le_refl _) _).alloc (by simp) _).alloc (by simp; omega) _
  have HA : Hid (Blk (((w.alloc (.cells #[.slice a n c, .int .i64 p, .int .i64 t, .bool g, .int .i64 i, .slice a' m c', .bool d] 26)).alloc (.cells #[.int .i64 r1, .int .i64 r2, .int .i64 r3, .int .i64 r4, .bool r5, .int .i64 r6, .slice b q f] 28)).alloc (.cells #[.slice ab nb cb, .int .i64 pb, .int .i64 tb_, .bool gb, .int .i64 ib, .slice ab' mb cb', .bool db] 26)) w.heap.size #[.slice a n c, .int .i64 p, .int .i64 t, .bool g, .int .i64 i, .slice a' m c', .bool d] 26) := ((blk_alloc w _ _).below ((Below.refl _ _).alloc (Nat.le_refl _) _)).below ((Below.refl _ _).alloc (Nat.le_refl _) _)
  have HR : Hid (Blk (((w.alloc (.cells #[.slice a n c, .int .i64 p, .int .i64 t, .bool g, .int .i64 i, .slice a' m c', .bool d] 26)).alloc (.cells #[.int .i64 r1, .int .i64 r2, .int .i64 r3, .int .i64 r4, .bool r5, .int .i64 r6, .slice b q f] 28)).alloc (.cells #[.slice ab nb cb, .int .i64 pb, .int .i64 tb_, .bool gb, .int .i64 ib, .slice ab' mb cb', .bool db] 26)) (w.heap.size + 1) #[.int .i64 r1, .int .i64 r2, .int .i64 r3, .int .i64 r4, .bool r5, .int .i64 r6, .slice b q f] 28) := by
    have := (blk_alloc (w.alloc (.cells #[.slice a n c, .int .i64 p, .int .i64 t, .bool g, .int .i64 i, .slice a' m c', .bool d] 26)) #[.int .i64 r1, .int .i64 r2, .int .i64 r3, .int .i64 r4, .bool r5, .int .i64 r6, .slice b q f] 28).below ((Below.refl _ _).alloc (Nat.le_refl _) (.cells #[.slice ab nb cb, .int .i64 pb, .int .i64 tb_, .bool gb, .int .i64 ib, .slice ab' mb cb', .bool db] 26))
    rwa [World.size_alloc] at this
  have HBb : Hid (Blk (((w.alloc (.cells #[.slice a n c, .int .i64 p, .int .i64 t, .bool g, .int .i64 i, .slice a' m c', .bool d] 26)).alloc (.cells #[.int .i64 r1, .int .i64 r2, .int .i64 r3, .int .i64 r4, .bool r5, .int .i64 r6, .slice b q f] 28)).alloc (.cells #[.slice ab nb cb, .int .i64 pb, .int .i64 tb_, .bool gb, .int .i64 ib, .slice ab' mb cb', .bool db] 26)) (w.heap.size + 1 + 1) #[.slice ab nb cb, .int .i64 pb, .int .i64 tb_, .bool gb, .int .i64 ib, .slice ab' mb cb', .bool db] 26) := by
    have := blk_alloc ((w.alloc (.cells #[.slice a n c, .int .i64 p, .int .i64 t, .bool g, .int .i64 i, .slice a' m c', .bool d] 26)).alloc (.cells #[.int .i64 r1, .int .i64 r2, .int .i64 r3, .int .i64 r4, .bool r5, .int .i64 r6, .slice b q f] 28)) #[.slice ab nb cb, .int .i64 pb, .int .i64 tb_, .bool gb, .int .i64 ib, .slice ab' mb cb', .bool db] 26
    rwa [World.size_alloc, World.size_alloc] at this
  go_enter Try.func3, Try.ntmps3
  go_upto_region 1 with fail
  generalize (((w.alloc (.cells #[.slice a n c, .int .i64 p, .int .i64 t, .bool g, .int .i64 i, .slice a' m c', .bool d] 26)).alloc (.cells #[.int .i64 r1, .int .i64 r2, .int .i64 r3, .int .i64 r4, .bool r5, .int .i64 r6, .slice b q f] 28)).alloc (.cells #[.slice ab nb cb, .int .i64 pb, .int .i64 tb_, .bool gb, .int .i64 ib, .slice ab' mb cb', .bool db] 26)) = w0 at HB0 HA HR HBb ⊢
  have k5 := HR.out.cell 5
  have k6 := HR.out.cell 6
  simp only [List.getElem?_toArray, List.getElem?_cons_zero, List.getElem?_cons_succ] at k5 k6
  go_wp2_with fail
  refine (HNw.out _ HB0.out).mono ?_
  rintro e w1 ⟨⟨z1, z2, rfl, hz1, hz2⟩, hb1⟩
  simp only at hz1 hz2
  obtain ⟨na, nc, rfl⟩ := pins_slice hz1
  obtain ⟨na', nc', rfl⟩ := pins_slice hz2
  simp only [agV, agC]
  generalize hnn : nl.length = nn at hz1 ⊢
  generalize hnn' : nm.length = nn' at hz2 ⊢
  have HNn : Hid (nl.length = nn ∧ nm.length = nn') := ⟨hnn, hnn'⟩
  clear hnn hnn' k5 k6 HNw
  have hbA : Below w1.heap.size w1 (w1.alloc (.cells #[.slice na nn nc, .int .i64 np, .int .i64 nt, .bool ng, .int .i64 ni, .slice na' nn' nc', .bool nd] 26)) := (Below.refl _ _).alloc (Nat.le_refl _) _
  have hbX : Below w0.heap.size w0 (w1.alloc (.cells #[.slice na nn nc, .int .i64 np, .int .i64 nt, .bool ng, .int .i64 ni, .slice na' nn' nc', .bool nd] 26)) := hb1.trans (hbA.mono hb1.size)
  have HB1 : Hid (Below w.heap.size w (w1.alloc (.cells #[.slice na nn nc, .int .i64 np, .int .i64 nt, .bool ng, .int .i64 ni, .slice na' nn' nc', .bool nd] 26))) := HB0.out.trans (hbX.mono HB0.out.size)
  replace HA : Hid (Blk (w1.alloc (.cells #[.slice na nn nc, .int .i64 np, .int .i64 nt, .bool ng, .int .i64 ni, .slice na' nn' nc', .bool nd] 26)) _ _ _) := HA.out.below hbX
  replace HR : Hid (Blk (w1.alloc (.cells #[.slice na nn nc, .int .i64 np, .int .i64 nt, .bool ng, .int .i64 ni, .slice na' nn' nc', .bool nd] 26)) _ _ _) := HR.out.below hbX
  replace HBb : Hid (Blk (w1.alloc (.cells #[.slice na nn nc, .int .i64 np, .int .i64 nt, .bool ng, .int .i64 ni, .slice na' nn' nc', .bool nd] 26)) _ _ _) := HBb.out.below hbX
  have HN : Hid (Blk (w1.alloc (.cells #[.slice na nn nc, .int .i64 np, .int .i64 nt, .bool ng, .int .i64 ni, .slice na' nn' nc', .bool nd] 26)) w1.heap.size #[.slice na nn nc, .int .i64 np, .int .i64 nt, .bool ng, .int .i64 ni, .slice na' nn' nc', .bool nd] 26) := blk_alloc w1 _ _
  have PN1 : Hid (PinsAt (w1.alloc (.cells #[.slice na nn nc, .int .i64 np, .int .i64 nt, .bool ng, .int .i64 ni, .slice na' nn' nc', .bool nd] 26)) (.slice na nn nc) nl) := hz1.below hbA
  have PN2 : Hid (PinsAt (w1.alloc (.cells #[.slice na nn nc, .int .i64 np, .int .i64 nt, .bool ng, .int .i64 ni, .slice na' nn' nc', .bool nd] 26)) (.slice na' nn' nc') nm) := hz2.below hbA
  clear hbA hbX hb1 hz1 hz2 HB0
  go_upto_region 2 with fail
  generalize (w1.alloc (.cells #[.slice na nn nc, .int .i64 np, .int .i64 nt, .bool ng, .int .i64 ni, .slice na' nn' nc', .bool nd] 26)) = W1 at HB1 HA HR HBb HN PN1 PN2 ⊢
  generalize w1.heap.size = g7 at HN ⊢
  have k0 := HA.out.cell 0
  have k1 := HA.out.cell 1
  have k2 := HA.out.cell 2
  have k3 := HA.out.cell 3
  have k4 := HA.out.cell 4
  have k5 := HA.out.cell 5
  have k6 := HA.out.cell 6
  simp only [List.getElem?_toArray, List.getElem?_cons_zero, List.getElem?_cons_succ] at k0 k1 k2 k3 k4 k5 k6
  have x0 := HR.out.cell 0
  have x1 := HR.out.cell 1
  have x2 := HR.out.cell 2
  have x3 := HR.out.cell 3
  have x4 := HR.out.cell 4
  have x5 := HR.out.cell 5
  have x6 := HR.out.cell 6
  simp only [List.getElem?_toArray, List.getElem?_cons_zero, List.getElem?_cons_succ] at x0 x1 x2 x3 x4 x5 x6
  go_wp2_with fail
  refine (HNx.out _ HB1.out).mono ?_
  rintro e w2 ⟨⟨z1, z2, rfl, hz1, hz2⟩, hb2⟩
  simp only at hz1 hz2
  obtain ⟨xa, xc, rfl⟩ := pins_slice hz1.pins
  obtain ⟨xa', xc', rfl⟩ := pins_slice hz2.pins
  simp only [agV, agC]
  generalize hnn : xl.length = xn at hz1 ⊢
  generalize hnn' : xm.length = xn' at hz2 ⊢
  have HXn : Hid (xl.length = xn ∧ xm.length = xn') := ⟨hnn, hnn'⟩
  clear hnn hnn' k0 k1 k2 k3 k4 k5 k6 x0 x1 x2 x3 x4 x5 x6 HNx
  have hbA : Below w2.heap.size w2 (w2.alloc (.cells #[.slice xa xn xc, .int .i64 xp, .int .i64 xt, .bool xg, .int .i64 xi, .slice xa' xn' xc', .bool xd] 26)) := (Below.refl _ _).alloc (Nat.le_refl _) _
  have hbX : Below W1.heap.size W1 (w2.alloc (.cells #[.slice xa xn xc, .int .i64 xp, .int .i64 xt, .bool xg, .int .i64 xi, .slice xa' xn' xc', .bool xd] 26)) := hb2.trans (hbA.mono hb2.size)
  have HB2 : Hid (Below w.heap.size w (w2.alloc (.cells #[.slice xa xn xc, .int .i64 xp, .int .i64 xt, .bool xg, .int .i64 xi, .slice xa' xn' xc', .bool xd] 26))) := HB1.out.trans (hbX.mono HB1.out.size)
  replace HA : Hid (Blk (w2.alloc (.cells #[.slice xa xn xc, .int .i64 xp, .int .i64 xt, .bool xg, .int .i64 xi, .slice xa' xn' xc', .bool xd] 26)) _ _ _) := HA.out.below hbX
  replace HR : Hid (Blk (w2.alloc (.cells #[.slice xa xn xc, .int .i64 xp, .int .i64 xt, .bool xg, .int .i64 xi, .slice xa' xn' xc', .bool xd] 26)) _ _ _) := HR.out.below hbX
  replace HBb : Hid (Blk (w2.alloc (.cells #[.slice xa xn xc, .int .i64 xp, .int .i64 xt, .bool xg, .int .i64 xi, .slice xa' xn' xc', .bool xd] 26)) _ _ _) := HBb.out.below hbX
  replace HN : Hid (Blk (w2.alloc (.cells #[.slice xa xn xc, .int .i64 xp, .int .i64 xt, .bool xg, .int .i64 xi, .slice xa' xn' xc', .bool xd] 26)) _ _ _) := HN.out.below hbX
  replace PN1 : Hid (PinsAt (w2.alloc (.cells #[.slice xa xn xc, .int .i64 xp, .int .i64 xt, .bool xg, .int .i64 xi, .slice xa' xn' xc', .bool xd] 26)) (.slice na nn nc) nl) := PN1.out.below hbX
  replace PN2 : Hid (PinsAt (w2.alloc (.cells #[.slice xa xn xc, .int .i64 xp, .int .i64 xt, .bool xg, .int .i64 xi, .slice xa' xn' xc', .bool xd] 26)) (.slice na' nn' nc') nm) := PN2.out.below hbX
  have HX : Hid (Blk (w2.alloc (.cells #[.slice xa xn xc, .int .i64 xp, .int .i64 xt, .bool xg, .int .i64 xi, .slice xa' xn' xc', .bool xd] 26)) w2.heap.size #[.slice xa xn xc, .int .i64 xp, .int .i64 xt, .bool xg, .int .i64 xi, .slice xa' xn' xc', .bool xd] 26) := blk_alloc w2 _ _
  have PX1 : Hid (PinsAt (w2.alloc (.cells #[.slice xa xn xc, .int .i64 xp, .int .i64 xt, .bool xg, .int .i64 xi, .slice xa' xn' xc', .bool xd] 26)) (.slice xa xn xc) xl) := hz1.pins.below hbA
  have PX2 : Hid (PinsAt (w2.alloc (.cells #[.slice xa xn xc, .int .i64 xp, .int .i64 xt, .bool xg, .int .i64 xi, .slice xa' xn' xc', .bool xd] 26)) (.slice xa' xn' xc') xm) := hz2.pins.below hbA
  clear hbA hbX hb2 hz1 hz2 HB1
  go_upto_region 3 with fail
  generalize (w2.alloc (.cells #[.slice xa xn xc, .int .i64 xp, .int .i64 xt, .bool xg, .int .i64 xi, .slice xa' xn' xc', .bool xd] 26)) = W2 at HB2 HA HR HBb HN PN1 PN2 HX PX1 PX2 ⊢
  generalize w2.heap.size = g9 at HX ⊢
  have k0 := HA.out.cell 0
  have k1 := HA.out.cell 1
  have k2 := HA.out.cell 2
  have k3 := HA.out.cell 3
  have k4 := HA.out.cell 4
  have k5 := HA.out.cell 5
  have k6 := HA.out.cell 6
  simp only [List.getElem?_toArray, List.getElem?_cons_zero, List.getElem?_cons_succ] at k0 k1 k2 k3 k4 k5 k6
  go_wp2_with fail
  refine (HLf.out _ HB2.out).mono ?_
  rintro e w3 ⟨⟨lv, rfl, hlv⟩, hb3⟩
  obtain ⟨la, lc, rfl⟩ := ops_slice hlv
  clear k0 k1 k2 k3 k4 k5 k6 HLf
  have HB3 : Hid (Below w.heap.size w w3) := HB2.out.trans (hb3.mono HB2.out.size)
  replace HA : Hid (Blk w3 _ _ _) := HA.out.below hb3
  replace HR : Hid (Blk w3 _ _ _) := HR.out.below hb3
  replace HBb : Hid (Blk w3 _ _ _) := HBb.out.below hb3
  replace HN : Hid (Blk w3 _ _ _) := HN.out.below hb3
  replace PN1 : Hid (PinsAt w3 (.slice na nn nc) nl) := PN1.out.below hb3
  replace PN2 : Hid (PinsAt w3 (.slice na' nn' nc') nm) := PN2.out.below hb3
  replace HX : Hid (Blk w3 _ _ _) := HX.out.below hb3
  replace PX1 : Hid (PinsAt w3 (.slice xa xn xc) xl) := PX1.out.below hb3
  replace PX2 : Hid (PinsAt w3 (.slice xa' xn' xc') xm) := PX2.out.below hb3
  have HLv : Hid (OpsAt w3 (.slice la LA.length lc) LA) := hlv
  clear hlv hb3 HB2
  go_upto_region 4 with fail
  have k0 := HA.out.cell 0
  have k1 := HA.out.cell 1
  have k2 := HA.out.cell 2
  have k3 := HA.out.cell 3
  have k4 := HA.out.cell 4
  have k5 := HA.out.cell 5
  have k6 := HA.out.cell 6
  simp only [List.getElem?_toArray, List.getElem?_cons_zero, List.getElem?_cons_succ] at k0 k1 k2 k3 k4 k5 k6
  have x0 := HR.out.cell 0
  have x1 := HR.out.cell 1
  have x2 := HR.out.cell 2
  have x3 := HR.out.cell 3
  have x4 := HR.out.cell 4
  have x5 := HR.out.cell 5
  have x6 := HR.out.cell 6
  simp only [List.getElem?_toArray, List.getElem?_cons_zero, List.getElem?_cons_succ] at x0 x1 x2 x3 x4 x5 x6
  go_wp2_with fail
  refine (HNR.out _ HB3.out).mono ?_
  rintro e w4 ⟨⟨z1, z2, rfl, hz1, hz2⟩, hb4⟩
  simp only at hz1 hz2
  obtain ⟨ya, yc, rfl⟩ := pins_slice hz1
  obtain ⟨ya', yc', rfl⟩ := pins_slice hz2
  simp only [agV, agC]
  rw [HXn.out.1] at hz1
  rw [HXn.out.2] at hz2
  rw [HXn.out.1, HXn.out.2]
  clear k0 k1 k2 k3 k4 k5 k6 x0 x1 x2 x3 x4 x5 x6 HNR
  have hbA : Below w4.heap.size w4 (w4.alloc (.cells #[.slice ya xn yc, .int .i64 xp, .int .i64 xt, .bool xg, .int .i64 xi, .slice ya' xn' yc', .bool xd] 26)) := (Below.refl _ _).alloc (Nat.le_refl _) _
  have hbX : Below w3.heap.size w3 (w4.alloc (.cells #[.slice ya xn yc, .int .i64 xp, .int .i64 xt, .bool xg, .int .i64 xi, .slice ya' xn' yc', .bool xd] 26)) := hb4.trans (hbA.mono hb4.size)
  have HB4 : Hid (Below w.heap.size w (w4.alloc (.cells #[.slice ya xn yc, .int .i64 xp, .int .i64 xt, .bool xg, .int .i64 xi, .slice ya' xn' yc', .bool xd] 26))) := HB3.out.trans (hbX.mono HB3.out.size)
  replace HA : Hid (Blk (w4.alloc (.cells #[.slice ya xn yc, .int .i64 xp, .int .i64 xt, .bool xg, .int .i64 xi, .slice ya' xn' yc', .bool xd] 26)) _ _ _) := HA.out.below hbX
  replace HR : Hid (Blk (w4.alloc (.cells #[.slice ya xn yc, .int .i64 xp, .int .i64 xt, .bool xg, .int .i64 xi, .slice ya' xn' yc', .bool xd] 26)) _ _ _) := HR.out.below hbX
  replace HBb : Hid (Blk (w4.alloc (.cells #[.slice ya xn yc, .int .i64 xp, .int .i64 xt, .bool xg, .int .i64 xi, .slice ya' xn' yc', .bool xd] 26)) _ _ _) := HBb.out.below hbX
  replace HN : Hid (Blk (w4.alloc (.cells #[.slice ya xn yc, .int .i64 xp, .int .i64 xt, .bool xg, .int .i64 xi, .slice ya' xn' yc', .bool xd] 26)) _ _ _) := HN.out.below hbX
  replace PN1 : Hid (PinsAt (w4.alloc (.cells #[.slice ya xn yc, .int .i64 xp, .int .i64 xt, .bool xg, .int .i64 xi, .slice ya' xn' yc', .bool xd] 26)) (.slice na nn nc) nl) := PN1.out.below hbX
  replace PN2 : Hid (PinsAt (w4.alloc (.cells #[.slice ya xn yc, .int .i64 xp, .int .i64 xt, .bool xg, .int .i64 xi, .slice ya' xn' yc', .bool xd] 26)) (.slice na' nn' nc') nm) := PN2.out.below hbX
  replace HX : Hid (Blk (w4.alloc (.cells #[.slice ya xn yc, .int .i64 xp, .int .i64 xt, .bool xg, .int .i64 xi, .slice ya' xn' yc', .bool xd] 26)) _ _ _) := HX.out.below hbX
  replace PX1 : Hid (PinsAt (w4.alloc (.cells #[.slice ya xn yc, .int .i64 xp, .int .i64 xt, .bool xg, .int .i64 xi, .slice ya' xn' yc', .bool xd] 26)) (.slice xa xn xc) xl) := PX1.out.below hbX
  replace PX2 : Hid (PinsAt (w4.alloc (.cells #[.slice ya xn yc, .int .i64 xp, .int .i64 xt, .bool xg, .int .i64 xi, .slice ya' xn' yc', .bool xd] 26)) (.slice xa' xn' xc') xm) := PX2.out.below hbX
  replace HLv : Hid (OpsAt (w4.alloc (.cells #[.slice ya xn yc, .int .i64 xp, .int .i64 xt, .bool xg, .int .i64 xi, .slice ya' xn' yc', .bool xd] 26)) (.slice la LA.length lc) LA) := HLv.out.below hbX
  have HY : Hid (Blk (w4.alloc (.cells #[.slice ya xn yc, .int .i64 xp, .int .i64 xt, .bool xg, .int .i64 xi, .slice ya' xn' yc', .bool xd] 26)) w4.heap.size #[.slice ya xn yc, .int .i64 xp, .int .i64 xt, .bool xg, .int .i64 xi, .slice ya' xn' yc', .bool xd] 26) := blk_alloc w4 _ _
  have PY1 : Hid (PinsAt (w4.alloc (.cells #[.slice ya xn yc, .int .i64 xp, .int .i64 xt, .bool xg, .int .i64 xi, .slice ya' xn' yc', .bool xd] 26)) (.slice ya xn yc) xl) := hz1.below hbA
  have PY2 : Hid (PinsAt (w4.alloc (.cells #[.slice ya xn yc, .int .i64 xp, .int .i64 xt, .bool xg, .int .i64 xi, .slice ya' xn' yc', .bool xd] 26)) (.slice ya' xn' yc') xm) := hz2.below hbA
  clear hbA hbX hb4 hz1 hz2 HB3
  go_upto_region 5 with fail
  generalize (w4.alloc (.cells #[.slice ya xn yc, .int .i64 xp, .int .i64 xt, .bool xg, .int .i64 xi, .slice ya' xn' yc', .bool xd] 26)) = W4 at HB4 HA HR HBb HN PN1 PN2 HX PX1 PX2 HLv HY PY1 PY2 ⊢
  generalize w4.heap.size = g13 at HY ⊢
  have S0 : Hid (W4.drew.cell? ⟨w.heap.size, 0, none⟩ = some (.slice a n c) ∧ W4.drew.cell? ⟨w.heap.size, 1, none⟩ = some (.int .i64 p) ∧ W4.drew.cell? ⟨w.heap.size, 2, none⟩ = some (.int .i64 t) ∧ W4.drew.cell? ⟨w.heap.size, 3, none⟩ = some (.bool g) ∧ W4.drew.cell? ⟨w.heap.size, 4, none⟩ = some (.int .i64 i) ∧ W4.drew.cell? ⟨w.heap.size, 5, none⟩ = some (.slice a' m c') ∧ W4.drew.cell? ⟨w.heap.size, 6, none⟩ = some (.bool d) ∧ W4.drew.cell? ⟨w.heap.size + 1, 5, none⟩ = some (.int .i64 r6) ∧ W4.drew.cell? ⟨w.heap.size + 1, 6, none⟩ = some (.slice b q f) ∧ Hid (Below W4.heap.size W4 W4.drew)) := ⟨HA.out.cell 0, HA.out.cell 1, HA.out.cell 2, HA.out.cell 3, HA.out.cell 4, HA.out.cell 5, HA.out.cell 6, HR.out.cell 5, HR.out.cell 6, (Below.refl _ W4).drew⟩
  have KP : Hid (∀ x y : World, Below x.heap.size x y → (x.cell? ⟨w.heap.size, 0, none⟩ = some (.slice a n c) ∧ x.cell? ⟨w.heap.size, 1, none⟩ = some (.int .i64 p) ∧ x.cell? ⟨w.heap.size, 2, none⟩ = some (.int .i64 t) ∧ x.cell? ⟨w.heap.size, 3, none⟩ = some (.bool g) ∧ x.cell? ⟨w.heap.size, 4, none⟩ = some (.int .i64 i) ∧ x.cell? ⟨w.heap.size, 5, none⟩ = some (.slice a' m c') ∧ x.cell? ⟨w.heap.size, 6, none⟩ = some (.bool d) ∧ x.cell? ⟨w.heap.size + 1, 5, none⟩ = some (.int .i64 r6) ∧ x.cell? ⟨w.heap.size + 1, 6, none⟩ = some (.slice b q f) ∧ Hid (Below W4.heap.size W4 x)) → (y.cell? ⟨w.heap.size, 0, none⟩ = some (.slice a n c) ∧ y.cell? ⟨w.heap.size, 1, none⟩ = some (.int .i64 p) ∧ y.cell? ⟨w.heap.size, 2, none⟩ = some (.int .i64 t) ∧ y.cell? ⟨w.heap.size, 3, none⟩ = some (.bool g) ∧ y.cell? ⟨w.heap.size, 4, none⟩ = some (.int .i64 i) ∧ y.cell? ⟨w.heap.size, 5, none⟩ = some (.slice a' m c') ∧ y.cell? ⟨w.heap.size, 6, none⟩ = some (.bool d) ∧ y.cell? ⟨w.heap.size + 1, 5, none⟩ = some (.int .i64 r6) ∧ y.cell? ⟨w.heap.size + 1, 6, none⟩ = some (.slice b q f) ∧ Hid (Below W4.heap.size W4 y))) := fun x y hb h => by
    obtain ⟨h0, h1, h2, h3, h4, h5, h6, h7, h8, hB⟩ := h
    have e : ∀ b o v, x.cell? ⟨b, o, none⟩ = some v → y.cell? ⟨b, o, none⟩ = some v := fun b o v hc => (hb.cell (p := ⟨b, o, none⟩) (World.block_lt_of_cell? x _ hc)).trans hc
    exact ⟨e _ _ _ h0, e _ _ _ h1, e _ _ _ h2, e _ _ _ h3, e _ _ _ h4, e _ _ _ h5, e _ _ _ h6, e _ _ _ h7, e _ _ _ h8, hB.out.trans (hb.mono hB.out.size)⟩
  have SP : Hid (∀ x : World, (x.cell? ⟨w.heap.size, 0, none⟩ = some (.slice a n c) ∧ x.cell? ⟨w.heap.size, 1, none⟩ = some (.int .i64 p) ∧ x.cell? ⟨w.heap.size, 2, none⟩ = some (.int .i64 t) ∧ x.cell? ⟨w.heap.size, 3, none⟩ = some (.bool g) ∧ x.cell? ⟨w.heap.size, 4, none⟩ = some (.int .i64 i) ∧ x.cell? ⟨w.heap.size, 5, none⟩ = some (.slice a' m c') ∧ x.cell? ⟨w.heap.size, 6, none⟩ = some (.bool d) ∧ x.cell? ⟨w.heap.size + 1, 5, none⟩ = some (.int .i64 r6) ∧ x.cell? ⟨w.heap.size + 1, 6, none⟩ = some (.slice b q f) ∧ Hid (Below W4.heap.size W4 x)) → Below w.heap.size w x) := fun x h => HB4.out.trans (h.2.2.2.2.2.2.2.2.2.out.mono HB4.out.size)
  have SQ : Hid (∀ x : World, (x.cell? ⟨w.heap.size, 0, none⟩ = some (.slice a n c) ∧ x.cell? ⟨w.heap.size, 1, none⟩ = some (.int .i64 p) ∧ x.cell? ⟨w.heap.size, 2, none⟩ = some (.int .i64 t) ∧ x.cell? ⟨w.heap.size, 3, none⟩ = some (.bool g) ∧ x.cell? ⟨w.heap.size, 4, none⟩ = some (.int .i64 i) ∧ x.cell? ⟨w.heap.size, 5, none⟩ = some (.slice a' m c') ∧ x.cell? ⟨w.heap.size, 6, none⟩ = some (.bool d) ∧ x.cell? ⟨w.heap.size + 1, 5, none⟩ = some (.int .i64 r6) ∧ x.cell? ⟨w.heap.size + 1, 6, none⟩ = some (.slice b q f) ∧ Hid (Below W4.heap.size W4 x)) → Below W4.heap.size W4 x) := fun x h => h.2.2.2.2.2.2.2.2.2.out
  go_region_held3 (fun w' => w'.cell? ⟨w.heap.size, 0, none⟩ = some (.slice a n c) ∧ w'.cell? ⟨w.heap.size, 1, none⟩ = some (.int .i64 p) ∧ w'.cell? ⟨w.heap.size, 2, none⟩ = some (.int .i64 t) ∧ w'.cell? ⟨w.heap.size, 3, none⟩ = some (.bool g) ∧ w'.cell? ⟨w.heap.size, 4, none⟩ = some (.int .i64 i) ∧ w'.cell? ⟨w.heap.size, 5, none⟩ = some (.slice a' m c') ∧ w'.cell? ⟨w.heap.size, 6, none⟩ = some (.bool d) ∧ w'.cell? ⟨w.heap.size + 1, 5, none⟩ = some (.int .i64 r6) ∧ w'.cell? ⟨w.heap.size + 1, 6, none⟩ = some (.slice b q f) ∧ Hid (Below W4.heap.size W4 w')) (first | exact KP.out _ _ (by assumption) (by assumption) | exact S0.out)
    (first
      | (go_at_call 10; refine (HCA.out _ (SP.out _ (by assumption))).mono ?_; rintro e y ⟨rfl, hby⟩)
      | (go_at_call 11; refine (HCW.out _ (SP.out _ (by assumption))).mono ?_; rintro e y ⟨rfl, hby⟩))
  have hb5 : Below W4.heap.size W4 y := SQ.out _ (by assumption)
  have HB5 : Hid (Below w.heap.size w y) := HB4.out.trans (hb5.mono HB4.out.size)
  replace HA : Hid (Blk y _ _ _) := HA.out.below hb5
  replace HR : Hid (Blk y _ _ _) := HR.out.below hb5
  replace HBb : Hid (Blk y _ _ _) := HBb.out.below hb5
  replace HN : Hid (Blk y _ _ _) := HN.out.below hb5
  replace PN1 : Hid (PinsAt y (.slice na nn nc) nl) := PN1.out.below hb5
  replace PN2 : Hid (PinsAt y (.slice na' nn' nc') nm) := PN2.out.below hb5
  replace HX : Hid (Blk y _ _ _) := HX.out.below hb5
  replace PX1 : Hid (PinsAt y (.slice xa xn xc) xl) := PX1.out.below hb5
  replace PX2 : Hid (PinsAt y (.slice xa' xn' xc') xm) := PX2.out.below hb5
  replace HLv : Hid (OpsAt y (.slice la LA.length lc) LA) := HLv.out.below hb5
  replace HY : Hid (Blk y _ _ _) := HY.out.below hb5
  replace PY1 : Hid (PinsAt y (.slice ya xn yc) xl) := PY1.out.below hb5
  replace PY2 : Hid (PinsAt y (.slice ya' xn' yc') xm) := PY2.out.below hb5
  clear hb5 HB4 S0 KP SP SQ HCA HCW
  rename_i HS5
  clear HS5
  have hbZ : Below y.heap.size y (y.alloc (.cells #[.slice none 0 0, .int .i64 0, .int .i64 0, .bool false, .int .i64 0, .slice none 0 0, .bool false] 26)) := (Below.refl _ _).alloc (Nat.le_refl _) _
  have HBZ : Hid (Below y.heap.size y (y.alloc (.cells #[.slice none 0 0, .int .i64 0, .int .i64 0, .bool false, .int .i64 0, .slice none 0 0, .bool false] 26))) := hbZ
  have HZ : Hid (Blk (y.alloc (.cells #[.slice none 0 0, .int .i64 0, .int .i64 0, .bool false, .int .i64 0, .slice none 0 0, .bool false] 26)) y.heap.size #[.slice none 0 0, .int .i64 0, .int .i64 0, .bool false, .int .i64 0, .slice none 0 0, .bool false] 26) := blk_alloc y _ _
  clear hbZ
  go_upto_if 49 with fail
  generalize (y.alloc (.cells #[.slice none 0 0, .int .i64 0, .int .i64 0, .bool false, .int .i64 0, .slice none 0 0, .bool false] 26)) = W6 at HBZ HZ ⊢
  go_cut [] from 50 to 56 (fun wx => ∃ (fa : Option Addr) (fc : Nat) (fa' : Option Addr) (fc' : Nat), Hid (Blk wx y.heap.size #[.slice fa nn fc, .int .i64 np, .int .i64 nt, .bool ng, .int .i64 ni, .slice fa' nn' fc', .bool nd] 26 ∧ PinsAt wx (.slice fa nn fc) nl ∧ PinsAt wx (.slice fa' nn' fc') nm ∧ Below y.heap.size y wx))
  case first =>
    by_cases h1 : EN = 0
    · have hN := F3.out.1 h1
      injection hN with j1 j2 j3 j4 j5 j6 j7
      have HJ : Hid (nl = r7 ∧ np = r6 ∧ nt = 0 ∧ ng = false ∧ ni = 0 ∧ nm = [] ∧ nd = true) := ⟨j1, j2, j3, j4, j5, j6, j7⟩
      clear j1 j2 j3 j4 j5 j6 j7
      have h1b : (EN == 0) = true := by simp [h1]
      have hR6 : Blk W6 (w.heap.size + 1) #[.int .i64 r1, .int .i64 r2, .int .i64 r3, .int .i64 r4, .bool r5, .int .i64 r6, .slice b q f] 28 := HR.out.below HBZ.out
      have hZ6 := HZ.out
      have k5 := hR6.cell 5
      have k6 := hR6.cell 6
      simp only [List.getElem?_toArray, List.getElem?_cons_zero, List.getElem?_cons_succ] at k5 k6
      have d0 := hZ6.cell 0
      have d1 := hZ6.cell 1
      have d2 := hZ6.cell 2
      have d3 := hZ6.cell 3
      have d4 := hZ6.cell 4
      have d5 := hZ6.cell 5
      have d6 := hZ6.cell 6
      simp only [List.getElem?_toArray, List.getElem?_cons_zero, List.getElem?_cons_succ] at d0 d1 d2 d3 d4 d5 d6
      have df0 := hZ6.free 0
      have df1 := hZ6.free 1
      have df2 := hZ6.free 2
      have df3 := hZ6.free 3
      have df4 := hZ6.free 4
      have df5 := hZ6.free 5
      have df6 := hZ6.free 6
      clear h1 hR6 hZ6
      go_wp2_with fail
      go_meet
      have hbc : Below y.heap.size y (((((((W6.setCell ⟨y.heap.size, 0, none⟩ (.slice b q f)).setCell ⟨y.heap.size, 1, none⟩ (.int .i64 r6)).setCell ⟨y.heap.size, 2, none⟩ (.int .i64 0)).setCell ⟨y.heap.size, 3, none⟩ (.bool false)).setCell ⟨y.heap.size, 4, none⟩ (.int .i64 0)).setCell ⟨y.heap.size, 5, none⟩ (.slice none 0 0)).setCell ⟨y.heap.size, 6, none⟩ (.bool true)) := (((((((HBZ.out.setCell (Nat.le_refl _) _).setCell (Nat.le_refl _) _).setCell (Nat.le_refl _) _).setCell (Nat.le_refl _) _).setCell (Nat.le_refl _) _).setCell (Nat.le_refl _) _).setCell (Nat.le_refl _) _)
      have hbl := ((((((HZ.out.put 0 (.slice b q f)).put 1 (.int .i64 r6)).put 2 (.int .i64 0)).put 3 (.bool false)).put 4 (.int .i64 0)).put 5 (.slice none 0 0)).put 6 (.bool true)
      obtain ⟨rfl, rfl, rfl, rfl, rfl, rfl, rfl⟩ := HJ.out
      have e1 : nn = q := HNn.out.1.symm.trans HRq.out
      have e2 : nn' = 0 := HNn.out.2.symm
      subst e1 e2
      exact ⟨b, f, none, 0, ⟨hbl, HPR.out _ (HB5.out.trans (hbc.mono HB5.out.size)), pins_none _, hbc⟩⟩
    · have hN := F3.out.2 h1
      have h1b : (EN == 0) = false := by simp [h1]
      unfold Ag.Agent.none at hN
      injection hN with j1 j2 j3 j4 j5 j6 j7
      have HJ : Hid (nl = [] ∧ np = 0 ∧ nt = 0 ∧ ng = false ∧ ni = 0 ∧ nm = [] ∧ nd = false) := ⟨j1, j2, j3, j4, j5, j6, j7⟩
      clear j1 j2 j3 j4 j5 j6 j7 h1
      go_wp2_with fail
      go_meet
      obtain ⟨rfl, rfl, rfl, rfl, rfl, rfl, rfl⟩ := HJ.out
      have e1 : nn = 0 := HNn.out.1.symm
      have e2 : nn' = 0 := HNn.out.2.symm
      subst e1 e2
      exact ⟨none, 0, none, 0, ⟨HZ.out, pins_none _, pins_none _, HBZ.out⟩⟩
  case rest =>
    obtain ⟨fa, fc, fa', fc', HFr⟩ := hcut
    clear HBZ HZ F3 HPR HNn
    go_upto_region 10 with fail
    have HAc : Hid (Blk wc w.heap.size #[.slice a n c, .int .i64 p, .int .i64 t, .bool g, .int .i64 i, .slice a' m c', .bool d] 26) := HA.out.below HFr.out.2.2.2
    go_cut [62] from 57 to 62 (fun s62 wx => s62 = .bool (decide (EL = 0) && g) ∧ wx = wc)
    case first =>
      by_cases h1 : EL = 0
      · have h1b : (EL == 0) = true := by simp [h1]
        have h1c : decide (EL = 0) = true := by simp [h1]
        have k3 := HAc.out.cell 3
        simp only [List.getElem?_toArray, List.getElem?_cons_zero, List.getElem?_cons_succ] at k3
        clear h1
        go_wp2_with fail
        go_meet
        exact ⟨by rw [h1c]; simp, rfl⟩
      · have h1b : (EL == 0) = false := by simp [h1]
        have h1c : decide (EL = 0) = false := by simp [h1]
        clear h1
        go_wp2_with fail
        go_meet
        exact ⟨by rw [h1c]; simp, rfl⟩
    case rest =>
      obtain ⟨rfl, rfl⟩ := hcut
      generalize hbb : (decide (EL = 0) && g) = BB
      have HBBt : Hid (BB = true → EL = 0 ∧ g = true) := fun h => by rw [h] at hbb; simpa using hbb
      have HBBf : Hid (BB = false → LA = []) := fun h => by
        rw [h] at hbb
        refine HL0.out (fun hh => ?_)
        rw [hh.1, hh.2] at hbb
        simp at hbb
      clear hbb HL0
      go_upto_if 62 with fail
      go_cut [18] from 63 to 71 (fun s18 wx => ∃ (oa : Option Addr) (oc : Nat), s18 = .slice oa LA.length oc ∧ Hid (OpsAt wx (.slice oa LA.length oc) LA ∧ Below wc.heap.size wc wx))
      case first =>
        cases BB
        · have HE : Hid (LA = []) := HBBf.out rfl
          go_wp2_with fail
          go_meet
          exact ⟨none, 0, by rw [HE.out]; rfl, ⟨by rw [HE.out]; exact ops_none _, Below.refl _ _⟩⟩
        · have HE := HBBt.out rfl
          have HSt' := HSt.out HE.1 HE.2
          have HS2 : Hid (∀ w', Below w.heap.size w w' → Calls Try.prog 12 #[.slice a n c, .slice a' m c'] w' fun e w'' => (∃ x, e = .returned (.tuple #[x, .int .i64 0]) ∧ OpsAt w'' x LA) ∧ Below w'.heap.size w' w'') := HSt'
          clear HSt' HE
          have k0 := HAc.out.cell 0
          have k1 := HAc.out.cell 1
          have k2 := HAc.out.cell 2
          have k3 := HAc.out.cell 3
          have k4 := HAc.out.cell 4
          have k5 := HAc.out.cell 5
          have k6 := HAc.out.cell 6
          simp only [List.getElem?_toArray, List.getElem?_cons_zero, List.getElem?_cons_succ] at k0 k1 k2 k3 k4 k5 k6
          go_wp2_with fail
          refine (HS2.out _ (HB5.out.trans (HFr.out.2.2.2.mono HB5.out.size))).mono ?_
          rintro e w8 ⟨⟨x, rfl, hx⟩, hb8⟩
          obtain ⟨oa, oc, rfl⟩ := ops_slice hx
          go_wp2_with fail
          go_meet
          exact ⟨oa, oc, rfl, ⟨hx, hb8⟩⟩
      case rest =>
        obtain ⟨oa, oc, rfl, HOp⟩ := hcut
        clear HBBt HBBf HSt HAc
        have HYe : Hid (Below y.heap.size y wc) := HFr.out.2.2.2.trans (HOp.out.2.mono HFr.out.2.2.2.size)
        have HBe : Hid (Below w.heap.size w wc) := HB5.out.trans (HYe.out.mono HB5.out.size)
        have PF1 : Hid (PinsAt wc (.slice fa nn fc) nl) := HFr.out.2.1.below HOp.out.2
        have PF2 : Hid (PinsAt wc (.slice fa' nn' fc') nm) := HFr.out.2.2.1.below HOp.out.2
        have HF : Hid (Blk wc y.heap.size #[.slice fa nn fc, .int .i64 np, .int .i64 nt, .bool ng, .int .i64 ni, .slice fa' nn' fc', .bool nd] 26) := HFr.out.1.below HOp.out.2
        have HOe : Hid (OpsAt wc (.slice oa LA.length oc) LA) := HOp.out.1
        replace HA : Hid (Blk wc _ _ _) := HA.out.below HYe.out
        replace HBb : Hid (Blk wc _ _ _) := HBb.out.below HYe.out
        replace HN : Hid (Blk wc _ _ _) := HN.out.below HYe.out
        replace HX : Hid (Blk wc _ _ _) := HX.out.below HYe.out
        replace HY : Hid (Blk wc _ _ _) := HY.out.below HYe.out
        replace PN1 : Hid (PinsAt wc (.slice na nn nc) nl) := PN1.out.below HYe.out
        replace PN2 : Hid (PinsAt wc (.slice na' nn' nc') nm) := PN2.out.below HYe.out
        replace PX1 : Hid (PinsAt wc (.slice xa xn xc) xl) := PX1.out.below HYe.out
        replace PX2 : Hid (PinsAt wc (.slice xa' xn' xc') xm) := PX2.out.below HYe.out
        replace HLv : Hid (OpsAt wc (.slice la LA.length lc) LA) := HLv.out.below HYe.out
        replace PY1 : Hid (PinsAt wc (.slice ya xn yc) xl) := PY1.out.below HYe.out
        replace PY2 : Hid (PinsAt wc (.slice ya' xn' yc') xm) := PY2.out.below HYe.out
        clear HFr HOp HYe HB5 HR HRq HXn
        generalize y.heap.size = g17 at HF ⊢
        have HS1 : Hid (∀ w', Below wc.heap.size wc w' → Calls Try.prog 16 #[.agg #[.slice na nn nc, .int .i64 np, .int .i64 nt, .bool ng, .int .i64 ni, .slice na' nn' nc', .bool nd], .agg #[.slice fa nn fc, .int .i64 np, .int .i64 nt, .bool ng, .int .i64 ni, .slice fa' nn' fc', .bool nd]] w' fun e w'' => e = .returned (.bool true) ∧ Below w'.heap.size w' w'') := fun w' hb => by
          have := sameAgR_any nl nm nl nm np nt ni np nt ni ng nd ng nd _ _ _ _ w' (PN1.out.below hb) (PN2.out.below hb) (PF1.out.below hb) (PF2.out.below hb)
          rw [Ag.sameAgent_self] at this
          exact this
        have HS2 : Hid (∀ w', Below wc.heap.size wc w' → Calls Try.prog 16 #[.agg #[.slice xa xn xc, .int .i64 xp, .int .i64 xt, .bool xg, .int .i64 xi, .slice xa' xn' xc', .bool xd], .agg #[.slice ya xn yc, .int .i64 xp, .int .i64 xt, .bool xg, .int .i64 xi, .slice ya' xn' yc', .bool xd]] w' fun e w'' => e = .returned (.bool true) ∧ Below w'.heap.size w' w'') := fun w' hb => by
          have := sameAgR_any xl xm xl xm xp xt xi xp xt xi xg xd xg xd _ _ _ _ w' (PX1.out.below hb) (PX2.out.below hb) (PY1.out.below hb) (PY2.out.below hb)
          rw [Ag.sameAgent_self] at this
          exact this
        have HEq : Hid (∀ w', Below wc.heap.size wc w' → Calls Try.prog 17 #[.slice la LA.length lc, .slice oa LA.length oc] w' fun e w'' => e = .returned (.bool true) ∧ Below w'.heap.size w' w'') := fun w' hb => by
          have := equalO_any _ _ LA LA w' (HLv.out.below hb) (HOe.out.below hb)
          rw [sameO_self] at this
          exact this
        clear PN1 PN2 PF1 PF2 PX1 PX2 PY1 PY2 HLv HOe
        generalize LA.length = ln at HEq ⊢
        have S0 : Hid (wc.drew.cell? ⟨w.heap.size, 0, none⟩ = some (.slice a n c) ∧ wc.drew.cell? ⟨w.heap.size, 1, none⟩ = some (.int .i64 p) ∧ wc.drew.cell? ⟨w.heap.size, 2, none⟩ = some (.int .i64 t) ∧ wc.drew.cell? ⟨w.heap.size, 3, none⟩ = some (.bool g) ∧ wc.drew.cell? ⟨w.heap.size, 4, none⟩ = some (.int .i64 i) ∧ wc.drew.cell? ⟨w.heap.size, 5, none⟩ = some (.slice a' m c') ∧ wc.drew.cell? ⟨w.heap.size, 6, none⟩ = some (.bool d) ∧ wc.drew.cell? ⟨w.heap.size + 1 + 1, 0, none⟩ = some (.slice ab nb cb) ∧ wc.drew.cell? ⟨w.heap.size + 1 + 1, 1, none⟩ = some (.int .i64 pb) ∧ wc.drew.cell? ⟨w.heap.size + 1 + 1, 2, none⟩ = some (.int .i64 tb_) ∧ wc.drew.cell? ⟨w.heap.size + 1 + 1, 3, none⟩ = some (.bool gb) ∧ wc.drew.cell? ⟨w.heap.size + 1 + 1, 4, none⟩ = some (.int .i64 ib) ∧ wc.drew.cell? ⟨w.heap.size + 1 + 1, 5, none⟩ = some (.slice ab' mb cb') ∧ wc.drew.cell? ⟨w.heap.size + 1 + 1, 6, none⟩ = some (.bool db) ∧ wc.drew.cell? ⟨g7, 0, none⟩ = some (.slice na nn nc) ∧ wc.drew.cell? ⟨g7, 1, none⟩ = some (.int .i64 np) ∧ wc.drew.cell? ⟨g7, 2, none⟩ = some (.int .i64 nt) ∧ wc.drew.cell? ⟨g7, 3, none⟩ = some (.bool ng) ∧ wc.drew.cell? ⟨g7, 4, none⟩ = some (.int .i64 ni) ∧ wc.drew.cell? ⟨g7, 5, none⟩ = some (.slice na' nn' nc') ∧ wc.drew.cell? ⟨g7, 6, none⟩ = some (.bool nd) ∧ wc.drew.cell? ⟨g17, 0, none⟩ = some (.slice fa nn fc) ∧ wc.drew.cell? ⟨g17, 1, none⟩ = some (.int .i64 np) ∧ wc.drew.cell? ⟨g17, 2, none⟩ = some (.int .i64 nt) ∧ wc.drew.cell? ⟨g17, 3, none⟩ = some (.bool ng) ∧ wc.drew.cell? ⟨g17, 4, none⟩ = some (.int .i64 ni) ∧ wc.drew.cell? ⟨g17, 5, none⟩ = some (.slice fa' nn' fc') ∧ wc.drew.cell? ⟨g17, 6, none⟩ = some (.bool nd) ∧ wc.drew.cell? ⟨g9, 0, none⟩ = some (.slice xa xn xc) ∧ wc.drew.cell? ⟨g9, 1, none⟩ = some (.int .i64 xp) ∧ wc.drew.cell? ⟨g9, 2, none⟩ = some (.int .i64 xt) ∧ wc.drew.cell? ⟨g9, 3, none⟩ = some (.bool xg) ∧ wc.drew.cell? ⟨g9, 4, none⟩ = some (.int .i64 xi) ∧ wc.drew.cell? ⟨g9, 5, none⟩ = some (.slice xa' xn' xc') ∧ wc.drew.cell? ⟨g9, 6, none⟩ = some (.bool xd) ∧ wc.drew.cell? ⟨g13, 0, none⟩ = some (.slice ya xn yc) ∧ wc.drew.cell? ⟨g13, 1, none⟩ = some (.int .i64 xp) ∧ wc.drew.cell? ⟨g13, 2, none⟩ = some (.int .i64 xt) ∧ wc.drew.cell? ⟨g13, 3, none⟩ = some (.bool xg) ∧ wc.drew.cell? ⟨g13, 4, none⟩ = some (.int .i64 xi) ∧ wc.drew.cell? ⟨g13, 5, none⟩ = some (.slice ya' xn' yc') ∧ wc.drew.cell? ⟨g13, 6, none⟩ = some (.bool xd) ∧ Hid (Below wc.heap.size wc wc.drew)) := ⟨HA.out.cell 0, HA.out.cell 1, HA.out.cell 2, HA.out.cell 3, HA.out.cell 4, HA.out.cell 5, HA.out.cell 6, HBb.out.cell 0, HBb.out.cell 1, HBb.out.cell 2, HBb.out.cell 3, HBb.out.cell 4, HBb.out.cell 5, HBb.out.cell 6, HN.out.cell 0, HN.out.cell 1, HN.out.cell 2, HN.out.cell 3, HN.out.cell 4, HN.out.cell 5, HN.out.cell 6, HF.out.cell 0, HF.out.cell 1, HF.out.cell 2, HF.out.cell 3, HF.out.cell 4, HF.out.cell 5, HF.out.cell 6, HX.out.cell 0, HX.out.cell 1, HX.out.cell 2, HX.out.cell 3, HX.out.cell 4, HX.out.cell 5, HX.out.cell 6, HY.out.cell 0, HY.out.cell 1, HY.out.cell 2, HY.out.cell 3, HY.out.cell 4, HY.out.cell 5, HY.out.cell 6, (Below.refl _ wc).drew⟩
        have KP : Hid (∀ x y : World, Below x.heap.size x y → (x.cell? ⟨w.heap.size, 0, none⟩ = some (.slice a n c) ∧ x.cell? ⟨w.heap.size, 1, none⟩ = some (.int .i64 p) ∧ x.cell? ⟨w.heap.size, 2, none⟩ = some (.int .i64 t) ∧ x.cell? ⟨w.heap.size, 3, none⟩ = some (.bool g) ∧ x.cell? ⟨w.heap.size, 4, none⟩ = some (.int .i64 i) ∧ x.cell? ⟨w.heap.size, 5, none⟩ = some (.slice a' m c') ∧ x.cell? ⟨w.heap.size, 6, none⟩ = some (.bool d) ∧ x.cell? ⟨w.heap.size + 1 + 1, 0, none⟩ = some (.slice ab nb cb) ∧ x.cell? ⟨w.heap.size + 1 + 1, 1, none⟩ = some (.int .i64 pb) ∧ x.cell? ⟨w.heap.size + 1 + 1, 2, none⟩ = some (.int .i64 tb_) ∧ x.cell? ⟨w.heap.size + 1 + 1, 3, none⟩ = some (.bool gb) ∧ x.cell? ⟨w.heap.size + 1 + 1, 4, none⟩ = some (.int .i64 ib) ∧ x.cell? ⟨w.heap.size + 1 + 1, 5, none⟩ = some (.slice ab' mb cb') ∧ x.cell? ⟨w.heap.size + 1 + 1, 6, none⟩ = some (.bool db) ∧ x.cell? ⟨g7, 0, none⟩ = some (.slice na nn nc) ∧ x.cell? ⟨g7, 1, none⟩ = some (.int .i64 np) ∧ x.cell? ⟨g7, 2, none⟩ = some (.int .i64 nt) ∧ x.cell? ⟨g7, 3, none⟩ = some (.bool ng) ∧ x.cell? ⟨g7, 4, none⟩ = some (.int .i64 ni) ∧ x.cell? ⟨g7, 5, none⟩ = some (.slice na' nn' nc') ∧ x.cell? ⟨g7, 6, none⟩ = some (.bool nd) ∧ x.cell? ⟨g17, 0, none⟩ = some (.slice fa nn fc) ∧ x.cell? ⟨g17, 1, none⟩ = some (.int .i64 np) ∧ x.cell? ⟨g17, 2, none⟩ = some (.int .i64 nt) ∧ x.cell? ⟨g17, 3, none⟩ = some (.bool ng) ∧ x.cell? ⟨g17, 4, none⟩ = some (.int .i64 ni) ∧ x.cell? ⟨g17, 5, none⟩ = some (.slice fa' nn' fc') ∧ x.cell? ⟨g17, 6, none⟩ = some (.bool nd) ∧ x.cell? ⟨g9, 0, none⟩ = some (.slice xa xn xc) ∧ x.cell? ⟨g9, 1, none⟩ = some (.int .i64 xp) ∧ x.cell? ⟨g9, 2, none⟩ = some (.int .i64 xt) ∧ x.cell? ⟨g9, 3, none⟩ = some (.bool xg) ∧ x.cell? ⟨g9, 4, none⟩ = some (.int .i64 xi) ∧ x.cell? ⟨g9, 5, none⟩ = some (.slice xa' xn' xc') ∧ x.cell? ⟨g9, 6, none⟩ = some (.bool xd) ∧ x.cell? ⟨g13, 0, none⟩ = some (.slice ya xn yc) ∧ x.cell? ⟨g13, 1, none⟩ = some (.int .i64 xp) ∧ x.cell? ⟨g13, 2, none⟩ = some (.int .i64 xt) ∧ x.cell? ⟨g13, 3, none⟩ = some (.bool xg) ∧ x.cell? ⟨g13, 4, none⟩ = some (.int .i64 xi) ∧ x.cell? ⟨g13, 5, none⟩ = some (.slice ya' xn' yc') ∧ x.cell? ⟨g13, 6, none⟩ = some (.bool xd) ∧ Hid (Below wc.heap.size wc x)) → (y.cell? ⟨w.heap.size, 0, none⟩ = some (.slice a n c) ∧ y.cell? ⟨w.heap.size, 1, none⟩ = some (.int .i64 p) ∧ y.cell? ⟨w.heap.size, 2, none⟩ = some (.int .i64 t) ∧ y.cell? ⟨w.heap.size, 3, none⟩ = some (.bool g) ∧ y.cell? ⟨w.heap.size, 4, none⟩ = some (.int .i64 i) ∧ y.cell? ⟨w.heap.size, 5, none⟩ = some (.slice a' m c') ∧ y.cell? ⟨w.heap.size, 6, none⟩ = some (.bool d) ∧ y.cell? ⟨w.heap.size + 1 + 1, 0, none⟩ = some (.slice ab nb cb) ∧ y.cell? ⟨w.heap.size + 1 + 1, 1, none⟩ = some (.int .i64 pb) ∧ y.cell? ⟨w.heap.size + 1 + 1, 2, none⟩ = some (.int .i64 tb_) ∧ y.cell? ⟨w.heap.size + 1 + 1, 3, none⟩ = some (.bool gb) ∧ y.cell? ⟨w.heap.size + 1 + 1, 4, none⟩ = some (.int .i64 ib) ∧ y.cell? ⟨w.heap.size + 1 + 1, 5, none⟩ = some (.slice ab' mb cb') ∧ y.cell? ⟨w.heap.size + 1 + 1, 6, none⟩ = some (.bool db) ∧ y.cell? ⟨g7, 0, none⟩ = some (.slice na nn nc) ∧ y.cell? ⟨g7, 1, none⟩ = some (.int .i64 np) ∧ y.cell? ⟨g7, 2, none⟩ = some (.int .i64 nt) ∧ y.cell? ⟨g7, 3, none⟩ = some (.bool ng) ∧ y.cell? ⟨g7, 4, none⟩ = some (.int .i64 ni) ∧ y.cell? ⟨g7, 5, none⟩ = some (.slice na' nn' nc') ∧ y.cell? ⟨g7, 6, none⟩ = some (.bool nd) ∧ y.cell? ⟨g17, 0, none⟩ = some (.slice fa nn fc) ∧ y.cell? ⟨g17, 1, none⟩ = some (.int .i64 np) ∧ y.cell? ⟨g17, 2, none⟩ = some (.int .i64 nt) ∧ y.cell? ⟨g17, 3, none⟩ = some (.bool ng) ∧ y.cell? ⟨g17, 4, none⟩ = some (.int .i64 ni) ∧ y.cell? ⟨g17, 5, none⟩ = some (.slice fa' nn' fc') ∧ y.cell? ⟨g17, 6, none⟩ = some (.bool nd) ∧ y.cell? ⟨g9, 0, none⟩ = some (.slice xa xn xc) ∧ y.cell? ⟨g9, 1, none⟩ = some (.int .i64 xp) ∧ y.cell? ⟨g9, 2, none⟩ = some (.int .i64 xt) ∧ y.cell? ⟨g9, 3, none⟩ = some (.bool xg) ∧ y.cell? ⟨g9, 4, none⟩ = some (.int .i64 xi) ∧ y.cell? ⟨g9, 5, none⟩ = some (.slice xa' xn' xc') ∧ y.cell? ⟨g9, 6, none⟩ = some (.bool xd) ∧ y.cell? ⟨g13, 0, none⟩ = some (.slice ya xn yc) ∧ y.cell? ⟨g13, 1, none⟩ = some (.int .i64 xp) ∧ y.cell? ⟨g13, 2, none⟩ = some (.int .i64 xt) ∧ y.cell? ⟨g13, 3, none⟩ = some (.bool xg) ∧ y.cell? ⟨g13, 4, none⟩ = some (.int .i64 xi) ∧ y.cell? ⟨g13, 5, none⟩ = some (.slice ya' xn' yc') ∧ y.cell? ⟨g13, 6, none⟩ = some (.bool xd) ∧ Hid (Below wc.heap.size wc y))) := fun x y hb h => by
          obtain ⟨j0, j1, j2, j3, j4, j5, j6, j7, j8, j9, j10, j11, j12, j13, j14, j15, j16, j17, j18, j19, j20, j21, j22, j23, j24, j25, j26, j27, j28, j29, j30, j31, j32, j33, j34, j35, j36, j37, j38, j39, j40, j41, hB⟩ := h
          have e : ∀ b o v, x.cell? ⟨b, o, none⟩ = some v → y.cell? ⟨b, o, none⟩ = some v := fun b o v hc => (hb.cell (p := ⟨b, o, none⟩) (World.block_lt_of_cell? x _ hc)).trans hc
          exact ⟨e _ _ _ j0, e _ _ _ j1, e _ _ _ j2, e _ _ _ j3, e _ _ _ j4, e _ _ _ j5, e _ _ _ j6, e _ _ _ j7, e _ _ _ j8, e _ _ _ j9, e _ _ _ j10, e _ _ _ j11, e _ _ _ j12, e _ _ _ j13, e _ _ _ j14, e _ _ _ j15, e _ _ _ j16, e _ _ _ j17, e _ _ _ j18, e _ _ _ j19, e _ _ _ j20, e _ _ _ j21, e _ _ _ j22, e _ _ _ j23, e _ _ _ j24, e _ _ _ j25, e _ _ _ j26, e _ _ _ j27, e _ _ _ j28, e _ _ _ j29, e _ _ _ j30, e _ _ _ j31, e _ _ _ j32, e _ _ _ j33, e _ _ _ j34, e _ _ _ j35, e _ _ _ j36, e _ _ _ j37, e _ _ _ j38, e _ _ _ j39, e _ _ _ j40, e _ _ _ j41, hB.out.trans (hb.mono hB.out.size)⟩
        have SP : Hid (∀ x : World, (x.cell? ⟨w.heap.size, 0, none⟩ = some (.slice a n c) ∧ x.cell? ⟨w.heap.size, 1, none⟩ = some (.int .i64 p) ∧ x.cell? ⟨w.heap.size, 2, none⟩ = some (.int .i64 t) ∧ x.cell? ⟨w.heap.size, 3, none⟩ = some (.bool g) ∧ x.cell? ⟨w.heap.size, 4, none⟩ = some (.int .i64 i) ∧ x.cell? ⟨w.heap.size, 5, none⟩ = some (.slice a' m c') ∧ x.cell? ⟨w.heap.size, 6, none⟩ = some (.bool d) ∧ x.cell? ⟨w.heap.size + 1 + 1, 0, none⟩ = some (.slice ab nb cb) ∧ x.cell? ⟨w.heap.size + 1 + 1, 1, none⟩ = some (.int .i64 pb) ∧ x.cell? ⟨w.heap.size + 1 + 1, 2, none⟩ = some (.int .i64 tb_) ∧ x.cell? ⟨w.heap.size + 1 + 1, 3, none⟩ = some (.bool gb) ∧ x.cell? ⟨w.heap.size + 1 + 1, 4, none⟩ = some (.int .i64 ib) ∧ x.cell? ⟨w.heap.size + 1 + 1, 5, none⟩ = some (.slice ab' mb cb') ∧ x.cell? ⟨w.heap.size + 1 + 1, 6, none⟩ = some (.bool db) ∧ x.cell? ⟨g7, 0, none⟩ = some (.slice na nn nc) ∧ x.cell? ⟨g7, 1, none⟩ = some (.int .i64 np) ∧ x.cell? ⟨g7, 2, none⟩ = some (.int .i64 nt) ∧ x.cell? ⟨g7, 3, none⟩ = some (.bool ng) ∧ x.cell? ⟨g7, 4, none⟩ = some (.int .i64 ni) ∧ x.cell? ⟨g7, 5, none⟩ = some (.slice na' nn' nc') ∧ x.cell? ⟨g7, 6, none⟩ = some (.bool nd) ∧ x.cell? ⟨g17, 0, none⟩ = some (.slice fa nn fc) ∧ x.cell? ⟨g17, 1, none⟩ = some (.int .i64 np) ∧ x.cell? ⟨g17, 2, none⟩ = some (.int .i64 nt) ∧ x.cell? ⟨g17, 3, none⟩ = some (.bool ng) ∧ x.cell? ⟨g17, 4, none⟩ = some (.int .i64 ni) ∧ x.cell? ⟨g17, 5, none⟩ = some (.slice fa' nn' fc') ∧ x.cell? ⟨g17, 6, none⟩ = some (.bool nd) ∧ x.cell? ⟨g9, 0, none⟩ = some (.slice xa xn xc) ∧ x.cell? ⟨g9, 1, none⟩ = some (.int .i64 xp) ∧ x.cell? ⟨g9, 2, none⟩ = some (.int .i64 xt) ∧ x.cell? ⟨g9, 3, none⟩ = some (.bool xg) ∧ x.cell? ⟨g9, 4, none⟩ = some (.int .i64 xi) ∧ x.cell? ⟨g9, 5, none⟩ = some (.slice xa' xn' xc') ∧ x.cell? ⟨g9, 6, none⟩ = some (.bool xd) ∧ x.cell? ⟨g13, 0, none⟩ = some (.slice ya xn yc) ∧ x.cell? ⟨g13, 1, none⟩ = some (.int .i64 xp) ∧ x.cell? ⟨g13, 2, none⟩ = some (.int .i64 xt) ∧ x.cell? ⟨g13, 3, none⟩ = some (.bool xg) ∧ x.cell? ⟨g13, 4, none⟩ = some (.int .i64 xi) ∧ x.cell? ⟨g13, 5, none⟩ = some (.slice ya' xn' yc') ∧ x.cell? ⟨g13, 6, none⟩ = some (.bool xd) ∧ Hid (Below wc.heap.size wc x)) → Below w.heap.size w x) := fun x h => HBe.out.trans ((h.2.2.2.2.2.2.2.2.2.2.2.2.2.2.2.2.2.2.2.2.2.2.2.2.2.2.2.2.2.2.2.2.2.2.2.2.2.2.2.2.2.2).out.mono HBe.out.size)
        have SQ : Hid (∀ x : World, (x.cell? ⟨w.heap.size, 0, none⟩ = some (.slice a n c) ∧ x.cell? ⟨w.heap.size, 1, none⟩ = some (.int .i64 p) ∧ x.cell? ⟨w.heap.size, 2, none⟩ = some (.int .i64 t) ∧ x.cell? ⟨w.heap.size, 3, none⟩ = some (.bool g) ∧ x.cell? ⟨w.heap.size, 4, none⟩ = some (.int .i64 i) ∧ x.cell? ⟨w.heap.size, 5, none⟩ = some (.slice a' m c') ∧ x.cell? ⟨w.heap.size, 6, none⟩ = some (.bool d) ∧ x.cell? ⟨w.heap.size + 1 + 1, 0, none⟩ = some (.slice ab nb cb) ∧ x.cell? ⟨w.heap.size + 1 + 1, 1, none⟩ = some (.int .i64 pb) ∧ x.cell? ⟨w.heap.size + 1 + 1, 2, none⟩ = some (.int .i64 tb_) ∧ x.cell? ⟨w.heap.size + 1 + 1, 3, none⟩ = some (.bool gb) ∧ x.cell? ⟨w.heap.size + 1 + 1, 4, none⟩ = some (.int .i64 ib) ∧ x.cell? ⟨w.heap.size + 1 + 1, 5, none⟩ = some (.slice ab' mb cb') ∧ x.cell? ⟨w.heap.size + 1 + 1, 6, none⟩ = some (.bool db) ∧ x.cell? ⟨g7, 0, none⟩ = some (.slice na nn nc) ∧ x.cell? ⟨g7, 1, none⟩ = some (.int .i64 np) ∧ x.cell? ⟨g7, 2, none⟩ = some (.int .i64 nt) ∧ x.cell? ⟨g7, 3, none⟩ = some (.bool ng) ∧ x.cell? ⟨g7, 4, none⟩ = some (.int .i64 ni) ∧ x.cell? ⟨g7, 5, none⟩ = some (.slice na' nn' nc') ∧ x.cell? ⟨g7, 6, none⟩ = some (.bool nd) ∧ x.cell? ⟨g17, 0, none⟩ = some (.slice fa nn fc) ∧ x.cell? ⟨g17, 1, none⟩ = some (.int .i64 np) ∧ x.cell? ⟨g17, 2, none⟩ = some (.int .i64 nt) ∧ x.cell? ⟨g17, 3, none⟩ = some (.bool ng) ∧ x.cell? ⟨g17, 4, none⟩ = some (.int .i64 ni) ∧ x.cell? ⟨g17, 5, none⟩ = some (.slice fa' nn' fc') ∧ x.cell? ⟨g17, 6, none⟩ = some (.bool nd) ∧ x.cell? ⟨g9, 0, none⟩ = some (.slice xa xn xc) ∧ x.cell? ⟨g9, 1, none⟩ = some (.int .i64 xp) ∧ x.cell? ⟨g9, 2, none⟩ = some (.int .i64 xt) ∧ x.cell? ⟨g9, 3, none⟩ = some (.bool xg) ∧ x.cell? ⟨g9, 4, none⟩ = some (.int .i64 xi) ∧ x.cell? ⟨g9, 5, none⟩ = some (.slice xa' xn' xc') ∧ x.cell? ⟨g9, 6, none⟩ = some (.bool xd) ∧ x.cell? ⟨g13, 0, none⟩ = some (.slice ya xn yc) ∧ x.cell? ⟨g13, 1, none⟩ = some (.int .i64 xp) ∧ x.cell? ⟨g13, 2, none⟩ = some (.int .i64 xt) ∧ x.cell? ⟨g13, 3, none⟩ = some (.bool xg) ∧ x.cell? ⟨g13, 4, none⟩ = some (.int .i64 xi) ∧ x.cell? ⟨g13, 5, none⟩ = some (.slice ya' xn' yc') ∧ x.cell? ⟨g13, 6, none⟩ = some (.bool xd) ∧ Hid (Below wc.heap.size wc x)) → Below wc.heap.size wc x) := fun x h => (h.2.2.2.2.2.2.2.2.2.2.2.2.2.2.2.2.2.2.2.2.2.2.2.2.2.2.2.2.2.2.2.2.2.2.2.2.2.2.2.2.2.2).out
        clear HA HBb HN HF HX HY
        have hEL : (EL == EL) = true := by simp
        have hEN : (EN == EN) = true := by simp
        have hEX : (EX == EX) = true := by simp
        have hSB : (SB == SB) = true := by simp
        go_wp2_with fail
        go_region_held3 (fun w' => w'.cell? ⟨w.heap.size, 0, none⟩ = some (.slice a n c) ∧ w'.cell? ⟨w.heap.size, 1, none⟩ = some (.int .i64 p) ∧ w'.cell? ⟨w.heap.size, 2, none⟩ = some (.int .i64 t) ∧ w'.cell? ⟨w.heap.size, 3, none⟩ = some (.bool g) ∧ w'.cell? ⟨w.heap.size, 4, none⟩ = some (.int .i64 i) ∧ w'.cell? ⟨w.heap.size, 5, none⟩ = some (.slice a' m c') ∧ w'.cell? ⟨w.heap.size, 6, none⟩ = some (.bool d) ∧ w'.cell? ⟨w.heap.size + 1 + 1, 0, none⟩ = some (.slice ab nb cb) ∧ w'.cell? ⟨w.heap.size + 1 + 1, 1, none⟩ = some (.int .i64 pb) ∧ w'.cell? ⟨w.heap.size + 1 + 1, 2, none⟩ = some (.int .i64 tb_) ∧ w'.cell? ⟨w.heap.size + 1 + 1, 3, none⟩ = some (.bool gb) ∧ w'.cell? ⟨w.heap.size + 1 + 1, 4, none⟩ = some (.int .i64 ib) ∧ w'.cell? ⟨w.heap.size + 1 + 1, 5, none⟩ = some (.slice ab' mb cb') ∧ w'.cell? ⟨w.heap.size + 1 + 1, 6, none⟩ = some (.bool db) ∧ w'.cell? ⟨g7, 0, none⟩ = some (.slice na nn nc) ∧ w'.cell? ⟨g7, 1, none⟩ = some (.int .i64 np) ∧ w'.cell? ⟨g7, 2, none⟩ = some (.int .i64 nt) ∧ w'.cell? ⟨g7, 3, none⟩ = some (.bool ng) ∧ w'.cell? ⟨g7, 4, none⟩ = some (.int .i64 ni) ∧ w'.cell? ⟨g7, 5, none⟩ = some (.slice na' nn' nc') ∧ w'.cell? ⟨g7, 6, none⟩ = some (.bool nd) ∧ w'.cell? ⟨g17, 0, none⟩ = some (.slice fa nn fc) ∧ w'.cell? ⟨g17, 1, none⟩ = some (.int .i64 np) ∧ w'.cell? ⟨g17, 2, none⟩ = some (.int .i64 nt) ∧ w'.cell? ⟨g17, 3, none⟩ = some (.bool ng) ∧ w'.cell? ⟨g17, 4, none⟩ = some (.int .i64 ni) ∧ w'.cell? ⟨g17, 5, none⟩ = some (.slice fa' nn' fc') ∧ w'.cell? ⟨g17, 6, none⟩ = some (.bool nd) ∧ w'.cell? ⟨g9, 0, none⟩ = some (.slice xa xn xc) ∧ w'.cell? ⟨g9, 1, none⟩ = some (.int .i64 xp) ∧ w'.cell? ⟨g9, 2, none⟩ = some (.int .i64 xt) ∧ w'.cell? ⟨g9, 3, none⟩ = some (.bool xg) ∧ w'.cell? ⟨g9, 4, none⟩ = some (.int .i64 xi) ∧ w'.cell? ⟨g9, 5, none⟩ = some (.slice xa' xn' xc') ∧ w'.cell? ⟨g9, 6, none⟩ = some (.bool xd) ∧ w'.cell? ⟨g13, 0, none⟩ = some (.slice ya xn yc) ∧ w'.cell? ⟨g13, 1, none⟩ = some (.int .i64 xp) ∧ w'.cell? ⟨g13, 2, none⟩ = some (.int .i64 xt) ∧ w'.cell? ⟨g13, 3, none⟩ = some (.bool xg) ∧ w'.cell? ⟨g13, 4, none⟩ = some (.int .i64 xi) ∧ w'.cell? ⟨g13, 5, none⟩ = some (.slice ya' xn' yc') ∧ w'.cell? ⟨g13, 6, none⟩ = some (.bool xd) ∧ Hid (Below wc.heap.size wc w')) (first | exact KP.out _ _ (by assumption) (by assumption) | exact S0.out)
          (first
            | (go_at_call 13; refine (gone_any _).mono ?_; rintro e y ⟨rfl, hby⟩)
            | (go_at_call 14; refine (HCk.out _ (SP.out _ (by assumption))).mono ?_; rintro e y ⟨rfl, hby⟩)
            | (go_at_call 15; refine (HSm.out _ (SP.out _ (by assumption))).mono ?_; rintro e y ⟨rfl, hby⟩)
            | (go_at_call 17; refine (HEq.out _ (SQ.out _ (by assumption))).mono ?_; rintro e y ⟨rfl, hby⟩)
            | (go_at_call_of 16 (Value.slice ab nb cb); refine (HSR.out _ (SP.out _ (by assumption))).mono ?_; rintro e y ⟨rfl, hby⟩)
            | (go_at_call_of 16 (Value.slice fa nn fc); refine (HS1.out _ (SQ.out _ (by assumption))).mono ?_; rintro e y ⟨rfl, hby⟩)
            | (go_at_call_of 16 (Value.slice ya xn yc); refine (HS2.out _ (SQ.out _ (by assumption))).mono ?_; rintro e y ⟨rfl, hby⟩))
        have HB9 : Hid (Below w.heap.size w y) := SP.out _ (by assumption)
        clear KP SP SQ S0
        go_wp2
        go_ret
        exact ⟨rfl, HB9.out⟩
end Go.Proofs.Ytbnaaookeagjgaa
