/- The contract of the document's CheckLeader. -/
import Derived.Test.YtcnnejndmafniaaLG2
import Derived.Deep.CutBlock
namespace Go.Proofs.Ytcnnejndmafniaa
open Go.RowKit
theorem wrap_id {i : Int} {k : Nat} (h1 : -9223372036854775808 ≤ i) (h2 : i < 9223372036854775808) (hk : k ≤ 100) : (IntKind.i64.wrap (i - 1) != (k : Int)) = (i != (k : Int) + 1) := by
  have key : IntKind.i64.wrap (i - 1) = if i = -9223372036854775808 then 9223372036854775807 else i - 1 := by
    by_cases h : i = -9223372036854775808
    · subst h; rw [if_pos rfl]; decide
    · rw [if_neg h]
      simp [IntKind.wrap, IntKind.bits, IntKind.signed]
      omega
  rw [key]
  by_cases hi : i = (k : Int) + 1
  · subst hi
    rw [if_neg (by omega)]
    simp
  · have e1 : (i != (k : Int) + 1) = true := by rw [bne_iff_ne]; exact hi
    rw [e1, bne_iff_ne]
    split <;> omega
theorem chkRels_cons {R : List Rk.Rl} {k : Nat} {rs : List (Int × List (Int × Int))} (h : k < rs.length) : Ld.chkRels R ((k : Int) + 1) (rs.drop k) = if Ld.ruled (rs.getD k (0, [])).2 R = 0 then (if (rs.getD k (0, [])).1 = (k : Int) + 1 then Ld.chkRels R (((k + 1 : Nat) : Int) + 1) (rs.drop (k + 1)) else 4) else Ld.ruled (rs.getD k (0, [])).2 R := by
  have e : rs.getD k (0, []) = rs[k] := by simp [List.getD_eq_getElem?_getD, h]
  rw [List.drop_eq_getElem_cons h, Ld.chkRels, e]
  rw [show ((k : Int) + 1) + 1 = ((k + 1 : Nat) : Int) + 1 from by omega]
theorem mem_getDL {l : List (Int × List (Int × Int))} {k : Nat} (h : k < l.length) : l.getD k (0, []) ∈ l := by
  rw [List.getD_eq_getElem?_getD, List.getElem?_eq_getElem h]; exact List.getElem_mem h
theorem chkKnowns_cons {g nx : Int} {bk : Bool} {k : Nat} {ks : List Ld.Known} (h : k < ks.length) : Ld.chkKnowns g bk nx (ks.drop k) = if Ld.chkKnown g bk nx (ks.getD k ⟨0, 0, false⟩) = 0 then Ld.chkKnowns g bk nx (ks.drop (k + 1)) else Ld.chkKnown g bk nx (ks.getD k ⟨0, 0, false⟩) := by
  rw [dropKn ks k h, Ld.chkKnowns]
theorem known_dec {g nx st tr : Int} {bk bb b1 b2 : Bool} (h1 : b1 = !(Lk.within st 0 3 && Lk.within tr 0 (nx - 1))) (h2 : b2 = decide ((st ≠ 0 ∧ (g = 0 ∨ tr = 0)) ∨ (bb = true ∧ (bk = false ∨ st = 0)))) : Ld.chkKnown g bk nx ⟨st, tr, bb⟩ = if b1 = true then 3 else if b2 = true then 4 else 0 := by
  unfold Ld.chkKnown
  subst h1 h2
  cases (Lk.within st 0 3 && Lk.within tr 0 (nx - 1))
  · rfl
  · by_cases h : (st ≠ 0 ∧ (g = 0 ∨ tr = 0)) ∨ (bb = true ∧ (bk = false ∨ st = 0))
    · simp only [if_true, Bool.not_true, Bool.false_eq_true, if_false]
      rw [if_pos h, if_pos (decide_eq_true h)]
    · simp only [if_true, Bool.not_true, Bool.false_eq_true, if_false]
      rw [if_neg h, if_neg (by rw [decide_eq_false h]; decide)]
set_option maxHeartbeats 16000000 in
set_option maxRecDepth 100000 in
theorem ckLeadR_any (cf : Ld.Config) (A B D : Value) (ld : Ld.Leader) (Y Z : Value) (w : World) (hC : CfAt w cf A B D) (hL : LdAt w ld Y Z) (hw : ∀ p ∈ ld.rels, -9223372036854775808 ≤ p.1 ∧ p.1 < 9223372036854775808) :
    Calls Try.prog 10 #[cfV cf A B D, leV ld Y Z] w fun e w' => e = .returned (.int .i64 (Ld.chkLeader cf ld)) ∧ Below w.heap.size w w' := by
  have HCC : Hid (∀ w', Below w.heap.size w w' → Calls Try.prog 9 #[cfV cf A B D] w' fun e w'' => e = .returned (.int .i64 (Ld.chkConfig cf)) ∧ Below w'.heap.size w' w'') := fun w' hb => ckConfR_any cf A B D w' (hC.below hb)
  have HAG : Hid (∀ w', Below w.heap.size w w' → Calls Try.prog 18 #[cfV cf A B D] w' fun e w'' => e = .returned (.int .i64 (agR cf)) ∧ Below w'.heap.size w' w'') := fun w' hb => agR_any cf A B D w' (hC.below hb)
  have HFB : Hid (∀ (v : Value) (l : List (Int × Int)) (w' : World), Below w.heap.size w w' → PinsAt w' v l → Calls Try.prog 36 #[v, B] w' fun e w'' => e = .returned (.tuple #[.int .i64 (Rk.broken l cf.rules), .int .i64 (Rk.brokenErr l cf.rules)]) ∧ Below w'.heap.size w' w'') := fun v l w' hb h => fbroken_any v B l cf.rules w' h (hC.2.1.below hb)
  have HQ : Hid (Ld.chkConfig cf = 0 → 1 ≤ ld.rels.length ∧ ld.rels.length ≤ 6 → Ld.chkRels cf.rules 1 ld.rels = 0 → (Lk.within ld.now 1 ld.rels.length && Lk.within ld.goal 0 ld.rels.length && Lk.within ld.next 1 201) = true → Ld.chkLeader cf ld = if ld.goal = ld.now ∨ (ld.goal = 0 ∧ ld.back = true) ∨ ld.ags.length ≠ agR cf ∨ Lk.alike (ld.rels.headD (0, [])).1 (ld.rels.headD (0, [])).2 cf.fid cf.flock = false then 4 else Ld.chkKnowns ld.goal ld.back ld.next ld.ags) := fun h1 h2 h3 h4 => by
    unfold Ld.chkLeader
    rw [if_pos h1, if_pos h2, if_pos h3, if_pos h4, agR_ok h1]
  have HQ0 : Hid (¬ Ld.chkConfig cf = 0 → Ld.chkLeader cf ld = Ld.chkConfig cf) := fun h => by unfold Ld.chkLeader; rw [if_neg h]
  have HQ1 : Hid (Ld.chkConfig cf = 0 → ¬ (1 ≤ ld.rels.length ∧ ld.rels.length ≤ 6) → Ld.chkLeader cf ld = 2) := fun h1 h2 => by unfold Ld.chkLeader; rw [if_pos h1, if_neg h2]
  have HQ2 : Hid (Ld.chkConfig cf = 0 → 1 ≤ ld.rels.length ∧ ld.rels.length ≤ 6 → ¬ Ld.chkRels cf.rules 1 ld.rels = 0 → Ld.chkLeader cf ld = Ld.chkRels cf.rules 1 ld.rels) := fun h1 h2 h3 => by unfold Ld.chkLeader; rw [if_pos h1, if_pos h2, if_neg h3]
  have HQ3 : Hid (Ld.chkConfig cf = 0 → 1 ≤ ld.rels.length ∧ ld.rels.length ≤ 6 → Ld.chkRels cf.rules 1 ld.rels = 0 → (Lk.within ld.now 1 ld.rels.length && Lk.within ld.goal 0 ld.rels.length && Lk.within ld.next 1 201) = false → Ld.chkLeader cf ld = 3) := fun h1 h2 h3 h4 => by unfold Ld.chkLeader; rw [if_pos h1, if_pos h2, if_pos h3, if_neg (by rw [h4]; decide)]
  have HAL : Hid (∀ (v : Value) (w' : World), Below w.heap.size w w' → PinsAt w' v (ld.rels.headD (0, [])).2 → Calls Try.prog 20 #[relV (ld.rels.headD (0, [])).1 v, relV cf.fid A] w' fun e w'' => e = .returned (.bool (Lk.alike (ld.rels.headD (0, [])).1 (ld.rels.headD (0, [])).2 cf.fid cf.flock)) ∧ Below w'.heap.size w' w'') := fun v w' hb h => alikeR_any _ cf.fid v A _ cf.flock w' h (hC.1.below hb)
  obtain ⟨f, L, R, W, d⟩ := cf
  obtain ⟨a1, c1, rfl⟩ := pins_slice hC.1
  obtain ⟨a2, c2, rfl⟩ := rules_slice hC.2.1
  obtain ⟨a3, c3, rfl⟩ := waves_slice hC.2.2
  obtain ⟨a4, c4, rfl⟩ := relA_slice hL.1
  obtain ⟨a5, c5, rfl⟩ := knows_slice hL.2
  have HL : Hid (LdAt w ld (.slice a4 ld.rels.length c4) (.slice a5 ld.ags.length c5)) := hL
  obtain ⟨rs, nw, g, bk, ks, nx⟩ := ld
  unfold cfV cfC at HCC HAG
  unfold cfV cfC leV leC
  simp only at HCC HAG HFB HQ HQ0 HQ1 HQ2 HQ3 HAL hw HL
  simp only
  have HWF : Hid (∀ p ∈ rs, -9223372036854775808 ≤ p.1 ∧ p.1 < 9223372036854775808) := hw
  have hkl := hL.2.1
  simp only at hkl
  have hkli : (ks.length : Int) ≤ 140737488355328 := by omega
  clear hC hL hw
  generalize Ld.chkLeader ⟨f, L, R, W, d⟩ ⟨rs, nw, g, bk, ks, nx⟩ = Q at HQ HQ0 HQ1 HQ2 HQ3 ⊢
  generalize Ld.chkConfig ⟨f, L, R, W, d⟩ = X0 at HQ HQ0 HQ1 HQ2 HQ3 HCC
  generalize agR ⟨f, L, R, W, d⟩ = M at HQ HAG
  generalize Lk.alike (rs.headD (0, [])).1 (rs.headD (0, [])).2 f L = AL at HQ HAL
  obtain ⟨XR, hxr⟩ : ∃ x, x = Ld.chkRels R 1 rs := ⟨_, rfl⟩
  obtain ⟨XK, hxk⟩ : ∃ x, x = Ld.chkKnowns g bk nx ks := ⟨_, rfl⟩
  rw [← hxr] at HQ HQ2 HQ3
  rw [← hxk] at HQ
  have HXR : Hid (XR = Ld.chkRels R 1 rs) := hxr
  have HXK : Hid (XK = Ld.chkKnowns g bk nx ks) := hxk
  clear hxr hxk
  generalize L.length = n1 at *
  generalize R.length = n2 at *
  generalize W.length = n3 at *
  obtain ⟨hB0, hK0, hG0⟩ := box2 w #[.int .i64 f, .slice a1 n1 c1, .slice a2 n2 c2, .slice a3 n3 c3, .int .i64 d] #[.slice a4 rs.length c4, .int .i64 nw, .int .i64 g, .bool bk, .slice a5 ks.length c5, .int .i64 nx] 28 32
  have HB0 : Hid (Below w.heap.size w ((w.alloc (.cells #[.int .i64 f, .slice a1 n1 c1, .slice a2 n2 c2, .slice a3 n3 c3, .int .i64 d] 28)).alloc (.cells #[.slice a4 rs.length c4, .int .i64 nw, .int .i64 g, .bool bk, .slice a5 ks.length c5, .int .i64 nx] 32))) := hB0
  have HK0 : Hid (Blk ((w.alloc (.cells #[.int .i64 f, .slice a1 n1 c1, .slice a2 n2 c2, .slice a3 n3 c3, .int .i64 d] 28)).alloc (.cells #[.slice a4 rs.length c4, .int .i64 nw, .int .i64 g, .bool bk, .slice a5 ks.length c5, .int .i64 nx] 32)) w.heap.size #[.int .i64 f, .slice a1 n1 c1, .slice a2 n2 c2, .slice a3 n3 c3, .int .i64 d] 28) := hK0
  have HG0 : Hid (Blk ((w.alloc (.cells #[.int .i64 f, .slice a1 n1 c1, .slice a2 n2 c2, .slice a3 n3 c3, .int .i64 d] 28)).alloc (.cells #[.slice a4 rs.length c4, .int .i64 nw, .int .i64 g, .bool bk, .slice a5 ks.length c5, .int .i64 nx] 32)) (w.heap.size + 1) #[.slice a4 rs.length c4, .int .i64 nw, .int .i64 g, .bool bk, .slice a5 ks.length c5, .int .i64 nx] 32) := hG0
  have k00 := hK0.cell 0
  have k01 := hK0.cell 1
  have k02 := hK0.cell 2
  have k03 := hK0.cell 3
  have k04 := hK0.cell 4
  simp only [List.getElem?_toArray, List.getElem?_cons_zero, List.getElem?_cons_succ] at k00 k01 k02 k03 k04
  go_enter Try.func10, Try.ntmps10
  go_wp2_with fail
  generalize ((w.alloc (.cells #[.int .i64 f, .slice a1 n1 c1, .slice a2 n2 c2, .slice a3 n3 c3, .int .i64 d] 28)).alloc (.cells #[.slice a4 rs.length c4, .int .i64 nw, .int .i64 g, .bool bk, .slice a5 ks.length c5, .int .i64 nx] 32)) = V0 at *
  clear hB0 hK0 hG0
  refine (HCC.out _ HB0.out).mono ?_
  rintro e V ⟨rfl, hb1⟩
  have HB : Hid (Below w.heap.size w V) := HB0.out.trans (hb1.mono HB0.out.size)
  have HK : Hid (Blk V w.heap.size #[.int .i64 f, .slice a1 n1 c1, .slice a2 n2 c2, .slice a3 n3 c3, .int .i64 d] 28) := HK0.out.below hb1
  have HG : Hid (Blk V (w.heap.size + 1) #[.slice a4 rs.length c4, .int .i64 nw, .int .i64 g, .bool bk, .slice a5 ks.length c5, .int .i64 nx] 32) := HG0.out.below hb1
  clear hb1 HB0 HK0 HG0 HCC k00 k01 k02 k03 k04
  by_cases x0 : X0 = 0
  rotate_left
  · have HE : Hid (Q = X0) := HQ0.out x0
    have x0' : (X0 != 0) = true := by rw [bne_iff_ne]; exact x0
    clear x0 HQ HQ0 HQ1 HQ2 HQ3 HFB HAG HAL
    go_wp2
    go_ret
    exact ⟨by rw [HE.out]; rfl, HB.out⟩
  subst x0
  have gl0 := HG.out.cell 0
  simp only [List.getElem?_toArray, List.getElem?_cons_zero] at gl0
  by_cases m1 : 1 ≤ rs.length
  rotate_left
  · have HE : Hid (Q = 2) := HQ1.out rfl (fun h => m1 h.1)
    have m1' : rs.length = 0 := by omega
    clear m1 HQ HQ0 HQ1 HQ2 HQ3 HFB HAG HAL
    rw [m1'] at gl0
    go_wp2
    go_ret
    exact ⟨by rw [HE.out]; rfl, HB.out⟩
  by_cases m6 : rs.length ≤ 6
  rotate_left
  · have HE : Hid (Q = 2) := HQ1.out rfl (fun h => m6 h.2)
    have m1' : decide ((1 : Int) ≤ rs.length) = true := decide_eq_true (by omega)
    have m6' : decide ((rs.length : Int) ≤ 6) = false := decide_eq_false (by omega)
    clear HQ HQ0 HQ1 HQ2 HQ3 HFB HAG HAL
    go_wp2
    go_ret
    exact ⟨by rw [HE.out]; rfl, HB.out⟩
  have m1' : decide ((1 : Int) ≤ rs.length) = true := decide_eq_true (by omega)
  have m6' : decide ((rs.length : Int) ≤ 6) = true := decide_eq_true (by omega)
  clear HQ0 HQ1
  have HQ2' : Hid (¬ XR = 0 → Q = XR) := HQ2.out rfl ⟨m1, m6⟩
  have HQ' : Hid (XR = 0 → _) := HQ.out rfl ⟨m1, m6⟩
  have HQ3' : Hid (XR = 0 → _) := HQ3.out rfl ⟨m1, m6⟩
  clear HQ HQ2 HQ3
  go_upto_block 0 with (first | fail | (go_at_call 35; go_in))
  clear m1' m6' gl0
  go_cut [] from 29 to 54 (fun wx => Hid (XR = 0) ∧ Hid (Below V.heap.size V wx))
  case first =>
    clear HQ' HQ3' HAG HAL HXK
    go_wp2_with fail
    go_loopg [28] rs.length (fun gi s28 wr => ∃ k : Nat, k ≤ rs.length ∧ rs.length - k ≤ gi ∧ s28 = .int .i64 k ∧ Hid (XR = Ld.chkRels R ((k : Int) + 1) (rs.drop k)) ∧ Hid (Below V.heap.size V wr))
    case atStart => exact ⟨0, Nat.zero_le _, by omega, rfl, HXR, Below.refl _ _⟩
    case round =>
      obtain ⟨k, hk, hgk, rfl, HXk, HBk⟩ := hrel
      clear HXR
      by_cases hlt : k < rs.length
      rotate_left
      · have hk' : k = rs.length := by omega
        have HX0 : Hid (XR = 0) := by rw [HXk.out, hk', List.drop_length]; rfl
        subst hk'
        clear hlt HXk
        go_wp2_with fail
        go_meet
        case rel => exact ⟨HX0, HBk⟩
      have HBw : Hid (Below w.heap.size w wr) := HB.out.trans (HBk.out.mono HB.out.size)
      obtain ⟨rb, ro, v, rfl, hrb, q1, q2, hP⟩ := relA_at (HL.out.1.below HBw.out) hlt
      have hX := HXk.out
      rw [chkRels_cons hlt] at hX
      have hwf := HWF.out _ (mem_getDL hlt)
      generalize rs.getD k (0, []) = p at q1 q2 hP hX hwf
      obtain ⟨i, l⟩ := p
      simp only at q1 q2 hP hX hwf
      obtain ⟨pa, pc, rfl⟩ := pins_slice hP
      have HXp : Hid (XR = if (if Rk.brokenErr l R = 0 then (if 0 ≤ Rk.broken l R then 8 else 0) else Rk.brokenErr l R) = 0 then (if i = (k : Int) + 1 then Ld.chkRels R (((k + 1 : Nat) : Int) + 1) (rs.drop (k + 1)) else 4) else (if Rk.brokenErr l R = 0 then (if 0 ≤ Rk.broken l R then 8 else 0) else Rk.brokenErr l R)) := hX
      have hwr := wrap_id hwf.1 hwf.2 (show k ≤ 100 by omega)
      have hbx := box1 wr #[.int .i64 i, .slice pa l.length pc] 24
      have hFB := HFB.out _ _ _ (HBw.out.trans (hbx.1.mono HBw.out.size)) (hP.below hbx.1)
      generalize Rk.brokenErr l R = E at hFB HXp
      generalize Rk.broken l R = K at hFB HXp
      have HBx : Hid (Below V.heap.size V (wr.alloc (.cells #[.int .i64 i, .slice pa l.length pc] 24))) := HBk.out.trans (hbx.1.mono HBk.out.size)
      have HRx : Hid (Blk (wr.alloc (.cells #[.int .i64 i, .slice pa l.length pc] 24)) wr.heap.size #[.int .i64 i, .slice pa l.length pc] 24) := hbx.2
      have hKr := HK.out.below HBk.out
      have hK2 := hKr.cell 2
      simp only [List.getElem?_toArray, List.getElem?_cons_zero, List.getElem?_cons_succ] at hK2
      have hkr : (k : Int) < rs.length := by omega
      have hkr6 : (rs.length : Int) ≤ 6 := by omega
      have hlw : w.heap.size < wr.heap.size := hKr.lt
      clear hX hwf hP hbx hKr HXk HBk HBw
      go_wp2_with fail
      refine hFB.mono ?_
      rintro e w3 ⟨rfl, hb3⟩
      have HB3 : Hid (Below V.heap.size V w3) := HBx.out.trans (hb3.mono HBx.out.size)
      have hR3 := HRx.out.below hb3
      have q0 := hR3.cell 0
      simp only [List.getElem?_toArray, List.getElem?_cons_zero] at q0
      have HBw3 : Hid (Below w.heap.size w w3) := HB.out.trans (HB3.out.mono HB.out.size)
      clear hb3 hR3 HBx HRx hFB q1 q2 hK2
      by_cases xe : E = 0
      rotate_left
      · have hXR : XR = E := by rw [HXp.out, if_neg xe, if_neg xe]
        have HE : Hid (Q = E) := by rw [HQ2'.out (by rw [hXR]; exact xe)]; exact hXR
        have xe' : (E != 0) = true := by rw [bne_iff_ne]; exact xe
        clear xe HXp hXR
        go_wp2
        go_ret
        exact ⟨by rw [HE.out]; rfl, HBw3.out⟩
      subst xe
      by_cases xk : 0 ≤ K
      · have hXR : XR = 8 := by rw [HXp.out, if_pos rfl, if_pos xk]; rfl
        have HE : Hid (Q = 8) := by rw [HQ2'.out (by rw [hXR]; decide)]; exact hXR
        have xk' : decide (0 ≤ K) = true := decide_eq_true xk
        clear xk HXp hXR
        go_wp2
        go_ret
        exact ⟨by rw [HE.out]; rfl, HBw3.out⟩
      have xk' : decide (0 ≤ K) = false := decide_eq_false xk
      have hXp : XR = if i = (k : Int) + 1 then Ld.chkRels R (((k + 1 : Nat) : Int) + 1) (rs.drop (k + 1)) else 4 := by rw [HXp.out, if_pos rfl, if_neg xk, if_pos rfl]
      by_cases xi : i = (k : Int) + 1
      rotate_left
      · have hXR : XR = 4 := by rw [hXp, if_neg xi]
        have HE : Hid (Q = 4) := by rw [HQ2'.out (by rw [hXR]; decide)]; exact hXR
        have xi' : (IntKind.i64.wrap (i - 1) != (k : Int)) = true := by rw [hwr, bne_iff_ne]; exact xi
        have xi2 : (wrap64 (i - 1) != (k : Int)) = true := by rw [← IntWalk.i64_left]; exact xi'
        clear xk HXp hXR hXp xi hwr
        go_wp2
        go_ret
        exact ⟨by rw [HE.out]; rfl, HBw3.out⟩
      have HX2 : Hid (XR = Ld.chkRels R (((k + 1 : Nat) : Int) + 1) (rs.drop (k + 1))) := by rw [hXp, if_pos xi]; rfl
      subst xi
      clear xk HXp hXp hwr
      go_wp2
      go_roundg (rs.length - (k + 1))
      case measure => omega
      case rel => exact ⟨k + 1, by omega, by omega, by go_num, HX2, HB3⟩
  case rest =>
  obtain ⟨HXR0, HBX⟩ := hcut
  have HQ : Hid _ := HQ'.out HXR0.out
  have HQ3 : Hid _ := HQ3'.out HXR0.out
  have HB1 : Hid (Below w.heap.size w wc) := HB.out.trans (HBX.out.mono HB.out.size)
  have HK1 : Hid (Blk wc w.heap.size #[.int .i64 f, .slice a1 n1 c1, .slice a2 n2 c2, .slice a3 n3 c3, .int .i64 d] 28) := HK.out.below HBX.out
  have HG1 : Hid (Blk wc (w.heap.size + 1) #[.slice a4 rs.length c4, .int .i64 nw, .int .i64 g, .bool bk, .slice a5 ks.length c5, .int .i64 nx] 32) := HG.out.below HBX.out
  clear HQ' HQ3' HQ2' HXR HXR0 HFB HWF
  obtain ⟨V1, hV1⟩ : ∃ x, x = wc := ⟨_, rfl⟩
  subst hV1
  clear HBX HB HK HG
  have p0 : 1 ≤ (rs.length : Int) := by omega
  go_upto_region 18 with fail
  go_cut [72] from 55 to 72 (fun s72 wx => ∃ b : Bool, s72 = .bool b ∧ Hid (b = !(Lk.within nw 1 rs.length && Lk.within g 0 rs.length && Lk.within nx 1 201)) ∧ V1 = wx)
  case first =>
    clear HQ HQ3 HAG HAL HXK
    have kg0 := HG1.out.cell 0
    have kg1 := HG1.out.cell 1
    have kg2 := HG1.out.cell 2
    have kg3 := HG1.out.cell 3
    have kg4 := HG1.out.cell 4
    have kg5 := HG1.out.cell 5
    simp only [List.getElem?_toArray, List.getElem?_cons_zero, List.getElem?_cons_succ] at kg0 kg1 kg2 kg3 kg4 kg5
    by_cases p1 : 1 ≤ nw
    rotate_left
    · have p1' : decide (1 ≤ nw) = false := decide_eq_false p1
      go_wp2_with (first | fail | (go_at_call 35; go_in))
      go_meet
      case rel => exact ⟨true, rfl, (by show true = _; simp [Lk.within, p1]), rfl⟩
    have p1' : decide (1 ≤ nw) = true := decide_eq_true p1
    by_cases p2 : nw ≤ (rs.length : Int)
    rotate_left
    · have p2' : decide (nw ≤ (rs.length : Int)) = false := decide_eq_false p2
      go_wp2_with (first | fail | (go_at_call 35; go_in))
      go_meet
      case rel => exact ⟨true, rfl, (by show true = _; simp [Lk.within, p2]), rfl⟩
    have p2' : decide (nw ≤ (rs.length : Int)) = true := decide_eq_true p2
    by_cases p3 : 0 ≤ g
    rotate_left
    · have p3' : decide (0 ≤ g) = false := decide_eq_false p3
      go_wp2_with (first | fail | (go_at_call 35; go_in))
      go_meet
      case rel => exact ⟨true, rfl, (by show true = _; simp [Lk.within, p3]), rfl⟩
    have p3' : decide (0 ≤ g) = true := decide_eq_true p3
    by_cases p4 : g ≤ (rs.length : Int)
    rotate_left
    · have p4' : decide (g ≤ (rs.length : Int)) = false := decide_eq_false p4
      go_wp2_with (first | fail | (go_at_call 35; go_in))
      go_meet
      case rel => exact ⟨true, rfl, (by show true = _; simp [Lk.within, p4]), rfl⟩
    have p4' : decide (g ≤ (rs.length : Int)) = true := decide_eq_true p4
    by_cases p5 : 1 ≤ nx
    rotate_left
    · have p5' : decide (1 ≤ nx) = false := decide_eq_false p5
      go_wp2_with (first | fail | (go_at_call 35; go_in))
      go_meet
      case rel => exact ⟨true, rfl, (by show true = _; simp [Lk.within, p5]), rfl⟩
    have p5' : decide (1 ≤ nx) = true := decide_eq_true p5
    by_cases p6 : nx ≤ 201
    rotate_left
    · have p6' : decide (nx ≤ 201) = false := decide_eq_false p6
      go_wp2_with (first | fail | (go_at_call 35; go_in))
      go_meet
      case rel => exact ⟨true, rfl, (by show true = _; simp [Lk.within, p6]), rfl⟩
    have p6' : decide (nx ≤ 201) = true := decide_eq_true p6
    go_wp2_with (first | fail | (go_at_call 35; go_in))
    go_meet
    case rel => exact ⟨false, rfl, (by show false = _; simp [Lk.within, p1, p2, p3, p4, p5, p6]), rfl⟩
  case rest =>
  obtain ⟨b, rfl, HBB, rfl⟩ := hcut
  cases b
  rotate_left
  · have HE : Hid (Q = 3) := HQ3.out (by have := HBB.out; revert this; cases (Lk.within nw 1 rs.length && Lk.within g 0 rs.length && Lk.within nx 1 201) <;> simp)
    clear HQ HQ3 HAG HAL HXK
    go_wp2
    go_ret
    exact ⟨by rw [HE.out]; rfl, HB1.out⟩
  have HQA : Hid _ := HQ.out (by have := HBB.out; revert this; cases (Lk.within nw 1 rs.length && Lk.within g 0 rs.length && Lk.within nx 1 201) <;> simp)
  have hnx : 1 ≤ nx ∧ nx ≤ 201 := by have h := HBB.out; simp [Lk.within] at h; omega
  obtain ⟨hnx1, hnx2⟩ := hnx
  clear HQ HQ3 HBB
  go_upto_region 20 with fail
  go_cut [104] from 73 to 104 (fun s104 wx => ∃ b : Bool, s104 = .bool b ∧ Hid (b = decide (g = nw ∨ (g = 0 ∧ bk = true) ∨ ks.length ≠ M ∨ AL = false)) ∧ Hid (Below V1.heap.size V1 wx))
  case first =>
    obtain ⟨rb, ro, v, rfl, hrb, q1, q2, hP⟩ := relA_at (HL.out.1.below HB1.out) (show 0 < rs.length by omega)
    rw [headRl] at q1 hP
    rw [Nat.zero_mul, Nat.add_zero] at q1 q2
    obtain ⟨pa, pc, rfl⟩ := pins_slice hP
    have hAl := fun (d' : Nat) (os : Array Obj) => HAL.out _ (Sort.grow (redrawn V1 d') os) (HB1.out.trans ((below_regrown V1 d' os).mono HB1.out.size)) (hP.below (below_regrown V1 d' os))
    unfold relV at hAl
    generalize (rs.headD (0, [])).1 = i at q1 hAl
    generalize (rs.headD (0, [])).2.length = nl at q2 hAl
    have cl2 := fun (d' : Nat) (os : Array Obj) => Calls.regrown_of (hAl d' os)
    have cl1 := fun (d' : Nat) (os : Array Obj) => Calls.regrown_of (HAG.out (Sort.grow (redrawn V1 d') os) (HB1.out.trans ((below_regrown V1 d' os).mono HB1.out.size)))
    have kg0 := cell_regrown (show _ = some _ from HG1.out.cell 0)
    have kg1 := cell_regrown (show _ = some _ from HG1.out.cell 1)
    have kg2 := cell_regrown (show _ = some _ from HG1.out.cell 2)
    have kg3 := cell_regrown (show _ = some _ from HG1.out.cell 3)
    have kg4 := cell_regrown (show _ = some _ from HG1.out.cell 4)
    have kg5 := cell_regrown (show _ = some _ from HG1.out.cell 5)
    have kc0 := cell_regrown (show _ = some _ from HK1.out.cell 0)
    have kc1 := cell_regrown (show _ = some _ from HK1.out.cell 1)
    have kc2 := cell_regrown (show _ = some _ from HK1.out.cell 2)
    have kc3 := cell_regrown (show _ = some _ from HK1.out.cell 3)
    have kc4 := cell_regrown (show _ = some _ from HK1.out.cell 4)
    have r0 := cell_regrown q1
    have r1 := cell_regrown q2
    have hr0 : (0 : Int) < rs.length := by omega
    clear hP hAl q1 q2 HQA HAG HAL HXK HL
    by_cases e1 : g = nw
    · have e1' : (nw == g) = true := by rw [e1]; simp
      have HE1 : Hid (g = nw) := e1
      clear e1
      refine wp_region_quiet_below (by kernel_rfl) (by kernel_rfl) ?_
      repeat (go_big_quiet_step (first | exact cl1 _ _ | exact cl2 _ _))
      refine wpQuiet_nil ?_
      intro _ hw'
      obtain ⟨⟨dq, osq⟩, hw''⟩ := hw'
      subst hw''
      have HB6 : Hid (Below V1.heap.size V1 (Sort.grow (redrawn V1 dq) osq)) := below_regrown V1 dq osq
      clear cl1 cl2
      go_wp2_with fail
      go_meet
      case rel => exact ⟨true, rfl, (by show true = _; simp [HE1.out]), HB6⟩
    have e1' : (nw == g) = false := by rw [beq_eq_false_iff_ne]; exact fun h => e1 h.symm
    have HE1 : Hid (¬ g = nw) := e1
    clear e1
    by_cases e2 : g = 0 ∧ bk = true
    · have e2' : (g == 0) = true := by simpa using e2.1
      obtain ⟨e3, rfl⟩ := e2
      have HE3 : Hid (g = 0) := e3
      clear e3
      refine wp_region_quiet_below (by kernel_rfl) (by kernel_rfl) ?_
      repeat (go_big_quiet_step (first | exact cl1 _ _ | exact cl2 _ _))
      refine wpQuiet_nil ?_
      intro _ hw'
      obtain ⟨⟨dq, osq⟩, hw''⟩ := hw'
      subst hw''
      have HB6 : Hid (Below V1.heap.size V1 (Sort.grow (redrawn V1 dq) osq)) := below_regrown V1 dq osq
      clear cl1 cl2
      go_wp2_with fail
      go_meet
      case rel => exact ⟨true, rfl, (by show true = _; simp [HE3.out]), HB6⟩
    have HE2 : Hid (¬ (g = 0 ∧ bk = true)) := e2
    clear e2
    by_cases e4 : ks.length = M
    rotate_left
    · have e4' : ((ks.length : Int) != M) = true := by rw [bne_iff_ne]; omega
      have HE4 : Hid (¬ ks.length = M) := e4
      clear e4
      cases bk
      · refine wp_region_quiet_below (by kernel_rfl) (by kernel_rfl) ?_
        repeat (go_big_quiet_step (first | exact cl1 _ _ | exact cl2 _ _))
        refine wpQuiet_nil ?_
        intro _ hw'
        obtain ⟨⟨dq, osq⟩, hw''⟩ := hw'
        subst hw''
        have HB6 : Hid (Below V1.heap.size V1 (Sort.grow (redrawn V1 dq) osq)) := below_regrown V1 dq osq
        clear cl1 cl2
        go_wp2_with fail
        go_meet
        case rel => exact ⟨true, rfl, (by show true = _; simp [HE4.out]), HB6⟩
      · have e2' : (g == 0) = false := by rw [beq_eq_false_iff_ne]; exact fun h => HE2.out ⟨h, rfl⟩
        refine wp_region_quiet_below (by kernel_rfl) (by kernel_rfl) ?_
        repeat (go_big_quiet_step (first | exact cl1 _ _ | exact cl2 _ _))
        refine wpQuiet_nil ?_
        intro _ hw'
        obtain ⟨⟨dq, osq⟩, hw''⟩ := hw'
        subst hw''
        have HB6 : Hid (Below V1.heap.size V1 (Sort.grow (redrawn V1 dq) osq)) := below_regrown V1 dq osq
        clear cl1 cl2
        go_wp2_with fail
        go_meet
        case rel => exact ⟨true, rfl, (by show true = _; simp [HE4.out]), HB6⟩
    have e4' : ((ks.length : Int) != M) = false := by rw [e4]; simp
    have HE4 : Hid (ks.length = M) := e4
    clear e4
    cases AL
    · cases bk
      · refine wp_region_quiet_below (by kernel_rfl) (by kernel_rfl) ?_
        repeat (go_big_quiet_step (first | exact cl1 _ _ | exact cl2 _ _))
        refine wpQuiet_nil ?_
        intro _ hw'
        obtain ⟨⟨dq, osq⟩, hw''⟩ := hw'
        subst hw''
        have HB6 : Hid (Below V1.heap.size V1 (Sort.grow (redrawn V1 dq) osq)) := below_regrown V1 dq osq
        clear cl1 cl2
        go_wp2_with fail
        go_meet
        case rel => exact ⟨true, rfl, (by show true = _; simp [HE4.out]), HB6⟩
      · have e2' : (g == 0) = false := by rw [beq_eq_false_iff_ne]; exact fun h => HE2.out ⟨h, rfl⟩
        refine wp_region_quiet_below (by kernel_rfl) (by kernel_rfl) ?_
        repeat (go_big_quiet_step (first | exact cl1 _ _ | exact cl2 _ _))
        refine wpQuiet_nil ?_
        intro _ hw'
        obtain ⟨⟨dq, osq⟩, hw''⟩ := hw'
        subst hw''
        have HB6 : Hid (Below V1.heap.size V1 (Sort.grow (redrawn V1 dq) osq)) := below_regrown V1 dq osq
        clear cl1 cl2
        go_wp2_with fail
        go_meet
        case rel => exact ⟨true, rfl, (by show true = _; simp [HE4.out]), HB6⟩
    · cases bk
      · refine wp_region_quiet_below (by kernel_rfl) (by kernel_rfl) ?_
        repeat (go_big_quiet_step (first | exact cl1 _ _ | exact cl2 _ _))
        refine wpQuiet_nil ?_
        intro _ hw'
        obtain ⟨⟨dq, osq⟩, hw''⟩ := hw'
        subst hw''
        have HB6 : Hid (Below V1.heap.size V1 (Sort.grow (redrawn V1 dq) osq)) := below_regrown V1 dq osq
        clear cl1 cl2
        go_wp2_with fail
        go_meet
        case rel => exact ⟨false, rfl, (by show false = _; simp [HE1.out, HE4.out]), HB6⟩
      · have HE5 : Hid (¬ g = 0) := fun h => HE2.out ⟨h, rfl⟩
        have e2' : (g == 0) = false := by rw [beq_eq_false_iff_ne]; exact HE5.out
        refine wp_region_quiet_below (by kernel_rfl) (by kernel_rfl) ?_
        repeat (go_big_quiet_step (first | exact cl1 _ _ | exact cl2 _ _))
        refine wpQuiet_nil ?_
        intro _ hw'
        obtain ⟨⟨dq, osq⟩, hw''⟩ := hw'
        subst hw''
        have HB6 : Hid (Below V1.heap.size V1 (Sort.grow (redrawn V1 dq) osq)) := below_regrown V1 dq osq
        clear cl1 cl2
        go_wp2_with fail
        go_meet
        case rel => exact ⟨false, rfl, (by show false = _; simp [HE1.out, HE4.out, HE5.out]), HB6⟩
  case rest =>
  obtain ⟨b, rfl, HBB, HBX⟩ := hcut
  have HB2 : Hid (Below w.heap.size w wc) := HB1.out.trans (HBX.out.mono HB1.out.size)
  have HG2 : Hid (Blk wc (w.heap.size + 1) #[.slice a4 rs.length c4, .int .i64 nw, .int .i64 g, .bool bk, .slice a5 ks.length c5, .int .i64 nx] 32) := HG1.out.below HBX.out
  clear HBX HK1 HAG HAL
  cases b
  rotate_left
  · have HE : Hid (Q = 4) := by rw [HQA.out, if_pos (by have := HBB.out; exact of_decide_eq_true this.symm)]; rfl
    clear HQA HBB HXK
    go_wp2
    go_ret
    exact ⟨by rw [HE.out]; rfl, HB2.out⟩
  have HQX : Hid (Q = Ld.chkKnowns g bk nx ks) := by rw [HQA.out, if_neg (by have := HBB.out; exact of_decide_eq_false this.symm)]; exact HXK.out
  clear HQA HBB HXK HG1 HB1
  have hkg := HG2.out.cell 4
  simp only [List.getElem?_toArray, List.getElem?_cons_zero, List.getElem?_cons_succ] at hkg
  obtain ⟨V2, hV2⟩ : ∃ x, x = wc := ⟨_, rfl⟩
  subst hV2
  go_wp2_with fail
  go_loopg [108] ks.length (fun gi s108 wr => ∃ k : Nat, k ≤ ks.length ∧ ks.length - k ≤ gi ∧ s108 = .int .i64 k ∧ Hid (Q = Ld.chkKnowns g bk nx (ks.drop k)) ∧ Hid (Below V2.heap.size V2 wr))
  case atStart => exact ⟨0, Nat.zero_le _, by omega, rfl, HQX, Below.refl _ _⟩
  case round =>
    obtain ⟨k, hk, hgk, rfl, HXk, HBk⟩ := hrel
    clear HQX hkg
    have HBw : Hid (Below w.heap.size w wr) := HB2.out.trans (HBk.out.mono HB2.out.size)
    by_cases hlt : k < ks.length
    rotate_left
    · have hk' : k = ks.length := by omega
      have HE : Hid (Q = 0) := by rw [HXk.out, hk', List.drop_length]; rfl
      subst hk'
      clear hlt HXk
      go_wp2
      go_ret
      exact ⟨by rw [HE.out]; rfl, HBw.out⟩
    obtain ⟨kb, ko, rfl, hkb, q1, q2, q3⟩ := knows_at (HL.out.2.below HBw.out) hlt
    have hX := HXk.out
    rw [chkKnowns_cons hlt] at hX
    generalize ks.getD k ⟨0, 0, false⟩ = kn at q1 q2 q3 hX
    obtain ⟨st, tr, bb⟩ := kn
    simp only at q1 q2 q3
    have HX : Hid _ := hX
    have hbx := box1 wr #[.int .i64 st, .int .i64 tr, .bool bb] 56
    have HBx : Hid (Below V2.heap.size V2 (wr.alloc (.cells #[.int .i64 st, .int .i64 tr, .bool bb] 56))) := HBk.out.trans (hbx.1.mono HBk.out.size)
    have HBw2 : Hid (Below w.heap.size w (wr.alloc (.cells #[.int .i64 st, .int .i64 tr, .bool bb] 56))) := HBw.out.trans (hbx.1.mono HBw.out.size)
    have HAx : Hid (Blk (wr.alloc (.cells #[.int .i64 st, .int .i64 tr, .bool bb] 56)) wr.heap.size #[.int .i64 st, .int .i64 tr, .bool bb] 56) := hbx.2
    have HGx : Hid (Blk (wr.alloc (.cells #[.int .i64 st, .int .i64 tr, .bool bb] 56)) (w.heap.size + 1) _ 32) := HG2.out.below (HBk.out.trans (hbx.1.mono HBk.out.size))
    have hki : (k : Int) < ks.length := by omega
    clear hX hbx HXk HBk HBw HL HG2 HB2
    go_upto_region 25 with fail
    clear q1 q2 q3
    generalize (wr.alloc (.cells #[.int .i64 st, .int .i64 tr, .bool bb] 56)) = V3 at HBx HBw2 HAx HGx ⊢
    generalize wr.heap.size = ga at HAx hkb ⊢
    have ka0 := HAx.out.cell 0
    have ka1 := HAx.out.cell 1
    have ka2 := HAx.out.cell 2
    simp only [List.getElem?_toArray, List.getElem?_cons_zero, List.getElem?_cons_succ] at ka0 ka1 ka2
    have kx0 := HGx.out.cell 0
    have kx1 := HGx.out.cell 1
    have kx2 := HGx.out.cell 2
    have kx3 := HGx.out.cell 3
    have kx4 := HGx.out.cell 4
    have kx5 := HGx.out.cell 5
    simp only [List.getElem?_toArray, List.getElem?_cons_zero, List.getElem?_cons_succ] at kx0 kx1 kx2 kx3 kx4 kx5
    go_cut [124] from 112 to 124 (fun s124 wx => ∃ b : Bool, s124 = .bool b ∧ Hid (b = !(Lk.within st 0 3 && Lk.within tr 0 (nx - 1))) ∧ V3 = wx)
    case first =>
      clear HX
      by_cases p1 : 0 ≤ st
      rotate_left
      · have p1' : decide (0 ≤ st) = false := decide_eq_false p1
        go_wp2_with (first | fail | (go_at_call 35; go_in))
        go_meet
        case rel => exact ⟨true, rfl, (by show true = _; simp [Lk.within, p1]), rfl⟩
      have p1' : decide (0 ≤ st) = true := decide_eq_true p1
      by_cases p2 : st ≤ 3
      rotate_left
      · have p2' : decide (st ≤ 3) = false := decide_eq_false p2
        go_wp2_with (first | fail | (go_at_call 35; go_in))
        go_meet
        case rel => exact ⟨true, rfl, (by show true = _; simp [Lk.within, p2]), rfl⟩
      have p2' : decide (st ≤ 3) = true := decide_eq_true p2
      by_cases p3 : 0 ≤ tr
      rotate_left
      · have p3' : decide (0 ≤ tr) = false := decide_eq_false p3
        go_wp2_with (first | fail | (go_at_call 35; go_in))
        go_meet
        case rel => exact ⟨true, rfl, (by show true = _; simp [Lk.within, p3]), rfl⟩
      have p3' : decide (0 ≤ tr) = true := decide_eq_true p3
      by_cases p4 : tr ≤ nx - 1
      rotate_left
      · have p4' : decide (tr ≤ nx - 1) = false := decide_eq_false p4
        go_wp2_with (first | fail | (go_at_call 35; go_in))
        go_meet
        case rel => exact ⟨true, rfl, (by show true = _; simp [Lk.within, p4]), rfl⟩
      have p4' : decide (tr ≤ nx - 1) = true := decide_eq_true p4
      go_wp2_with (first | fail | (go_at_call 35; go_in))
      go_meet
      case rel => exact ⟨false, rfl, (by show false = _; simp [Lk.within, p1, p2, p3, p4]), rfl⟩
    case rest =>
    obtain ⟨b1, rfl, HB1b, rfl⟩ := hcut
    cases b1
    rotate_left
    · have HE : Hid (Q = 3) := by rw [HX.out, known_dec HB1b.out rfl, if_pos rfl]; rfl
      clear HX HB1b
      go_wp2
      go_ret
      exact ⟨by rw [HE.out]; rfl, HBw2.out⟩
    go_upto_region 27 with fail
    go_cut [13] from 125 to 127 (fun s13 wx => ∃ b0 : Bool, s13 = .bool b0 ∧ Hid (b0 = (st == 0)) ∧ V3 = wx)
    case first =>
      clear HX
      go_wp2_with fail
      go_meet
      case rel => exact ⟨_, rfl, rfl, rfl⟩
    case rest =>
    obtain ⟨b0, rfl, HB0b, rfl⟩ := hcut
    go_upto_region 28 with fail
    go_cut [159] from 128 to 159 (fun s159 wx => ∃ b : Bool, s159 = .bool b ∧ Hid (b = decide ((st ≠ 0 ∧ (g = 0 ∨ tr = 0)) ∨ (bb = true ∧ (bk = false ∨ st = 0)))) ∧ V3 = wx)
    case first =>
      clear HX
      cases b0
      · have HS0 : Hid (¬ st = 0) := by have h := HB0b.out; exact fun e => by rw [e] at h; exact absurd h (by decide)
        by_cases g0 : g = 0
        · have g0' : (g == 0) = true := by simpa using g0
          have HG0 : Hid (g = 0) := g0
          clear g0
          go_wp2_with fail
          go_meet
          case rel => exact ⟨true, rfl, (by show true = _; simp [HS0.out, HG0.out]), rfl⟩
        have g0' : (g == 0) = false := by simpa using g0
        have HG0 : Hid (¬ g = 0) := g0
        clear g0
        by_cases t0 : tr = 0
        · have t0' : (tr == 0) = true := by simpa using t0
          have HT0 : Hid (tr = 0) := t0
          clear t0
          go_wp2_with fail
          go_meet
          case rel => exact ⟨true, rfl, (by show true = _; simp [HS0.out, HT0.out]), rfl⟩
        have t0' : (tr == 0) = false := by simpa using t0
        have HT0 : Hid (¬ tr = 0) := t0
        clear t0
        cases bb
        · go_wp2_with fail
          go_meet
          case rel => exact ⟨false, rfl, (by show false = _; simp [HS0.out, HG0.out, HT0.out]), rfl⟩
        · cases bk
          · go_wp2_with fail
            go_meet
            case rel => exact ⟨true, rfl, (by show true = _; simp [HS0.out]), rfl⟩
          · go_wp2_with fail
            go_meet
            case rel => exact ⟨false, rfl, (by show false = _; simp [HS0.out, HG0.out, HT0.out]), rfl⟩
      · have HS0 : Hid (st = 0) := by have h := HB0b.out; exact eq_of_beq h.symm
        cases bb
        · go_wp2_with fail
          go_meet
          case rel => exact ⟨false, rfl, (by show false = _; simp [HS0.out]), rfl⟩
        · cases bk
          · go_wp2_with fail
            go_meet
            case rel => exact ⟨true, rfl, (by show true = _; simp [HS0.out]), rfl⟩
          · go_wp2_with fail
            go_meet
            case rel => exact ⟨true, rfl, (by show true = _; simp [HS0.out]), rfl⟩
    case rest =>
    obtain ⟨b2, rfl, HB2b, rfl⟩ := hcut
    cases b2
    · have HE : Hid (Q = Ld.chkKnowns g bk nx (ks.drop (k + 1))) := by
        have h := HX.out
        rw [known_dec HB1b.out HB2b.out] at h
        show Q = _
        simpa using h
      clear HX HB1b HB2b HB0b
      go_wp2
      go_roundg (ks.length - (k + 1))
      case measure => omega
      case rel => exact ⟨k + 1, by omega, by omega, by go_num, HE, HBx⟩
    · have HE : Hid (Q = 4) := by
        have h := HX.out
        rw [known_dec HB1b.out HB2b.out] at h
        show Q = _
        simpa using h
      clear HX HB1b HB2b HB0b
      go_wp2
      go_ret
      exact ⟨by rw [HE.out]; rfl, HBw2.out⟩
end Go.Proofs.Ytcnnejndmafniaa
