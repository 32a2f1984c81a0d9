import Derived.Test.YtcnnejndmafniaaLG1
import Derived.Deep.CutBlock
import Derived.Test.YtcnnejndmafniaaLV8
/- The contracts of the document's IsOver and IsTurn. -/
namespace Go.Proofs.Ytcnnejndmafniaa
open Go.RowKit
theorem cnt_le : ∀ ks : List Ld.Known, (ks.filter fun a => a.st == 2).length + (ks.filter fun a => a.st == 3).length ≤ ks.length
  | [] => by simp
  | a :: r => by
    have := cnt_le r
    simp only [List.filter_cons, List.length_cons]
    by_cases h2 : a.st = 2
    · simp [h2]; omega
    · by_cases h3 : a.st = 3
      · simp [h3]; omega
      · simp [h2, h3]; omega
theorem cnt_all : ∀ ks : List Ld.Known, (∀ a ∈ ks, a.st ≤ 3) → ((ks.filter fun a => a.st == 2).length + (ks.filter fun a => a.st == 3).length = ks.length ↔ (ks.map fun a => decide (2 ≤ a.st)).all id = true)
  | [], _ => by simp
  | a :: r, h => by
    have ih := cnt_all r (fun x hx => h x (by simp [hx]))
    have hl := cnt_le r
    have ha := h a (by simp)
    simp only [List.filter_cons, List.length_cons, List.map_cons, List.all_cons, id, Bool.and_eq_true, decide_eq_true_eq]
    have e2 : ∀ s : Int, (a.st == s) = decide (a.st = s) := fun s => by by_cases h : a.st = s <;> simp [h]
    rw [e2, e2]
    by_cases h2 : a.st = 2
    · rw [if_pos (by simp [h2]), if_neg (by simp [h2]), List.length_cons]
      exact ⟨fun h => ⟨by omega, ih.1 (by omega)⟩, fun h => by have := ih.2 h.2; omega⟩
    · by_cases h3 : a.st = 3
      · rw [if_neg (by simp [h3]), if_pos (by simp [h3]), List.length_cons]
        exact ⟨fun h => ⟨by omega, ih.1 (by omega)⟩, fun h => by have := ih.2 h.2; omega⟩
      · rw [if_neg (by simp [h2]), if_neg (by simp [h3])]
        exact ⟨fun h => by omega, fun h => by omega⟩
theorem lead_states {cf : Ld.Config} {l : Ld.Leader} (h : Ld.chkLeader cf l = 0) : ∀ a ∈ l.ags, 0 ≤ a.st ∧ a.st ≤ 3 := fun a ha => ((Ld.known_iff _ _ _ _).1 (((Ld.lead_iff cf l).1 h).2.2.2.2.2.2.2 a ha)).1
theorem overOn_eq {cf : Ld.Config} {l : Ld.Leader} (h : Ld.chkLeader cf l = 0) (hb : l.back = false) : Ld.isOver cf l = (decide (Ld.count l 2 + Ld.count l 3 = l.ags.length) && decide ((Ld.count l 3 : Int) ≤ cf.budget)) := by
  unfold Ld.isOver Ld.through
  rw [if_neg (by rw [hb]; decide)]
  congr 1
  have := cnt_all l.ags (fun a ha => (lead_states h a ha).2)
  rw [Bool.eq_iff_iff, decide_eq_true_eq]
  exact this.symm
theorem cnt_few {cf : Ld.Config} {l : Ld.Leader} (h : Ld.chkLeader cf l = 0) : Ld.count l 2 + Ld.count l 3 ≤ 6 := by
  have := cnt_le l.ags
  have := (Ld.lead_few h).2.1
  unfold Ld.count
  omega
theorem sum_eqT {a b c : Nat} (h : a + b = c) : ((a : Int) + b == c) = true := by rw [beq_iff_eq]; omega
theorem sum_eqF {a b c : Nat} (h : ¬ a + b = c) : ((a : Int) + b == c) = false := by rw [beq_eq_false_iff_ne]; omega
set_option maxHeartbeats 2000000 in
set_option maxRecDepth 100000 in
theorem overR_any (cf : Ld.Config) (A B D : Value) (ld : Ld.Leader) (Y Z : Value) (w : World) (hL : LdAt w ld Y Z) (hc : Ld.chkLeader cf ld = 0) :
    Calls Try.prog 19 #[cfV cf A B D, leV ld Y Z] w fun e w' => e = .returned (.bool (Ld.isOver cf ld)) ∧ Below w.heap.size w w' := by
  have HCN : Hid (∀ (s : Int) (w' : World), Below w.heap.size w w' → Calls Try.prog 51 #[leV ld Y Z, .int .i64 s] w' fun e w'' => e = .returned (.int .i64 (Ld.count ld s)) ∧ Below w'.heap.size w' w'') := fun s w' hb => countR_any ld Y Z s w' (hL.below hb)
  have HON : Hid (ld.back = false → Ld.isOver cf ld = (decide (Ld.count ld 2 + Ld.count ld 3 = ld.ags.length) && decide ((Ld.count ld 3 : Int) ≤ cf.budget))) := fun h => overOn_eq hc h
  have HBK : Hid (ld.back = true → Ld.isOver cf ld = ld.ags.all fun a => decide (a.st ≠ 1) && (decide (a.st = 0) || a.back)) := fun h => by unfold Ld.isOver; rw [if_pos h]
  have HST : Hid (∀ a ∈ ld.ags, 0 ≤ a.st ∧ a.st ≤ 3) := lead_states hc
  have hfew := cnt_few hc
  have hn6 := (Ld.lead_few hc).2.1
  obtain ⟨a4, c4, rfl⟩ := relA_slice hL.1
  obtain ⟨a5, c5, rfl⟩ := knows_slice hL.2
  have HL : Hid (KnowsAt w (.slice a5 ld.ags.length c5) ld.ags) := hL.2
  obtain ⟨rs, nw, g, bk, ks, nx⟩ := ld
  obtain ⟨f, L, R, W, d⟩ := cf
  unfold leV leC at HCN
  unfold cfV cfC leV leC
  simp only at HCN HON HBK HST hfew hn6 HL
  simp only
  clear hL hc
  generalize Ld.isOver ⟨f, L, R, W, d⟩ ⟨rs, nw, g, bk, ks, nx⟩ = Q at HON HBK ⊢
  generalize Ld.count ⟨rs, nw, g, bk, ks, nx⟩ = CN at HCN HON hfew
  have H2 := HCN.out 2
  have H3 := HCN.out 3
  generalize CN 2 = m2 at H2 HON hfew
  generalize CN 3 = m3 at H3 HON hfew
  clear HCN
  generalize rs.length = n4 at *
  have hn6i : (ks.length : Int) ≤ 6 := by omega
  obtain ⟨hB0, hK0, hG0⟩ := box2 w #[.int .i64 f, A, B, D, .int .i64 d] #[.slice a4 n4 c4, .int .i64 nw, .int .i64 g, .bool bk, .slice a5 ks.length c5, .int .i64 nx] 28 32
  have HB : Hid (Below w.heap.size w ((w.alloc (.cells #[.int .i64 f, A, B, D, .int .i64 d] 28)).alloc (.cells #[.slice a4 n4 c4, .int .i64 nw, .int .i64 g, .bool bk, .slice a5 ks.length c5, .int .i64 nx] 32))) := hB0
  have HG : Hid (Blk ((w.alloc (.cells #[.int .i64 f, A, B, D, .int .i64 d] 28)).alloc (.cells #[.slice a4 n4 c4, .int .i64 nw, .int .i64 g, .bool bk, .slice a5 ks.length c5, .int .i64 nx] 32)) (w.heap.size + 1) #[.slice a4 n4 c4, .int .i64 nw, .int .i64 g, .bool bk, .slice a5 ks.length c5, .int .i64 nx] 32) := hG0
  have k4 := hK0.cell 4
  have kl0 := hG0.cell 0
  have kl1 := hG0.cell 1
  have kl2 := hG0.cell 2
  have kl3 := hG0.cell 3
  have kl4 := hG0.cell 4
  have kl5 := hG0.cell 5
  simp only [List.getElem?_toArray, List.getElem?_cons_zero, List.getElem?_cons_succ] at kl0 kl1 kl2 kl3 kl4 kl5
  simp only [List.getElem?_toArray, List.getElem?_cons_zero, List.getElem?_cons_succ] at k4
  go_enter Try.func19, Try.ntmps19
  go_upto_region 1 with fail
  generalize ((w.alloc (.cells #[.int .i64 f, A, B, D, .int .i64 d] 28)).alloc (.cells #[.slice a4 n4 c4, .int .i64 nw, .int .i64 g, .bool bk, .slice a5 ks.length c5, .int .i64 nx] 32)) = V at *
  cases bk
  · go_upto_region 2 with fail
    have hQ := HON.out rfl
    have cl1 := fun (d' : Nat) (os : Array Obj) => Calls.regrown_of (H2 (Sort.grow (redrawn V d') os) (HB.out.trans ((below_regrown V d' os).mono HB.out.size)))
    have cl2 := fun (d' : Nat) (os : Array Obj) => Calls.regrown_of (H3 (Sort.grow (redrawn V d') os) (HB.out.trans ((below_regrown V d' os).mono HB.out.size)))
    have r4 := cell_regrown k4
    have r0 := cell_regrown kl0
    have r1 := cell_regrown kl1
    have r2 := cell_regrown kl2
    have r3 := cell_regrown kl3
    have r5 := cell_regrown kl4
    have r6 := cell_regrown kl5
    have HQ : Hid (Q = (decide (m2 + m3 = ks.length) && decide ((m3 : Int) ≤ d))) := hQ
    have hm2 : (m2 : Int) ≤ 6 := by omega
    have hm3 : (m3 : Int) ≤ 6 := by omega
    clear hQ HON HBK HST H2 H3 HL hB0 hK0 hG0 k4 kl0 kl1 kl2 kl3 kl4 kl5 HG
    by_cases ha : m2 + m3 = ks.length
    · have ha1 : ((m2 : Int) + m3 == ks.length) = true := sum_eqT ha
      have HE : Hid (Q = decide ((m3 : Int) ≤ d)) := by rw [HQ.out, decide_eq_true ha, Bool.true_and]; rfl
      clear HQ ha
      refine wp_region_quiet_below (by kernel_rfl) (by kernel_rfl) ?_
      repeat (go_big_quiet_step (first | with_reducible exact cl1 _ _ | with_reducible exact cl2 _ _))
      refine wpQuiet_nil ?_
      intro _ hw'
      obtain ⟨⟨dq, osq⟩, hw''⟩ := hw'
      subst hw''
      have HB6 : Hid (Below w.heap.size w (Sort.grow (redrawn V dq) osq)) := HB.out.trans ((below_regrown V dq osq).mono HB.out.size)
      clear cl1 cl2
      go_wp2
      go_ret
      exact ⟨by rw [HE.out]; rfl, HB6.out⟩
    · have ha1 : ((m2 : Int) + m3 == ks.length) = false := sum_eqF ha
      have HE : Hid (Q = false) := by rw [HQ.out, decide_eq_false ha, Bool.false_and]; rfl
      clear HQ ha
      refine wp_region_quiet_below (by kernel_rfl) (by kernel_rfl) ?_
      repeat (go_big_quiet_step (first | with_reducible exact cl1 _ _ | with_reducible exact cl2 _ _))
      refine wpQuiet_nil ?_
      intro _ hw'
      obtain ⟨⟨dq, osq⟩, hw''⟩ := hw'
      subst hw''
      have HB6 : Hid (Below w.heap.size w (Sort.grow (redrawn V dq) osq)) := HB.out.trans ((below_regrown V dq osq).mono HB.out.size)
      clear cl1 cl2
      go_wp2
      go_ret
      exact ⟨by rw [HE.out]; rfl, HB6.out⟩
  · have HQ : Hid (Q = ks.all fun a => decide (a.st ≠ 1) && (decide (a.st = 0) || a.back)) := HBK.out rfl
    clear HON HBK H2 H3 hB0 hK0 hG0 k4
    go_wp2_with fail
    go_loopg [29] ks.length (fun gi s29 wr => ∃ k : Nat, k ≤ ks.length ∧ ks.length - k ≤ gi ∧ s29 = .int .i64 k ∧ Hid (Q = (ks.drop k).all fun a => decide (a.st ≠ 1) && (decide (a.st = 0) || a.back)) ∧ Hid (Below w.heap.size w wr))
    case atStart => exact ⟨0, Nat.zero_le _, by omega, rfl, HQ, HB⟩
    case round =>
      obtain ⟨k, hk, hgk, rfl, HXk, HBk⟩ := hrel
      clear HQ HB kl0 kl1 kl2 kl3 kl4 kl5 HG
      by_cases hlt : k < ks.length
      rotate_left
      · have hk' : k = ks.length := by omega
        have HE : Hid (Q = true) := by rw [HXk.out, hk', List.drop_length]; rfl
        subst hk'
        clear hlt HXk
        go_wp2
        go_ret
        exact ⟨by rw [HE.out]; rfl, HBk.out⟩
      obtain ⟨kb, ko, rfl, hkb, q1, q2, q3⟩ := knows_at (HL.out.below HBk.out) hlt
      have hX := HXk.out
      rw [dropKn ks k hlt, List.all_cons] at hX
      have hst := HST.out _ (Ld.mem_getDK hlt)
      generalize ks.getD k ⟨0, 0, false⟩ = kn at q1 q2 q3 hX hst
      obtain ⟨st, tr, bb⟩ := kn
      simp only at q1 q2 q3 hst
      have HX : Hid (Q = ((decide (st ≠ 1) && (decide (st = 0) || bb)) && (ks.drop (k + 1)).all fun a => decide (a.st ≠ 1) && (decide (a.st = 0) || a.back))) := hX
      have HBx : Hid (Below w.heap.size w (wr.alloc (.cells #[.int .i64 st, .int .i64 tr, .bool bb] 56))) := HBk.out.trans ((box1 wr _ _).1.mono HBk.out.size)
      have hki : (k : Int) < ks.length := by omega
      clear hX HXk HBk
      by_cases s1 : st = 1
      · have HE : Hid (Q = false) := by rw [HX.out, s1]; rfl
        have s1' : (st == 1) = true := by simpa using s1
        clear s1 HX hst
        go_wp2
        go_ret
        exact ⟨by rw [HE.out]; rfl, HBx.out⟩
      have s1' : (st == 1) = false := by simpa using s1
      by_cases s2 : 1 < st
      · have s2' : decide ((1 : Int) < st) = true := decide_eq_true s2
        have hs0 : ¬ st = 0 := by omega
        cases bb
        · have HE : Hid (Q = false) := by show Q = _; rw [HX.out]; simp [hs0]
          clear s1 s2 HX hst hs0
          go_wp2
          go_ret
          exact ⟨by rw [HE.out]; rfl, HBx.out⟩
        · have HE : Hid (Q = (ks.drop (k + 1)).all fun a => decide (a.st ≠ 1) && (decide (a.st = 0) || a.back)) := by show Q = _; rw [HX.out]; simp [s1]
          clear s1 s2 HX hst hs0
          go_wp2
          go_roundg (ks.length - (k + 1))
          case measure => omega
          case rel => exact ⟨k + 1, by omega, by omega, by go_num, HE, HBx⟩
      · have s2' : decide ((1 : Int) < st) = false := decide_eq_false s2
        have hs0 : st = 0 := by omega
        have HE : Hid (Q = (ks.drop (k + 1)).all fun a => decide (a.st ≠ 1) && (decide (a.st = 0) || a.back)) := by show Q = _; rw [HX.out]; simp [hs0]
        clear s1 s2 HX hst hs0
        go_wp2
        go_roundg (ks.length - (k + 1))
        case measure => omega
        case rel => exact ⟨k + 1, by omega, by omega, by go_num, HE, HBx⟩
end Go.Proofs.Ytcnnejndmafniaa
/- The contract of the document's IsTurn. -/
namespace Go.Proofs.Ytcnnejndmafniaa
open Go.RowKit
theorem walk_cons {t : List Bool} {k : Int} {W : List (List Int)} {i : Nat} (h : i < W.length) : Ld.turnWalk t k (W.drop i) = if k ∈ W.getD i [] then true else if Wv.isOpen t (W.getD i []) = true then false else Ld.turnWalk t k (W.drop (i + 1)) := by
  rw [dropL W [] i h, Ld.turnWalk]
theorem open_cons {t : List Bool} {m : List Int} {j : Nat} (h : j < m.length) : Wv.isOpen t (m.drop j) = (!t.getD (m.getD j 0).toNat true || Wv.isOpen t (m.drop (j + 1))) := by
  rw [dropL m 0 j h]; rfl
theorem thr_at {l : Ld.Leader} {o : Int} (h0 : 0 ≤ o) (h1 : o < l.ags.length) : (Ld.through l).getD o.toNat true = decide (2 ≤ (l.ags.getD o.toNat ⟨0, 0, false⟩).st) := by
  obtain ⟨n, rfl⟩ : ∃ n : Nat, o = n := ⟨o.toNat, by omega⟩
  have hn : n < l.ags.length := by omega
  rw [Int.toNat_natCast]
  unfold Ld.through
  simp [List.getD_eq_getElem?_getD, hn]
theorem turn_on_eq {cf : Ld.Config} {l : Ld.Leader} {k : Nat} (hc : Ld.chkLeader cf l = 0) (hk : k < l.ags.length) (hb : l.back = false) (hs : (l.ags.getD k ⟨0, 0, false⟩).st = 0) (hi : (Ld.count l 3 : Int) ≤ cf.budget) : Ld.isTurn cf l k = Ld.turnWalk (Ld.through l) k cf.waves := by
  have hf := Ld.lead_few hc
  have ht : (Ld.through l).getD ((k : Int).toNat) true = false := by
    rw [thr_at (by omega) (by omega), Int.toNat_natCast, hs]; rfl
  obtain ⟨_, _, hst, _⟩ := Wv.all_stand hf.2.2.1
  rw [Ld.turnWalk_eq ht cf.waves (hst k (by omega) (by omega)) 0]
  unfold Ld.isTurn
  rw [if_neg (by rw [hb]; decide), hs, decide_eq_true hi, decide_eq_true (rfl : (0 : Int) = 0), Bool.true_and, Bool.and_true]
  rfl
theorem turn_on_ill {cf : Ld.Config} {l : Ld.Leader} {k : Nat} (hb : l.back = false) (h : ¬ (l.ags.getD k ⟨0, 0, false⟩).st = 0 ∨ ¬ (Ld.count l 3 : Int) ≤ cf.budget) : Ld.isTurn cf l k = false := by
  unfold Ld.isTurn
  rw [if_neg (by rw [hb]; decide)]
  rcases h with h | h
  · rw [decide_eq_false h, Bool.false_and, Bool.false_and]
  · rw [decide_eq_false h, Bool.and_false]
theorem wave_in {cf : Ld.Config} {l : Ld.Leader} (hc : Ld.chkLeader cf l = 0) : ∀ w ∈ cf.waves, ∀ o ∈ w, 0 ≤ o ∧ o < l.ags.length := fun w hw o ho => by
  have hf := Ld.lead_few hc
  have := (Wv.all_stand hf.2.2.1).2.1 w hw
  have := this.2 o ho
  omega
theorem mem_getDW {W : List (List Int)} {i : Nat} (h : i < W.length) : W.getD i [] ∈ W := by
  rw [List.getD_eq_getElem?_getD, List.getElem?_eq_getElem h]; exact List.getElem_mem h
theorem mem_getDJ {W : List Int} {i : Nat} (h : i < W.length) : W.getD i 0 ∈ W := by
  rw [List.getD_eq_getElem?_getD, List.getElem?_eq_getElem h]; exact List.getElem_mem h
set_option maxHeartbeats 4000000 in
set_option maxRecDepth 100000 in
theorem turnR_any (cf : Ld.Config) (A B D : Value) (ld : Ld.Leader) (Y Z : Value) (k : Nat) (w : World) (hC : CfAt w cf A B D) (hL : LdAt w ld Y Z) (hc : Ld.chkLeader cf ld = 0) (hk : k < ld.ags.length) :
    Calls Try.prog 21 #[cfV cf A B D, leV ld Y Z, .int .i64 k] w fun e w' => e = .returned (.bool (Ld.isTurn cf ld k)) ∧ Below w.heap.size w w' := by
  have HCN : Hid (∀ (w' : World), Below w.heap.size w w' → Calls Try.prog 51 #[leV ld Y Z, .int .i64 3] w' fun e w'' => e = .returned (.int .i64 (Ld.count ld 3)) ∧ Below w'.heap.size w' w'') := fun w' hb => countR_any ld Y Z 3 w' (hL.below hb)
  have HBK : Hid (ld.back = true → Ld.isTurn cf ld k = (decide ((ld.ags.getD k ⟨0, 0, false⟩).st ≠ 0) && !(ld.ags.getD k ⟨0, 0, false⟩).back)) := fun h => by unfold Ld.isTurn; rw [if_pos h]
  have HIL : Hid (ld.back = false → (¬ (ld.ags.getD k ⟨0, 0, false⟩).st = 0 ∨ ¬ (Ld.count ld 3 : Int) ≤ cf.budget) → Ld.isTurn cf ld k = false) := fun h h2 => turn_on_ill h h2
  have HON : Hid (ld.back = false → (ld.ags.getD k ⟨0, 0, false⟩).st = 0 → (Ld.count ld 3 : Int) ≤ cf.budget → Ld.isTurn cf ld k = Ld.turnWalk (Ld.through ld) k cf.waves) := fun h1 h2 h3 => turn_on_eq hc hk h1 h2 h3
  have HWI : Hid (∀ w ∈ cf.waves, ∀ o ∈ w, 0 ≤ o ∧ o < ld.ags.length) := wave_in hc
  have HTA : Hid (∀ o : Int, 0 ≤ o → o < ld.ags.length → (Ld.through ld).getD o.toNat true = decide (2 ≤ (ld.ags.getD o.toNat ⟨0, 0, false⟩).st)) := fun o h0 h1 => thr_at h0 h1
  have hfew := cnt_few hc
  have hn6 := (Ld.lead_few hc).2.1
  obtain ⟨a4, c4, rfl⟩ := relA_slice hL.1
  obtain ⟨a5, c5, rfl⟩ := knows_slice hL.2
  have HKN : Hid (KnowsAt w (.slice a5 ld.ags.length c5) ld.ags) := hL.2
  obtain ⟨kb, ko, rfl, hkb, q1, q2, q3⟩ := knows_at hL.2 hk
  obtain ⟨rs, nw, g, bk, ks, nx⟩ := ld
  obtain ⟨f, L, R, W, d⟩ := cf
  obtain ⟨a3, c3, rfl⟩ := waves_slice hC.2.2
  obtain ⟨hll, A3, b, o, c3', e3, -, hA, hCc⟩ := hC.2.2
  simp only [Value.slice.injEq] at e3
  obtain ⟨rfl, -, rfl⟩ := e3
  unfold leV leC at HCN
  unfold cfV cfC leV leC
  simp only at HCN HON HBK HIL HWI HTA hfew hn6 HKN hk q1 q2 q3 hA hCc hll
  simp only
  have HA : Hid (0 < W.length → a3 = some ⟨b, o, none⟩ ∧ b < w.heap.size) := hA
  have HC : Hid (∀ j, j < W.length → ∃ u, w.cell? ⟨b, o + j, none⟩ = some u ∧ IntsAt w u (W.getD j [])) := hCc
  clear hL hc hC hA hCc
  generalize Ld.isTurn ⟨f, L, R, W, d⟩ ⟨rs, nw, g, bk, ks, nx⟩ k = Q at HON HBK HIL ⊢
  generalize Ld.through ⟨rs, nw, g, bk, ks, nx⟩ = T at HON HTA
  have hm36 : Ld.count ⟨rs, nw, g, bk, ks, nx⟩ 3 ≤ 6 := by omega
  generalize Ld.count ⟨rs, nw, g, bk, ks, nx⟩ 3 = m3 at HCN HON HIL hm36
  generalize hkn : ks.getD k ⟨0, 0, false⟩ = kn at q1 q2 q3 HBK HIL HON
  obtain ⟨st, tr, bb⟩ := kn
  simp only at q1 q2 q3 HBK HIL HON
  clear hfew hkn
  generalize rs.length = n4 at *
  generalize hn5 : ks.length = n5 at *
  have hn6i : (n5 : Int) ≤ 6 := by omega
  have hki : (k : Int) < n5 := by omega
  obtain ⟨hB0, hK0, hG0⟩ := box2 w #[.int .i64 f, A, B, .slice a3 W.length c3, .int .i64 d] #[.slice a4 n4 c4, .int .i64 nw, .int .i64 g, .bool bk, .slice (some ⟨kb, ko, none⟩) n5 c5, .int .i64 nx] 28 32
  have hA0 := box1 ((w.alloc (.cells #[.int .i64 f, A, B, .slice a3 W.length c3, .int .i64 d] 28)).alloc (.cells #[.slice a4 n4 c4, .int .i64 nw, .int .i64 g, .bool bk, .slice (some ⟨kb, ko, none⟩) n5 c5, .int .i64 nx] 32)) #[.int .i64 st, .int .i64 tr, .bool bb] 56
  have HB : Hid (Below w.heap.size w (((w.alloc (.cells #[.int .i64 f, A, B, .slice a3 W.length c3, .int .i64 d] 28)).alloc (.cells #[.slice a4 n4 c4, .int .i64 nw, .int .i64 g, .bool bk, .slice (some ⟨kb, ko, none⟩) n5 c5, .int .i64 nx] 32)).alloc (.cells #[.int .i64 st, .int .i64 tr, .bool bb] 56))) := hB0.trans (hA0.1.mono hB0.size)
  have HK : Hid (Blk (((w.alloc (.cells #[.int .i64 f, A, B, .slice a3 W.length c3, .int .i64 d] 28)).alloc (.cells #[.slice a4 n4 c4, .int .i64 nw, .int .i64 g, .bool bk, .slice (some ⟨kb, ko, none⟩) n5 c5, .int .i64 nx] 32)).alloc (.cells #[.int .i64 st, .int .i64 tr, .bool bb] 56)) w.heap.size #[.int .i64 f, A, B, .slice a3 W.length c3, .int .i64 d] 28) := hK0.below hA0.1
  have HG : Hid (Blk (((w.alloc (.cells #[.int .i64 f, A, B, .slice a3 W.length c3, .int .i64 d] 28)).alloc (.cells #[.slice a4 n4 c4, .int .i64 nw, .int .i64 g, .bool bk, .slice (some ⟨kb, ko, none⟩) n5 c5, .int .i64 nx] 32)).alloc (.cells #[.int .i64 st, .int .i64 tr, .bool bb] 56)) (w.heap.size + 1) #[.slice a4 n4 c4, .int .i64 nw, .int .i64 g, .bool bk, .slice (some ⟨kb, ko, none⟩) n5 c5, .int .i64 nx] 32) := hG0.below hA0.1
  have HX : Hid (Blk (((w.alloc (.cells #[.int .i64 f, A, B, .slice a3 W.length c3, .int .i64 d] 28)).alloc (.cells #[.slice a4 n4 c4, .int .i64 nw, .int .i64 g, .bool bk, .slice (some ⟨kb, ko, none⟩) n5 c5, .int .i64 nx] 32)).alloc (.cells #[.int .i64 st, .int .i64 tr, .bool bb] 56)) ((w.alloc (.cells #[.int .i64 f, A, B, .slice a3 W.length c3, .int .i64 d] 28)).alloc (.cells #[.slice a4 n4 c4, .int .i64 nw, .int .i64 g, .bool bk, .slice (some ⟨kb, ko, none⟩) n5 c5, .int .i64 nx] 32)).heap.size #[.int .i64 st, .int .i64 tr, .bool bb] 56) := hA0.2
  have y1 := (hB0.cell (p := ⟨kb, ko + k * 3, none⟩) hkb).trans q1
  have y2 := (hB0.cell (p := ⟨kb, ko + k * 3 + 1, none⟩) hkb).trans q2
  have y3 := (hB0.cell (p := ⟨kb, ko + k * 3 + 2, none⟩) hkb).trans q3
  have kl0 := hG0.cell 0
  have kl1 := hG0.cell 1
  have kl2 := hG0.cell 2
  have kl3 := hG0.cell 3
  have kl4 := hG0.cell 4
  have kl5 := hG0.cell 5
  simp only [List.getElem?_toArray, List.getElem?_cons_zero, List.getElem?_cons_succ] at kl0 kl1 kl2 kl3 kl4 kl5
  clear q1 q2 q3 hK0 hA0
  go_enter Try.func21, Try.ntmps21
  go_upto_region 1 with fail
  generalize ((w.alloc (.cells #[.int .i64 f, A, B, .slice a3 W.length c3, .int .i64 d] 28)).alloc (.cells #[.slice a4 n4 c4, .int .i64 nw, .int .i64 g, .bool bk, .slice (some ⟨kb, ko, none⟩) n5 c5, .int .i64 nx] 32)) = V0 at *
  go_upto_region 2 with fail
  generalize V0.heap.size = ga at HX ⊢
  generalize (V0.alloc (.cells #[.int .i64 st, .int .i64 tr, .bool bb] 56)) = V at *
  clear y1 y2 y3 kl0 kl1 kl2 kl3 kl4 kl5 hG0 hB0
  cases bk
  rotate_left
  · have HQ : Hid (Q = (decide (st ≠ 0) && !bb)) := HBK.out rfl
    have kg0 := HG.out.cell 0
    have kg1 := HG.out.cell 1
    have kg2 := HG.out.cell 2
    have kg3 := HG.out.cell 3
    have kg4 := HG.out.cell 4
    have kg5 := HG.out.cell 5
    simp only [List.getElem?_toArray, List.getElem?_cons_zero, List.getElem?_cons_succ] at kg0 kg1 kg2 kg3 kg4 kg5
    have kx0 := HX.out.cell 0
    have kx1 := HX.out.cell 1
    have kx2 := HX.out.cell 2
    simp only [List.getElem?_toArray, List.getElem?_cons_zero, List.getElem?_cons_succ] at kx0 kx1 kx2
    clear HBK HIL HON HCN HWI HTA HA HC HKN HK HG HX
    cases bb
    · have HE : Hid (Q = (st != 0)) := by
        show Q = _
        rw [HQ.out, Bool.not_false, Bool.and_true]
        by_cases h : st = 0 <;> simp [h]
      clear HQ
      go_wp2
      go_ret
      exact ⟨by rw [HE.out]; rfl, HB.out⟩
    · have HE : Hid (Q = false) := by show Q = _; rw [HQ.out, Bool.not_true, Bool.and_false]
      clear HQ
      go_wp2
      go_ret
      exact ⟨by rw [HE.out]; rfl, HB.out⟩
  have kg0 := HG.out.cell 0
  have kg1 := HG.out.cell 1
  have kg2 := HG.out.cell 2
  have kg3 := HG.out.cell 3
  have kg4 := HG.out.cell 4
  have kg5 := HG.out.cell 5
  simp only [List.getElem?_toArray, List.getElem?_cons_zero, List.getElem?_cons_succ] at kg0 kg1 kg2 kg3 kg4 kg5
  go_upto_region 4 with fail
  clear kg0 kg1 kg2 kg3 kg4 kg5 HBK
  have cl1 := fun (d' : Nat) (os : Array Obj) => Calls.regrown_of (HCN.out (Sort.grow (redrawn V d') os) (HB.out.trans ((below_regrown V d' os).mono HB.out.size)))
  have rk0 := cell_regrown (show _ = some _ from HK.out.cell 0)
  have rk1 := cell_regrown (show _ = some _ from HK.out.cell 1)
  have rk2 := cell_regrown (show _ = some _ from HK.out.cell 2)
  have rk3 := cell_regrown (show _ = some _ from HK.out.cell 3)
  have rk4 := cell_regrown (show _ = some _ from HK.out.cell 4)
  have rg0 := cell_regrown (show _ = some _ from HG.out.cell 0)
  have rg1 := cell_regrown (show _ = some _ from HG.out.cell 1)
  have rg2 := cell_regrown (show _ = some _ from HG.out.cell 2)
  have rg3 := cell_regrown (show _ = some _ from HG.out.cell 3)
  have rg4 := cell_regrown (show _ = some _ from HG.out.cell 4)
  have rg5 := cell_regrown (show _ = some _ from HG.out.cell 5)
  have rx0 := cell_regrown (show _ = some _ from HX.out.cell 0)
  have rx1 := cell_regrown (show _ = some _ from HX.out.cell 1)
  have rx2 := cell_regrown (show _ = some _ from HX.out.cell 2)
  have hm3 : (m3 : Int) ≤ 6 := by omega
  clear HCN
  by_cases s0 : st = 0
  rotate_left
  · have HE : Hid (Q = false) := HIL.out rfl (.inl s0)
    have s0' : (st != 0) = true := by rw [bne_iff_ne]; exact s0
    clear s0 HIL HON HWI HTA HA HC HKN HK HG HX
    refine wp_region_quiet_below (by kernel_rfl) (by kernel_rfl) ?_
    repeat (go_big_quiet_step (with_reducible exact cl1 _ _))
    refine wpQuiet_nil ?_
    intro _ hw'
    obtain ⟨⟨dq, osq⟩, hw''⟩ := hw'
    subst hw''
    have HB6 : Hid (Below w.heap.size w (Sort.grow (redrawn V dq) osq)) := HB.out.trans ((below_regrown V dq osq).mono HB.out.size)
    clear cl1
    go_wp2
    go_ret
    exact ⟨by rw [HE.out]; rfl, HB6.out⟩
  subst s0
  by_cases i3 : (m3 : Int) ≤ d
  rotate_left
  · have HE : Hid (Q = false) := HIL.out rfl (.inr i3)
    have i3' : decide (d < (m3 : Int)) = true := decide_eq_true (Int.not_le.1 i3)
    clear i3 HIL HON HWI HTA HA HC HKN HK HG HX
    refine wp_region_quiet_below (by kernel_rfl) (by kernel_rfl) ?_
    repeat (go_big_quiet_step (with_reducible exact cl1 _ _))
    refine wpQuiet_nil ?_
    intro _ hw'
    obtain ⟨⟨dq, osq⟩, hw''⟩ := hw'
    subst hw''
    have HB6 : Hid (Below w.heap.size w (Sort.grow (redrawn V dq) osq)) := HB.out.trans ((below_regrown V dq osq).mono HB.out.size)
    clear cl1
    go_wp2
    go_ret
    exact ⟨by rw [HE.out]; rfl, HB6.out⟩
  have HQ : Hid (Q = Ld.turnWalk T (k : Int) W) := HON.out rfl rfl i3
  have i3' : decide (d < (m3 : Int)) = false := decide_eq_false (Int.not_lt.2 i3)
  clear i3 HIL HON
  refine wp_region_quiet_below (by kernel_rfl) (by kernel_rfl) ?_
  repeat (go_big_quiet_step (with_reducible exact cl1 _ _))
  refine wpQuiet_nil ?_
  intro _ hw'
  obtain ⟨⟨dq, osq⟩, hw''⟩ := hw'
  subst hw''
  have HB6 : Hid (Below w.heap.size w (Sort.grow (redrawn V dq) osq)) := HB.out.trans ((below_regrown V dq osq).mono HB.out.size)
  have HK5 := HK.out.below (below_regrown V dq osq)
  have HG5 := HG.out.below (below_regrown V dq osq)
  have HKN5 : Hid (KnowsAt (Sort.grow (redrawn V dq) osq) (.slice (some ⟨kb, ko, none⟩) n5 c5) ks) := HKN.out.below HB6.out
  clear cl1 HK HG HX HKN rk0 rk1 rk2 rk3 rk4 rg0 rg1 rg2 rg3 rg4 rg5 rx0 rx1 rx2
  generalize (Sort.grow (redrawn V dq) osq) = V5 at *
  have kw := HK5.cell 3
  have kz := HG5.cell 4
  simp only [List.getElem?_toArray, List.getElem?_cons_zero, List.getElem?_cons_succ] at kw kz
  clear HK5 HG5
  go_wp2_with fail
  go_loopg [40] W.length (fun gi s40 wr => ∃ i : Nat, i ≤ W.length ∧ W.length - i ≤ gi ∧ s40 = .int .i64 i ∧ Hid (Q = Ld.turnWalk T (k : Int) (W.drop i)) ∧ V5 = wr)
  case atStart => exact ⟨0, Nat.zero_le _, by omega, rfl, HQ, rfl⟩
  case round =>
    obtain ⟨i, hi, hgi, rfl, HXi, rfl⟩ := hrel
    clear HQ kw
    by_cases hlt : i < W.length
    rotate_left
    · have hi' : i = W.length := by omega
      have HE : Hid (Q = false) := by rw [HXi.out, hi', List.drop_length]; rfl
      subst hi'
      clear hlt HXi
      go_wp2
      go_ret
      exact ⟨by rw [HE.out]; rfl, HB6.out⟩
    obtain ⟨rfl, hbw⟩ := HA.out (by omega)
    obtain ⟨u, hu, hI⟩ := HC.out i hlt
    rw [← HB6.out.cell (p := ⟨b, _, none⟩) hbw] at hu
    have hI5 := hI.below HB6.out
    have hX := HXi.out
    rw [walk_cons hlt] at hX
    have HWm : Hid (∀ o ∈ W.getD i [], 0 ≤ o ∧ o < (n5 : Int)) := HWI.out _ (mem_getDW hlt)
    generalize W.getD i [] = m at hI5 hX HWm
    have HCI := containsI_any u m (k : Int) V5 hI5
    obtain ⟨hlm, B2, b2, o2, c2', rfl, hcl, hA2, hC2⟩ := hI5
    have HA2 : Hid (0 < m.length → B2 = some ⟨b2, o2, none⟩ ∧ b2 < V5.heap.size) := hA2
    have HC2 : Hid (∀ j, j < m.length → V5.cell? ⟨b2, o2 + j, none⟩ = some (.int .i64 (m.getD j 0))) := hC2
    have HXm : Hid (Q = if (k : Int) ∈ m then true else if Wv.isOpen T m = true then false else Ld.turnWalk T (k : Int) (W.drop (i + 1))) := hX
    have hiw : (i : Int) < W.length := by omega
    have hll2 : (W.length : Int) ≤ 70368744177664 := by omega
    have hlm2 : (m.length : Int) ≤ 70368744177664 := by omega
    clear hI hX HXi hA2 hC2
    go_wp2_with fail
    refine HCI.mono ?_
    rintro e w3 ⟨rfl, rfl⟩
    clear HCI hu
    by_cases hkm : (k : Int) ∈ m
    · have HE : Hid (Q = true) := by rw [HXm.out, if_pos hkm]; rfl
      have hkm' : decide ((k : Int) ∈ m) = true := decide_eq_true hkm
      clear hkm HXm
      go_wp2
      go_ret
      exact ⟨by rw [HE.out]; rfl, HB6.out⟩
    have hkm' : decide ((k : Int) ∈ m) = false := decide_eq_false hkm
    have HXn : Hid (Q = if Wv.isOpen T m = true then false else Ld.turnWalk T (k : Int) (W.drop (i + 1))) := by rw [HXm.out, if_neg hkm]; rfl
    clear hkm HXm
    go_wp2_with fail
    go_loopg [49] m.length (fun gj s49 wr => ∃ j : Nat, j ≤ m.length ∧ m.length - j ≤ gj ∧ s49 = .int .i64 j ∧ Hid (Wv.isOpen T m = Wv.isOpen T (m.drop j)) ∧ w3 = wr)
    case atStart => exact ⟨0, Nat.zero_le _, by omega, rfl, rfl, rfl⟩
    case round =>
      obtain ⟨j, hj, hgj, rfl, HOj, rfl⟩ := hrel
      by_cases hjl : j < m.length
      rotate_left
      · have hj' : j = m.length := by omega
        have HE : Hid (Q = Ld.turnWalk T (k : Int) (W.drop (i + 1))) := by
          rw [HXn.out, if_neg (by rw [HOj.out, hj', List.drop_length]; simp [Wv.isOpen])]; rfl
        subst hj'
        clear hjl HOj HXn
        go_wp2
        go_roundg (W.length - (i + 1))
        case measure => omega
        case rel => exact ⟨i + 1, by omega, by omega, by go_num, HE, rfl⟩
      obtain ⟨rfl, hb2⟩ := HA2.out (by omega)
      have hoc := HC2.out j hjl
      have hom := HWm.out _ (mem_getDJ hjl)
      have hO := HOj.out
      rw [open_cons hjl, HTA.out _ hom.1 hom.2] at hO
      generalize m.getD j 0 = ov at hoc hom hO
      obtain ⟨n, rfl⟩ : ∃ n : Nat, ov = n := ⟨ov.toNat, by omega⟩
      rw [Int.toNat_natCast] at hO
      obtain ⟨kb', ko', e2, hkb', z1, z2, z3⟩ := knows_at HKN5.out (show n < ks.length by omega)
      cases e2
      generalize ks.getD n ⟨0, 0, false⟩ = kq at z1 z2 z3 hO
      obtain ⟨sq, tq, bq⟩ := kq
      simp only at z1 z2 z3 hO
      have HO : Hid (Wv.isOpen T m = (!decide (2 ≤ sq) || Wv.isOpen T (m.drop (j + 1)))) := hO
      have hnn : (n : Int) < n5 := hom.2
      have hjm : (j : Int) < m.length := by omega
      clear hO hom HOj
      by_cases s2 : sq < 2
      · have HE : Hid (Q = false) := by rw [HXn.out, if_pos (by rw [HO.out, decide_eq_false (by omega)]; rfl)]; rfl
        have s2' : decide (sq < 2) = true := decide_eq_true s2
        clear s2 HO HXn
        go_wp2
        go_ret
        exact ⟨by rw [HE.out]; rfl, HB6.out⟩
      have HO2 : Hid (Wv.isOpen T m = Wv.isOpen T (m.drop (j + 1))) := by rw [HO.out, decide_eq_true (by omega)]; rfl
      have s2' : decide (sq < 2) = false := decide_eq_false s2
      clear s2 HO
      go_wp2
      go_roundg (m.length - (j + 1))
      case measure => omega
      case rel => exact ⟨j + 1, by omega, by omega, by go_num, HO2, rfl⟩
end Go.Proofs.Ytcnnejndmafniaa
/- The contract of the document's FreshLeader. -/
namespace Go.Proofs.Ytcnnejndmafniaa
open Go.RowKit
set_option maxHeartbeats 8000000 in
set_option maxRecDepth 100000 in
theorem freshR_any (cf : Ld.Config) (A B D : Value) (w0 w : World) (hC0 : CfAt w0 cf A B D) (h0 : Below w0.heap.size w0 w) (hc : Ld.chkConfig cf = 0) :
    Calls Try.prog 11 #[cfV cf A B D] w fun e w' => (∃ gR gK, e = .returned (leV (Ld.freshL cf) (.slice (some ⟨gR, 0, none⟩) 1 1) (.slice (some ⟨gK, 0, none⟩) (Ld.many cf) (Ld.many cf))) ∧ w.heap.size ≤ gR ∧ w.heap.size ≤ gK ∧ Keep (fun x => w0.heap.size ≤ x ∧ x ≠ gR ∧ x ≠ gK) (fun w => LdAt w (Ld.freshL cf) (.slice (some ⟨gR, 0, none⟩) 1 1) (.slice (some ⟨gK, 0, none⟩) (Ld.many cf) (Ld.many cf))) w') ∧ Below w.heap.size w w' := by
  obtain ⟨i0, hi, hz0, hz1, hz2⟩ := info_parts infoK
  have hC := hC0.below h0
  have H3 : Hid (∀ w', Below w.heap.size w w' → Calls Try.prog 18 #[cfV cf A B D] w' fun e w'' => e = .returned (.int .i64 (Ld.many cf)) ∧ Below w'.heap.size w' w'') := fun w' hb => by
    have := agR_any cf A B D w' (hC.below hb)
    rw [agR_ok hc] at this
    exact this
  have hM := (Ld.agents_ok hc).2.1
  obtain ⟨f, L, R, W, d⟩ := cf
  obtain ⟨a1, c1, rfl⟩ := pins_slice hC.1
  obtain ⟨a2, c2, rfl⟩ := rules_slice hC.2.1
  obtain ⟨a3, c3, rfl⟩ := waves_slice hC.2.2
  have HPN : Hid (PinsAt w0 (.slice a1 L.length c1) L) := hC0.1
  have HW0 : Hid (Below w0.heap.size w0 w) := h0
  have HQ : Hid (Ld.freshL ⟨f, L, R, W, d⟩ = ⟨[(f, L)], 1, 0, false, List.replicate (Ld.many ⟨f, L, R, W, d⟩) ⟨0, 0, false⟩, 1⟩) := rfl
  clear hC hC0 h0 hc
  unfold cfV cfC at H3
  unfold cfV cfC leV leC
  simp only at H3 ⊢
  generalize Ld.freshL ⟨f, L, R, W, d⟩ = Q at HQ ⊢
  generalize Ld.many ⟨f, L, R, W, d⟩ = M at H3 HQ hM ⊢
  generalize hn1 : L.length = n1 at *
  generalize R.length = n2 at *
  generalize W.length = n3 at *
  have hmk := fun w' => run_make (P := Try.prog) w' 30 56 _ _ Try.underlying30 hi hz0 .i64 .i64 (M : Int) (M : Int) (by omega) (Int.le_refl _) (by rw [hz2]; omega) (by omega)
  simp only [hz1, Int.toNat_natCast] at hmk
  have hcl : (Value.agg #[.int .i64 0, .int .i64 0, .bool false]).cells = #[.int .i64 0, .int .i64 0, .bool false] := rfl
  rw [hcl, made_knows M hM] at hmk
  obtain ⟨hB0, hK0, hZ0⟩ := box2 w #[.int .i64 f, .slice a1 n1 c1, .slice a2 n2 c2, .slice a3 n3 c3, .int .i64 d] #[.slice none 0 0, .int .i64 0, .int .i64 0, .bool false, .slice none 0 0, .int .i64 0] 28 32
  go_enter Try.func11, Try.ntmps11
  go_upto_region 1 with fail
  generalize ((w.alloc (.cells #[.int .i64 f, .slice a1 n1 c1, .slice a2 n2 c2, .slice a3 n3 c3, .int .i64 d] 28)).alloc (.cells #[.slice none 0 0, .int .i64 0, .int .i64 0, .bool false, .slice none 0 0, .int .i64 0] 32)) = V at *
  have H3' : Hid (∀ w', Below V.heap.size V w' → Calls Try.prog 18 #[.agg #[.int .i64 f, .slice a1 n1 c1, .slice a2 n2 c2, .slice a3 n3 c3, .int .i64 d]] w' fun e w'' => e = .returned (.int .i64 (M : Int)) ∧ Below w'.heap.size w' w'') := fun w' hb => H3.out w' (hB0.trans (hb.mono hB0.size))
  have HB0 : Hid (Below w.heap.size w V) := hB0
  have HZ0 : Hid (Blk V (w.heap.size + 1) #[.slice none 0 0, .int .i64 0, .int .i64 0, .bool false, .slice none 0 0, .int .i64 0] 32) := hZ0
  have HK0 : Hid (Blk V w.heap.size #[.int .i64 f, .slice a1 n1 c1, .slice a2 n2 c2, .slice a3 n3 c3, .int .i64 d] 28) := hK0
  have hlt1 : w.heap.size + 1 < V.heap.size := hZ0.lt
  have hlt0 : w.heap.size < V.heap.size := hK0.lt
  clear hB0 hZ0 hK0 H3
  go_cut [] from 3 (fun wx => ∃ gR gK : Nat, V.heap.size ≤ gR ∧ V.heap.size ≤ gK ∧ Blk wx gR #[.int .i64 f, .slice a1 n1 c1] 24 ∧ Blk wx gK (flatK (List.replicate M ⟨0, 0, false⟩)).toArray 56 ∧ Below w.heap.size w wx ∧ Blk wx (w.heap.size + 1) #[.slice (some ⟨gR, 0, none⟩) 1 1, .int .i64 1, .int .i64 0, .bool false, .slice (some ⟨gK, 0, none⟩) M M, .int .i64 1] 32)
  case first =>
    have HB1d : Hid (Below V.heap.size V V.drew) := (Below.refl _ V).drew
    have hlt0d : w.heap.size < V.drew.heap.size := hlt0
    have hlt1d : w.heap.size + 1 < V.drew.heap.size := hlt1
    have hz1 := (show Blk V.drew (w.heap.size + 1) _ _ from HZ0.out)
    have zf0 := hz1.free 0
    have zf1 := hz1.free 1
    have zf2 := hz1.free 2
    have zf3 := hz1.free 3
    have zf4 := hz1.free 4
    have zf5 := hz1.free 5
    clear hz1
    have hk1 := (show Blk V.drew w.heap.size _ _ from HK0.out)
    have kc0 := hk1.cell 0
    have kc1 := hk1.cell 1
    have kc2 := hk1.cell 2
    have kc3 := hk1.cell 3
    have kc4 := hk1.cell 4
    simp only [List.getElem?_toArray, List.getElem?_cons_zero, List.getElem?_cons_succ] at kc0 kc1 kc2 kc3 kc4
    have kb0 : ∀ O, ((V.alloc O).drew).cell? ⟨w.heap.size, 0, none⟩ = some (.int .i64 f) := fun O => (show Blk ((V.alloc O).drew) _ _ _ from HK0.out.al O).cell 0
    have kq0 : ∀ O, (V.alloc O).cell? ⟨w.heap.size, 0, none⟩ = some (.int .i64 f) := fun O => (HK0.out.al O).cell 0
    have kb1 : ∀ O, ((V.alloc O).drew).cell? ⟨w.heap.size, 1, none⟩ = some (.slice a1 n1 c1) := fun O => (show Blk ((V.alloc O).drew) _ _ _ from HK0.out.al O).cell 1
    have kq1 : ∀ O, (V.alloc O).cell? ⟨w.heap.size, 1, none⟩ = some (.slice a1 n1 c1) := fun O => (HK0.out.al O).cell 1
    have kb2 : ∀ O, ((V.alloc O).drew).cell? ⟨w.heap.size, 2, none⟩ = some (.slice a2 n2 c2) := fun O => (show Blk ((V.alloc O).drew) _ _ _ from HK0.out.al O).cell 2
    have kq2 : ∀ O, (V.alloc O).cell? ⟨w.heap.size, 2, none⟩ = some (.slice a2 n2 c2) := fun O => (HK0.out.al O).cell 2
    have kb3 : ∀ O, ((V.alloc O).drew).cell? ⟨w.heap.size, 3, none⟩ = some (.slice a3 n3 c3) := fun O => (show Blk ((V.alloc O).drew) _ _ _ from HK0.out.al O).cell 3
    have kq3 : ∀ O, (V.alloc O).cell? ⟨w.heap.size, 3, none⟩ = some (.slice a3 n3 c3) := fun O => (HK0.out.al O).cell 3
    have kb4 : ∀ O, ((V.alloc O).drew).cell? ⟨w.heap.size, 4, none⟩ = some (.int .i64 d) := fun O => (show Blk ((V.alloc O).drew) _ _ _ from HK0.out.al O).cell 4
    have kq4 : ∀ O, (V.alloc O).cell? ⟨w.heap.size, 4, none⟩ = some (.int .i64 d) := fun O => (HK0.out.al O).cell 4
    clear hk1
    have HZP : Hid (∀ X : World, Below V.heap.size V X → ∀ v0 v1 v2 v3 v4 v5, Blk ((((((X.setCell ⟨w.heap.size + 1, 0, none⟩ v0).setCell ⟨w.heap.size + 1, 1, none⟩ v1).setCell ⟨w.heap.size + 1, 2, none⟩ v2).setCell ⟨w.heap.size + 1, 3, none⟩ v3).setCell ⟨w.heap.size + 1, 4, none⟩ v4).setCell ⟨w.heap.size + 1, 5, none⟩ v5) (w.heap.size + 1) #[v0, v1, v2, v3, v4, v5] 32) := fun X h v0 v1 v2 v3 v4 v5 => (HZ0.out.below h).six6 v0 v1 v2 v3 v4 v5
    have B1 : Hid (∀ X : World, Below V.heap.size V X → ∀ (O : Obj) v0 v1 v2 v3 v4 v5, Below w.heap.size w (((((((X.setCell ⟨w.heap.size + 1, 0, none⟩ v0).setCell ⟨w.heap.size + 1, 1, none⟩ v1).setCell ⟨w.heap.size + 1, 2, none⟩ v2).setCell ⟨w.heap.size + 1, 3, none⟩ v3).setCell ⟨w.heap.size + 1, 4, none⟩ v4).setCell ⟨w.heap.size + 1, 5, none⟩ v5).alloc O)) := fun X h O v0 v1 v2 v3 v4 v5 => (below_six (HB0.out.trans (h.mono HB0.out.size)) (Nat.le_succ _) v0 v1 v2 v3 v4 v5).alloc (below_six (HB0.out.trans (h.mono HB0.out.size)) (Nat.le_succ _) v0 v1 v2 v3 v4 v5).size O
    have B2 : Hid (∀ X : World, Below V.heap.size V X → ∀ (O O' : Obj) v0 v1 v2 v3 v4 v5, Below w.heap.size w ((((((((X.setCell ⟨w.heap.size + 1, 0, none⟩ v0).setCell ⟨w.heap.size + 1, 1, none⟩ v1).setCell ⟨w.heap.size + 1, 2, none⟩ v2).setCell ⟨w.heap.size + 1, 3, none⟩ v3).setCell ⟨w.heap.size + 1, 4, none⟩ v4).setCell ⟨w.heap.size + 1, 5, none⟩ v5).alloc O).alloc O')) := fun X h O O' v0 v1 v2 v3 v4 v5 => (B1.out X h O v0 v1 v2 v3 v4 v5).alloc (B1.out X h O v0 v1 v2 v3 v4 v5).size O'
    have BA : Hid (∀ cs t, Blk ((V.alloc (.cells cs t)).drew) V.heap.size cs t) := fun cs t => (show Blk ((V.alloc (.cells cs t)).drew) _ _ _ from blk_alloc V cs t)
    go_wp2_with fail
    go_region_with (go_at_call 18; refine (H3'.out _ (by first | exact HB1d.out | exact ((Below.refl _ V).alloc (Nat.le_refl _) _).drew)).mono ?_; rintro e w3 ⟨rfl, hb⟩; have HC3 : Hid (Below _ _ w3) := hb; have HB3 : Hid (Below V.heap.size V w3) := (by first | exact HB1d.out.trans (hb.mono HB1d.out.size) | exact (((Below.refl _ V).alloc (Nat.le_refl _) _).drew).trans (hb.mono (((Below.refl _ V).alloc (Nat.le_refl _) _).drew).size)); have hz3 := HZ0.out.below HB3.out; have kdf0 := hz3.free 0; have kdf1 := hz3.free 1; have kdf2 := hz3.free 2; have kdf3 := hz3.free 3; have kdf4 := hz3.free 4; have kdf5 := hz3.free 5; have ze0 := hz3.cell 0; have ze1 := hz3.cell 1; have ze2 := hz3.cell 2; have ze3 := hz3.cell 3; have ze4 := hz3.cell 4; have ze5 := hz3.cell 5; simp only [List.getElem?_toArray, List.getElem?_cons_zero, List.getElem?_cons_succ] at ze0 ze1 ze2 ze3 ze4 ze5; have hltw : w.heap.size < w3.heap.size := Nat.lt_trans (Nat.lt_succ_self _) hz3.lt; have hk3 := HK0.out.below HB3.out; have kd0 := hk3.cell 0; have kd1 := hk3.cell 1; have kd2 := hk3.cell 2; have kd3 := hk3.cell 3; have kd4 := hk3.cell 4; simp only [List.getElem?_toArray, List.getElem?_cons_zero, List.getElem?_cons_succ] at kd0 kd1 kd2 kd3 kd4; have hltz : w.heap.size + 1 < w3.heap.size := hz3.lt; clear hb hz3 hk3)
    all_goals
      go_wp2_with fail
      go_meet
      case rel =>
        clear kc0 kc1 kc2 kc3 kc4 hmk H3'
        first
          | with_reducible exact ⟨V.heap.size, w3.heap.size, Nat.le_refl _, HB3.out.size, (((BA.out _ _).below HC3.out).six (Nat.ne_of_lt hlt1) _ _ _ _ _ _).al _, (blk_six_alloc w3 _ _ _ _ _ _ _ _ _), (B1.out _ HB3.out _ _ _ _ _ _ _), ((HZP.out _ HB3.out _ _ _ _ _ _).al _)⟩
          | with_reducible exact ⟨w3.heap.size, w3.heap.size + 1, HB3.out.size, (Nat.le_succ_of_le HB3.out.size), ((blk_six_alloc w3 _ _ _ _ _ _ _ _ _).al _), (blk_six_alloc2 w3 _ _ _ _ _ _ _ _ _ _), (B2.out _ HB3.out _ _ _ _ _ _ _ _), (((HZP.out _ HB3.out _ _ _ _ _ _).al _).al _)⟩
          | with_reducible exact ⟨w3.heap.size + 1, w3.heap.size, (Nat.le_succ_of_le HB3.out.size), HB3.out.size, (blk_six_alloc2 w3 _ _ _ _ _ _ _ _ _ _), ((blk_six_alloc w3 _ _ _ _ _ _ _ _ _).al _), (B2.out _ HB3.out _ _ _ _ _ _ _ _), (((HZP.out _ HB3.out _ _ _ _ _ _).al _).al _)⟩
  case rest =>
  obtain ⟨gR, gK, hgR, hgK, hR, hKb, hB, hz⟩ := hcut
  have HR : Hid (Blk wc gR #[.int .i64 f, .slice a1 n1 c1] 24) := hR
  have HKB : Hid (Blk wc gK (flatK (List.replicate M ⟨0, 0, false⟩)).toArray 56) := hKb
  have HB : Hid (Below w.heap.size w wc) := hB
  clear hmk H3' hR hKb hB
  have d0 := hz.cell 0
  have d1 := hz.cell 1
  have d2 := hz.cell 2
  have d3 := hz.cell 3
  have d4 := hz.cell 4
  have d5 := hz.cell 5
  simp only [List.getElem?_toArray, List.getElem?_cons_zero, List.getElem?_cons_succ] at d0 d1 d2 d3 d4 d5
  clear hz
  go_wp2
  refine bodyPost_ret (v := .agg #[.slice (some ⟨gR, 0, none⟩) 1 1, .int .i64 1, .int .i64 0, .bool false, .slice (some ⟨gK, 0, none⟩) M M, .int .i64 1]) (by simp [results, Try.results11, go_sem, d0, d1, d2, d3, d4, d5]) rfl ⟨⟨gR, gK, by rw [HQ.out], ?_, ?_, ?_⟩, HB.out⟩
  · exact Nat.le_trans HB0.out.size hgR
  · exact Nat.le_trans HB0.out.size hgK
  rw [HQ.out]
  have HPK : Keep (fun x => w0.heap.size ≤ x ∧ x ≠ gR ∧ x ≠ gK) (fun w => PinsAt w (.slice a1 n1 c1) L) wc := Keep.older HPN.out (pins_stab _ _) (fun b h => h.1) (HW0.out.trans (HB.out.mono HW0.out.size))
  exact keep_fresh HR.out HKB.out HPK (fun h => h.2.1 rfl) (fun h => h.2.2 rfl) hM
end Go.Proofs.Ytcnnejndmafniaa
/- The contract of the document's GoalOf, its slice fixed. -/
namespace Go.Proofs.Ytcnnejndmafniaa
open Go.RowKit
set_option maxHeartbeats 4000000 in
theorem goalR_fix (cf : Ld.Config) (ld : Ld.Leader) (Y Z : Value) (w : World) (hL : LdAt w ld Y Z) (hc : Ld.chkLeader cf ld = 0) (hg : ld.goal ≠ 0) :
    ∃ y, PinsAt w y (Ld.goalOf ld).2 ∧ ∀ wv, Below w.heap.size w wv → Calls Try.prog 22 #[leV ld Y Z] wv fun e w' => e = .returned (relV (Ld.goalOf ld).1 y) ∧ Below wv.heap.size wv w' := by
  obtain ⟨j, hj, he, hgo, h12, h6⟩ := turn_at hc hg
  rw [hgo]
  obtain ⟨a4, c4, rfl⟩ := relA_slice hL.1
  obtain ⟨a5, c5, rfl⟩ := knows_slice hL.2
  obtain ⟨b, o, v, rfl, hbw, g1, g2, hP⟩ := relA_at hL.1 hj
  obtain ⟨rs, nw, g, bk, ks, nx⟩ := ld
  obtain ⟨a, c, rfl⟩ := pins_slice hP
  have HP : Hid (PinsAt w (.slice a (rs.getD j (0, [])).2.length c) (rs.getD j (0, [])).2) := hP
  simp only at hj he h6 g1 g2
  clear hL hP hc hgo h12
  unfold leV leC relV
  simp only
  generalize rs.getD j (0, []) = p at g1 g2 HP
  obtain ⟨i, l⟩ := p
  simp only at g1 g2 HP ⊢
  refine ⟨.slice a l.length c, HP.out, fun wv hwv => ?_⟩
  have g1 := (hwv.cell (p := ⟨b, o + j * 2, none⟩) hbw).trans g1
  have g2 := (hwv.cell (p := ⟨b, o + j * 2 + 1, none⟩) hbw).trans g2
  have hbw := Nat.lt_of_lt_of_le hbw hwv.size
  clear HP hwv
  generalize ks.length = n5
  obtain ⟨hB0, hK0, hZ0⟩ := box2 wv #[.slice (some ⟨b, o, none⟩) rs.length c4, .int .i64 nw, .int .i64 g, .bool bk, .slice a5 n5 c5, .int .i64 nx] #[.int .i64 0, .slice none 0 0] 32 24
  have kl0 := hK0.cell 0
  have kl1 := hK0.cell 1
  have kl2 := hK0.cell 2
  have kl3 := hK0.cell 3
  simp only [List.getElem?_toArray, List.getElem?_cons_zero, List.getElem?_cons_succ] at kl0 kl1 kl2 kl3
  have kz0 := hZ0.cell 0
  have kz1 := hZ0.cell 1
  simp only [List.getElem?_toArray, List.getElem?_cons_zero, List.getElem?_cons_succ] at kz0 kz1
  have kzf0 := hZ0.free 0
  have kzf1 := hZ0.free 1
  have q1 := (hB0.cell (p := ⟨b, o + j * 2, none⟩) hbw).trans g1
  have q2 := (hB0.cell (p := ⟨b, o + j * 2 + 1, none⟩) hbw).trans g2
  have HB0 : Hid (Below wv.heap.size wv ((wv.alloc (.cells #[.slice (some ⟨b, o, none⟩) rs.length c4, .int .i64 nw, .int .i64 g, .bool bk, .slice a5 n5 c5, .int .i64 nx] 32)).alloc (.cells #[.int .i64 0, .slice none 0 0] 24))) := hB0
  have HZ0 : Hid (Blk ((wv.alloc (.cells #[.slice (some ⟨b, o, none⟩) rs.length c4, .int .i64 nw, .int .i64 g, .bool bk, .slice a5 n5 c5, .int .i64 nx] 32)).alloc (.cells #[.int .i64 0, .slice none 0 0] 24)) (wv.heap.size + 1) #[.int .i64 0, .slice none 0 0] 24) := hZ0
  have hjn : (j : Int) < rs.length := by omega
  have hj0 : (0 : Int) ≤ j := by omega
  have hrs : (rs.length : Int) ≤ 6 := by omega
  go_enter Try.func22, Try.ntmps22
  go_upto_region 1 with fail
  generalize ((wv.alloc (.cells #[.slice (some ⟨b, o, none⟩) rs.length c4, .int .i64 nw, .int .i64 g, .bool bk, .slice a5 n5 c5, .int .i64 nx] 32)).alloc (.cells #[.int .i64 0, .slice none 0 0] 24)) = V at *
  clear hB0 hK0 hZ0 g1 g2
  cases bk
  · have e1 : g - 1 = (j : Int) := by simpa using he
    have e2 : g = (j : Int) + 1 := by omega
    clear he e1 hg
    subst e2
    go_wp2
    have hbf := (HB0.out.setCell (p := ⟨wv.heap.size + 1, 0, none⟩) (Nat.le_succ _) (.int .i64 i)).setCell (p := ⟨wv.heap.size + 1, 1, none⟩) (Nat.le_succ _) (.slice a l.length c)
    exact bodyPost_ret (v := .agg #[.int .i64 i, .slice a l.length c]) (by simp [results, Try.results22, go_sem, kz0, kz1]) rfl ⟨rfl, hbf⟩
  · have e1 : nw - 1 = (j : Int) := by simpa using he
    have e2 : nw = (j : Int) + 1 := by omega
    clear he e1 hg
    subst e2
    go_wp2
    have hbf := (HB0.out.setCell (p := ⟨wv.heap.size + 1, 0, none⟩) (Nat.le_succ _) (.int .i64 i)).setCell (p := ⟨wv.heap.size + 1, 1, none⟩) (Nat.le_succ _) (.slice a l.length c)
    exact bodyPost_ret (v := .agg #[.int .i64 i, .slice a l.length c]) (by simp [results, Try.results22, go_sem, kz0, kz1]) rfl ⟨rfl, hbf⟩
end Go.Proofs.Ytcnnejndmafniaa
