import Derived.Test.YtmlhipdfjnamiaaGreatMH
import Derived.Deep.CutBlock
/- The contracts of the document's AgentsOf, Counted and GoalOf. -/
namespace Go.Proofs.YtmlhipdfjnamiaaGreat
open Go.RowKit
/-- how many agents the document counts: 7 of more than six -/
def agR (c : Ld.Config) : Nat := if Ld.many c ≤ 6 then Ld.many c else 7
theorem agR_chk (c : Ld.Config) : Wv.chk c.waves (agR c) = Wv.chk c.waves (Ld.many c) := by
  unfold agR
  by_cases h : Ld.many c ≤ 6
  · rw [if_pos h]
  · rw [if_neg h]; unfold Wv.chk; rw [if_neg (by omega), if_neg (by omega)]
theorem agR_ok {c : Ld.Config} (h : Ld.chkConfig c = 0) : agR c = Ld.many c := by
  unfold agR; rw [if_pos (Ld.agents_ok h).2.1]
theorem agR_agents (c : Ld.Config) : Ld.agents c = agR c ∨ (7 ≤ Ld.agents c ∧ 7 ≤ agR c) := by
  unfold agR
  rcases Ld.agents_eq c with e | ⟨e1, e2⟩
  · by_cases h : Ld.many c ≤ 6
    · left; rw [if_pos h]; exact e
    · right; rw [if_neg h]; omega
  · right; rw [if_neg (by omega)]; omega
set_option maxHeartbeats 4000000 in
theorem agR_any (cf : Ld.Config) (A B D : Value) (w : World) (hC : CfAt w cf A B D) :
    Calls Tryz.prog 52 #[cfV cf A B D] w fun e w' => e = .returned (.int .i64 (agR cf)) ∧ Below w.heap.size w w' := by
  obtain ⟨f, L, R, W, d⟩ := cf
  obtain ⟨a1, c1, rfl⟩ := pins_slice hC.1
  obtain ⟨a2, c2, rfl⟩ := rules_slice hC.2.1
  obtain ⟨a3, c3, rfl⟩ := waves_slice hC.2.2
  obtain ⟨hB0, hK0⟩ := box1 w #[.int .i64 f, .slice a1 L.length c1, .slice a2 R.length c2, .slice a3 W.length c3, .int .i64 d] 28
  have HS7 : Hid (6 < W.flatten.length → agR ⟨f, L, R, W, d⟩ = 7) := fun h => by unfold agR Ld.many; rw [if_neg (by simp only []; omega)]
  have HS : Hid (W.flatten.length ≤ 6 → agR ⟨f, L, R, W, d⟩ = W.flatten.length) := fun h => by unfold agR Ld.many; rw [if_pos h]
  obtain ⟨hll, A3, b, o, c3', e3, -, hA, hCc⟩ := hC.2.2
  simp only [Value.slice.injEq] at e3
  obtain ⟨rfl, -, rfl⟩ := e3
  have HA : Hid (0 < W.length → a3 = some ⟨b, o, none⟩ ∧ b < w.heap.size) := hA
  have HC : Hid (∀ j, j < W.length → ∃ u, w.cell? ⟨b, o + j, none⟩ = some u ∧ IntsAt w u (W.getD j [])) := hCc
  unfold cfV cfC
  simp only
  generalize agR ⟨f, L, R, W, d⟩ = Q at HS HS7 ⊢
  have HB0 : Hid (Below w.heap.size w (w.alloc (.cells #[.int .i64 f, .slice a1 L.length c1, .slice a2 R.length c2, .slice a3 W.length c3, .int .i64 d] 28))) := hB0
  have k2 := hK0.cell 3
  simp only [List.getElem?_toArray, List.getElem?_cons_zero, List.getElem?_cons_succ] at k2
  clear hC hA hCc hB0 hK0
  generalize L.length = n1 at *
  generalize R.length = n2 at *
  go_enter Tryz.func52, Tryz.ntmps52
  go_wp2
  go_loopg [3, 9] W.length (fun g s3 s9 wr => ∃ k s : Nat, k ≤ W.length ∧ W.length - k ≤ g ∧ s3 = .int .i64 s ∧ s9 = .int .i64 k ∧ s ≤ 6 ∧ Hid (s + (W.drop k).flatten.length = W.flatten.length) ∧ wr = (w.alloc (.cells #[.int .i64 f, .slice a1 n1 c1, .slice a2 n2 c2, .slice a3 W.length c3, .int .i64 d] 28)))
  case atStart => exact ⟨0, 0, Nat.zero_le _, by omega, rfl, rfl, by omega, Nat.zero_add _, rfl⟩
  case round =>
    obtain ⟨k, s, hk, hg, rfl, rfl, hs, H, rfl⟩ := hrel
    by_cases hlt : k < W.length
    rotate_left
    · have hk' : k = W.length := by omega
      have HE : Hid (Q = s) := by
        have := H.out
        rw [hk', List.drop_length, List.flatten_nil, List.length_nil, Nat.add_zero] at this
        exact (HS.out (by omega)).trans this.symm
      subst hk'
      clear hk hlt HA HC H HS HS7
      go_wp2
      go_ret
      exact ⟨by rw [HE.out]; rfl, HB0.out⟩
    obtain ⟨rfl, hbw⟩ := HA.out (by omega)
    obtain ⟨u, hu, hI⟩ := HC.out k hlt
    obtain ⟨hlm, B2, b2, o2, c2', rfl, -, -, -⟩ := hI
    rw [← HB0.out.cell (p := ⟨b, _, none⟩) hbw] at hu
    have hd := H.out
    rw [dropL W [] k hlt, List.flatten_cons, List.length_append] at hd
    have HD : Hid (s + ((W.getD k []).length + (W.drop (k + 1)).flatten.length) = W.flatten.length) := hd
    generalize (W.getD k []).length = m at hlm hu HD
    clear HA HC hd H
    go_wp2
    go_loopg [3, 15] m (fun g2 s3 s15 wr => ∃ j : Nat, j ≤ m ∧ m - j ≤ g2 ∧ s3 = .int .i64 ((s + j : Nat) : Int) ∧ s15 = .int .i64 j ∧ s + j ≤ 6 ∧ wr = (w.alloc (.cells #[.int .i64 f, .slice a1 n1 c1, .slice a2 n2 c2, .slice (some ⟨b, o, none⟩) W.length c3, .int .i64 d] 28)))
    case atStart => exact ⟨0, Nat.zero_le _, by omega, rfl, rfl, by omega, rfl⟩
    case round =>
      obtain ⟨j, hj, hgj, rfl, rfl, hs6, rfl⟩ := hrel
      by_cases hjm : j < m
      rotate_left
      · have hj' : j = m := by omega
        subst hj'
        have HE : Hid ((s + j) + (W.drop (k + 1)).flatten.length = W.flatten.length) := by have := HD.out; show _ = _; omega
        clear HD hjm
        go_wp2
        go_roundg (W.length - (k + 1))
        case measure => omega
        case rel => exact ⟨k + 1, s + j, by omega, by omega, rfl, by go_num, by omega, HE, rfl⟩
      by_cases h6 : s + j + 1 > 6
      · have HE : Hid (Q = 7) := HS7.out (by have := HD.out; omega)
        have hs5 : s + j = 6 := by omega
        have hjm' : (j : Int) < m := by omega
        clear HD HS HS7 h6
        rw [hs5]
        go_wp2
        go_ret
        exact ⟨by rw [HE.out]; rfl, HB0.out⟩
      · have h6' : decide ((6 : Int) < ((s + j : Nat) : Int) + 1) = false := decide_eq_false (by omega)
        have hjm' : (j : Int) < m := by omega
        have hsj : ((s + j : Nat) : Int) ≤ 5 := by omega
        generalize hq : s + j = q at *
        clear HD h6
        go_wp2
        go_roundg (m - (j + 1))
        case measure => omega
        case rel => exact ⟨j + 1, by omega, by omega, by rw [← Nat.add_assoc, hq]; go_num, by go_num, by omega, rfl⟩
set_option maxHeartbeats 4000000 in
theorem countR_any (ld : Ld.Leader) (Y Z : Value) (s : Int) (w : World) (hL : LdAt w ld Y Z) :
    Calls Tryz.prog 61 #[leV ld Y Z, .int .i64 s] w fun e w' => e = .returned (.int .i64 (Ld.count ld s)) ∧ Below w.heap.size w w' := by
  obtain ⟨rs, nw, g, bk, ks, nx⟩ := ld
  obtain ⟨a4, c4, rfl⟩ := relA_slice hL.1
  obtain ⟨a5, c5, rfl⟩ := knows_slice hL.2
  have HL : Hid (KnowsAt w (.slice a5 ks.length c5) ks) := hL.2
  have hlen := hL.2.1
  have HQ : Hid (Ld.count ⟨rs, nw, g, bk, ks, nx⟩ s = (ks.filter fun a => a.st == s).length) := rfl
  clear hL
  unfold leV leC
  simp only
  generalize Ld.count ⟨rs, nw, g, bk, ks, nx⟩ s = Q at HQ ⊢
  generalize rs.length = n4
  obtain ⟨hB0, hK0⟩ := box1 w #[.slice a4 n4 c4, .int .i64 nw, .int .i64 g, .bool bk, .slice a5 ks.length c5, .int .i64 nx] 32
  have k4 := hK0.cell 4
  simp only [List.getElem?_toArray, List.getElem?_cons_zero, List.getElem?_cons_succ] at k4
  have HB0 : Hid (Below w.heap.size w _) := hB0
  clear hB0 hK0
  go_enter Tryz.func61, Tryz.ntmps61
  go_wp2
  go_loopg [5, 11] ks.length (fun g' s5 s11 wr => ∃ k n : Nat, k ≤ ks.length ∧ ks.length - k ≤ g' ∧ n ≤ k ∧ s5 = .int .i64 n ∧ s11 = .int .i64 k ∧ Hid (n + ((ks.drop k).filter fun a => a.st == s).length = (ks.filter fun a => a.st == s).length) ∧ Hid (Below w.heap.size w wr))
  case atStart => exact ⟨0, 0, Nat.zero_le _, by omega, by omega, rfl, rfl, (by show _ = _; simp), HB0⟩
  case round =>
    obtain ⟨k, n, hk, hg, hn, rfl, rfl, H, HB⟩ := hrel
    clear k4 HB0
    by_cases hlt : k < ks.length
    · obtain ⟨b, o, rfl, hbw, g1, g2, g3⟩ := knows_at (HL.out.below HB.out) hlt
      have hc := count_step hlt s n
      rw [H.out] at hc
      have HH : Hid ((n + if ((ks.getD k ⟨0, 0, false⟩).st == s) = true then 1 else 0) + ((ks.drop (k + 1)).filter fun a => a.st == s).length = (ks.filter fun a => a.st == s).length) := hc.symm
      clear hc H
      generalize ks.getD k ⟨0, 0, false⟩ = p at g1 g2 g3 HH
      obtain ⟨st, t, bb⟩ := p
      simp only at g1 g2 g3
      have HB1 : Hid (∀ O, Below w.heap.size w (wr.alloc O)) := fun O => HB.out.alloc HB.out.size O
      have hkl : (ks.length : Int) ≤ 140737488355328 := by omega
      clear HB
      by_cases h3 : st = s
      · subst h3
        have HN : Hid ((n + 1) + ((ks.drop (k + 1)).filter fun a => a.st == st).length = (ks.filter fun a => a.st == st).length) := by
          have := HH.out
          rw [if_pos (by simp)] at this
          exact this
        clear HH
        go_wp2
        go_roundg (ks.length - (k + 1))
        case measure => omega
        case rel => exact ⟨k + 1, n + 1, by omega, by omega, by omega, by go_num, by go_num, HN, HB1.out _⟩
      · have h3' : (st == s) = false := by simpa using h3
        have HN : Hid (n + ((ks.drop (k + 1)).filter fun a => a.st == s).length = (ks.filter fun a => a.st == s).length) := by
          have := HH.out
          rw [if_neg (by simpa using h3)] at this
          exact this
        clear HH h3
        go_wp2
        go_roundg (ks.length - (k + 1))
        case measure => omega
        case rel => exact ⟨k + 1, n, by omega, by omega, by omega, rfl, by go_num, HN, HB1.out _⟩
    · have hk' : k = ks.length := by omega
      have HN : Hid ((ks.filter fun a => a.st == s).length = n) := by
        have := H.out
        rw [hk', List.drop_length] at this
        exact this.symm
      subst hk'
      clear hk hlt H
      go_wp2
      go_ret
      exact ⟨by rw [HQ.out, HN.out]; rfl, HB.out⟩
end Go.Proofs.YtmlhipdfjnamiaaGreat
/- The contracts of the document's CheckConfig and SameLeader. -/
namespace Go.Proofs.YtmlhipdfjnamiaaGreat
open Go.RowKit
set_option maxHeartbeats 8000000 in
set_option maxRecDepth 100000 in
theorem sameLR_any (la lb : Ld.Leader) (Y Z Y2 Z2 : Value) (w : World) (hA : LdAt w la Y Z) (hB : LdAt w lb Y2 Z2) :
    Calls Tryz.prog 8 #[leV la Y Z, leV lb Y2 Z2] w fun e w' => e = .returned (.bool (Ld.sameLeader la lb)) ∧ Below w.heap.size w w' := by
  have HE : Hid (∀ w', Below w.heap.size w w' → Calls Tryz.prog 27 #[Y, Y2, .func (.func 28) #[] #[]] w' fun e w'' => e = .returned (.bool (Ld.sameRels la.rels lb.rels)) ∧ Below w'.heap.size w' w'') := fun w' hb => by
    obtain ⟨ps, h1, h2⟩ := hA.1.below hb
    obtain ⟨qs, h3, h4⟩ := hB.1.below hb
    have := equalFL_any 28 (fun _ _ => by simp [go_sem]) (fun x y => Lk.alike x.1 x.2 y.1 y.2) (fun r q v u w h h' => alikeR_any r.1 q.1 v u r.2 q.2 w h h') Y Y2 ps qs w' h1 h3
    rwa [all2r_rels, h2, h4] at this
  have HK : Hid (∀ w', Below w.heap.size w w' → Calls Tryz.prog 29 #[Z, Z2] w' fun e w'' => e = .returned (.bool (decide (la.ags = lb.ags))) ∧ Below w'.heap.size w' w'') := fun w' hb => equalK_any Z Z2 _ _ w' (hA.2.below hb) (hB.2.below hb)
  obtain ⟨rs, w1, g1, k1, ks, x1⟩ := la
  obtain ⟨rs2, w2, g2, k2, ks2, x2⟩ := lb
  obtain ⟨a4, c4, rfl⟩ := relA_slice hA.1
  obtain ⟨a5, c5, rfl⟩ := knows_slice hA.2
  obtain ⟨b4, e4, rfl⟩ := relA_slice hB.1
  obtain ⟨b5, e5, rfl⟩ := knows_slice hB.2
  have HS : Hid (Ld.sameLeader ⟨rs, w1, g1, k1, ks, x1⟩ ⟨rs2, w2, g2, k2, ks2, x2⟩ = (Ld.sameRels rs rs2 && w1 == w2 && g1 == g2 && k1 == k2 && decide (ks = ks2) && x1 == x2)) := rfl
  clear hA hB
  unfold leV leC
  simp only at HE HK HS ⊢
  generalize Ld.sameLeader ⟨rs, w1, g1, k1, ks, x1⟩ ⟨rs2, w2, g2, k2, ks2, x2⟩ = SS at HS ⊢
  generalize Ld.sameRels rs rs2 = SR at HS HE
  generalize decide (ks = ks2) = SK at HS HK
  generalize rs.length = n4 at HE ⊢
  generalize rs2.length = m4 at HE ⊢
  generalize ks.length = n5 at HK ⊢
  generalize ks2.length = m5 at HK ⊢
  obtain ⟨hB0, hK0, hK1⟩ := box2 w #[.slice a4 n4 c4, .int .i64 w1, .int .i64 g1, .bool k1, .slice a5 n5 c5, .int .i64 x1] #[.slice b4 m4 e4, .int .i64 w2, .int .i64 g2, .bool k2, .slice b5 m5 e5, .int .i64 x2] 32 32
  have p0 := hK0.cell 0
  have p1 := hK0.cell 1
  have p2 := hK0.cell 2
  have p3 := hK0.cell 3
  have p4 := hK0.cell 4
  have p5 := hK0.cell 5
  simp only [List.getElem?_toArray, List.getElem?_cons_zero, List.getElem?_cons_succ] at p0 p1 p2 p3 p4 p5
  have q0 := hK1.cell 0
  have q1 := hK1.cell 1
  have q2 := hK1.cell 2
  have q3 := hK1.cell 3
  have q4 := hK1.cell 4
  have q5 := hK1.cell 5
  simp only [List.getElem?_toArray, List.getElem?_cons_zero, List.getElem?_cons_succ] at q0 q1 q2 q3 q4 q5
  have HB0 : Hid (Below w.heap.size w _) := hB0
  have HK1 : Hid (Blk _ w.heap.size _ _) := hK0
  have HK2 : Hid (Blk _ (w.heap.size + 1) _ _) := hK1
  clear hB0 hK0 hK1
  go_enter Tryz.func8, Tryz.ntmps8
  go_wp2_with fail
  generalize ((w.alloc (.cells #[.slice a4 n4 c4, .int .i64 w1, .int .i64 g1, .bool k1, .slice a5 n5 c5, .int .i64 x1] 32)).alloc (.cells #[.slice b4 m4 e4, .int .i64 w2, .int .i64 g2, .bool k2, .slice b5 m5 e5, .int .i64 x2] 32)) = W at *
  refine (HE.out _ HB0.out).mono ?_
  rintro e y1 ⟨rfl, hb1⟩
  have HB1 : Hid (Below w.heap.size w y1) := HB0.out.trans (hb1.mono HB0.out.size)
  have hk1 := HK1.out.below hb1
  have hk2 := HK2.out.below hb1
  clear hb1 HB0 HE HK1 HK2 p0 p1 p2 p3 p4 p5 q0 q1 q2 q3 q4 q5
  have p1 := hk1.cell 1
  have p2 := hk1.cell 2
  have p3 := hk1.cell 3
  have p4 := hk1.cell 4
  have p5 := hk1.cell 5
  simp only [List.getElem?_toArray, List.getElem?_cons_zero, List.getElem?_cons_succ] at p1 p2 p3 p4 p5
  have q1 := hk2.cell 1
  have q2 := hk2.cell 2
  have q3 := hk2.cell 3
  have q4 := hk2.cell 4
  have q5 := hk2.cell 5
  simp only [List.getElem?_toArray, List.getElem?_cons_zero, List.getElem?_cons_succ] at q1 q2 q3 q4 q5
  have HK1 : Hid (Blk y1 w.heap.size _ _) := hk1
  have HK2 : Hid (Blk y1 (w.heap.size + 1) _ _) := hk2
  clear hk1 hk2
  generalize hv1 : (w1 == w2) = v1 at HS
  generalize hv2 : (g1 == g2) = v2 at HS
  generalize hv3 : (k1 == k2) = v3 at HS
  cases SR
  · have HN : Hid (SS = false) := by show _ = _; rw [HS.out]; simp
    clear HS HK HK1 HK2
    go_wp2
    go_ret
    exact ⟨by rw [HN.out]; rfl, HB1.out⟩
  cases v1
  · have HN : Hid (SS = false) := by show _ = _; rw [HS.out]; simp
    clear HS HK HK1 HK2
    go_wp2
    go_ret
    exact ⟨by rw [HN.out]; rfl, HB1.out⟩
  cases v2
  · have HN : Hid (SS = false) := by show _ = _; rw [HS.out]; simp
    clear HS HK HK1 HK2
    go_wp2
    go_ret
    exact ⟨by rw [HN.out]; rfl, HB1.out⟩
  cases v3
  · have HN : Hid (SS = false) := by show _ = _; rw [HS.out]; simp
    clear HS HK HK1 HK2
    go_wp2
    go_ret
    exact ⟨by rw [HN.out]; rfl, HB1.out⟩
  have HN : Hid (SS = (SK && (x1 == x2))) := by show _ = _; rw [HS.out]; simp
  clear HS
  go_wp2_with fail
  refine (HK.out _ HB1.out).mono ?_
  rintro e y2 ⟨rfl, hb2⟩
  have HB2 : Hid (Below w.heap.size w y2) := HB1.out.trans (hb2.mono HB1.out.size)
  have r5 := (HK1.out.below hb2).cell 5
  have s5 := (HK2.out.below hb2).cell 5
  simp only [List.getElem?_toArray, List.getElem?_cons_zero, List.getElem?_cons_succ] at r5 s5
  clear hb2 HK HB1 HK1 HK2
  cases SK
  · go_wp2
    go_ret
    exact ⟨by rw [HN.out]; rfl, HB2.out⟩
  · go_wp2
    go_ret
    exact ⟨by rw [HN.out]; simp, HB2.out⟩

theorem conf_out {x1 e k wq : Int} {f d : Int} (h : ¬ (f = 1 ∧ Lk.within d 0 3 = true)) (hx : x1 = 0) : (if x1 = 0 then (if f = 1 ∧ Lk.within d 0 3 = true then (if (if e = 0 then (if 0 ≤ k then 8 else 0) else e) = 0 then wq else (if e = 0 then (if 0 ≤ k then 8 else 0) else e)) else 3) else x1) = 3 := by rw [if_pos hx, if_neg h]
set_option maxHeartbeats 8000000 in
set_option maxRecDepth 100000 in
theorem ckConfR_any (cf : Ld.Config) (A B D : Value) (w : World) (hC : CfAt w cf A B D) :
    Calls Tryz.prog 31 #[cfV cf A B D] w fun e w' => e = .returned (.int .i64 (Ld.chkConfig cf)) ∧ Below w.heap.size w w' := by
  have HQ : Hid (Ld.chkConfig cf = if Lk.chkRel cf.fid cf.flock = 0 then (if cf.fid = 1 ∧ Lk.within cf.budget 0 3 = true then (if (if Rk.brokenErr cf.flock cf.rules = 0 then (if 0 ≤ Rk.broken cf.flock cf.rules then 8 else 0) else Rk.brokenErr cf.flock cf.rules) = 0 then Wv.chk cf.waves (agR cf) else (if Rk.brokenErr cf.flock cf.rules = 0 then (if 0 ≤ Rk.broken cf.flock cf.rules then 8 else 0) else Rk.brokenErr cf.flock cf.rules)) else 3) else Lk.chkRel cf.fid cf.flock) := by
    show _ = _
    unfold Ld.chkConfig Ld.ruled
    rw [agR_chk]
  have HRl : Hid (∀ w', Below w.heap.size w w' → Calls Tryz.prog 55 #[relV cf.fid A] w' fun e w'' => e = .returned (.int .i64 (Lk.chkRel cf.fid cf.flock)) ∧ Below w'.heap.size w' w'') := fun w' hb => releaseR_any cf.fid A cf.flock w' (hC.1.below hb)
  have HFB : Hid (∀ w', Below w.heap.size w w' → Calls Tryz.prog 19 #[A, B] w' fun e w'' => e = .returned (.tuple #[.int .i64 (Rk.broken cf.flock cf.rules), .int .i64 (Rk.brokenErr cf.flock cf.rules)]) ∧ Below w'.heap.size w' w'') := fun w' hb => fbroken_any A B cf.flock cf.rules w' (hC.1.below hb) (hC.2.1.below hb)
  have HAG : Hid (∀ w', Below w.heap.size w w' → Calls Tryz.prog 52 #[cfV cf A B D] w' fun e w'' => e = .returned (.int .i64 (agR cf)) ∧ Below w'.heap.size w' w'') := fun w' hb => agR_any cf A B D w' (hC.below hb)
  have HCW : Hid (∀ w', Below w.heap.size w w' → Calls Tryz.prog 67 #[D, .int .i64 (agR cf)] w' fun e w'' => e = .returned (.int .i64 (Wv.chk cf.waves (agR cf))) ∧ Below w'.heap.size w' w'') := fun w' hb => checkWR_any D cf.waves (agR cf) w' (hC.2.2.below hb)
  obtain ⟨f, L, R, W, d⟩ := cf
  obtain ⟨a1, c1, rfl⟩ := pins_slice hC.1
  obtain ⟨a2, c2, rfl⟩ := rules_slice hC.2.1
  obtain ⟨a3, c3, rfl⟩ := waves_slice hC.2.2
  unfold cfV cfC at HAG
  unfold relV at HRl
  unfold cfV cfC
  simp only at HQ HRl HFB HAG HCW ⊢
  clear hC
  generalize Ld.chkConfig ⟨f, L, R, W, d⟩ = Q at HQ ⊢
  generalize Lk.chkRel f L = X1 at HQ HRl
  generalize Rk.brokenErr L R = E at HQ HFB
  generalize Rk.broken L R = K at HQ HFB
  generalize Wv.chk W (agR ⟨f, L, R, W, d⟩) = WQ at HQ HCW
  generalize agR ⟨f, L, R, W, d⟩ = M at HAG HCW
  generalize L.length = n1 at *
  generalize R.length = n2 at *
  generalize W.length = n3 at *
  obtain ⟨hB0, hK0⟩ := box1 w #[.int .i64 f, .slice a1 n1 c1, .slice a2 n2 c2, .slice a3 n3 c3, .int .i64 d] 28
  have HB0 : Hid (Below w.heap.size w (w.alloc (.cells #[.int .i64 f, .slice a1 n1 c1, .slice a2 n2 c2, .slice a3 n3 c3, .int .i64 d] 28))) := hB0
  have HK0 : Hid (Blk (w.alloc (.cells #[.int .i64 f, .slice a1 n1 c1, .slice a2 n2 c2, .slice a3 n3 c3, .int .i64 d] 28)) w.heap.size #[.int .i64 f, .slice a1 n1 c1, .slice a2 n2 c2, .slice a3 n3 c3, .int .i64 d] 28) := hK0
  have k00 := hK0.cell 0
  have k01 := hK0.cell 1
  have k02 := hK0.cell 2
  have k03 := hK0.cell 3
  have k04 := hK0.cell 4
  simp only [List.getElem?_toArray, List.getElem?_cons_zero, List.getElem?_cons_succ] at k00 k01 k02 k03 k04
  go_enter Tryz.func31, Tryz.ntmps31
  go_wp2_with fail
  generalize (w.alloc (.cells #[.int .i64 f, .slice a1 n1 c1, .slice a2 n2 c2, .slice a3 n3 c3, .int .i64 d] 28)) = V at *
  clear hB0 hK0
  refine (HRl.out _ HB0.out).mono ?_
  rintro e w1 ⟨rfl, hb1⟩
  have HB1 : Hid (Below w.heap.size w w1) := HB0.out.trans (hb1.mono HB0.out.size)
  have HK1 : Hid (Blk w1 w.heap.size #[.int .i64 f, .slice a1 n1 c1, .slice a2 n2 c2, .slice a3 n3 c3, .int .i64 d] 28) := HK0.out.below hb1
  clear hb1 HB0 HK0 HRl k00 k01 k02 k03 k04
  have k10 := HK1.out.cell 0
  have k11 := HK1.out.cell 1
  have k12 := HK1.out.cell 2
  have k13 := HK1.out.cell 3
  have k14 := HK1.out.cell 4
  simp only [List.getElem?_toArray, List.getElem?_cons_zero, List.getElem?_cons_succ] at k10 k11 k12 k13 k14
  by_cases x1 : X1 = 0
  rotate_left
  · have HE : Hid (Q = X1) := by rw [HQ.out, if_neg x1]; rfl
    have x1' : (X1 != 0) = true := by rw [bne_iff_ne]; exact x1
    clear x1 HQ HFB HAG HCW
    go_wp2
    go_ret
    exact ⟨by rw [HE.out]; rfl, HB1.out⟩
  subst x1
  by_cases xf : f = 1
  rotate_left
  · have HE : Hid (Q = 3) := by rw [HQ.out]; exact conf_out (fun h => xf h.1) rfl
    have xf' : (f != 1) = true := by rw [bne_iff_ne]; exact xf
    clear xf HQ HFB HAG HCW
    go_wp2
    go_ret
    exact ⟨by rw [HE.out]; rfl, HB1.out⟩
  subst xf
  by_cases d0 : 0 ≤ d
  rotate_left
  · have HE : Hid (Q = 3) := by rw [HQ.out]; exact conf_out (fun h => d0 (by simpa [Lk.within] using h.2 : 0 ≤ d ∧ d ≤ 3).1) rfl
    have d0' : decide (0 ≤ d) = false := decide_eq_false d0
    clear d0 HQ HFB HAG HCW
    go_wp2_with go_in
    go_ret
    exact ⟨by rw [HE.out]; rfl, HB1.out⟩
  have d0' : decide (0 ≤ d) = true := decide_eq_true d0
  by_cases d3 : d ≤ 3
  rotate_left
  · have HE : Hid (Q = 3) := by rw [HQ.out]; exact conf_out (fun h => d3 (by simpa [Lk.within] using h.2 : 0 ≤ d ∧ d ≤ 3).2) rfl
    have d3' : decide (d ≤ 3) = false := decide_eq_false d3
    clear d0 d3 HQ HFB HAG HCW
    go_wp2_with go_in
    go_ret
    exact ⟨by rw [HE.out]; rfl, HB1.out⟩
  have d3' : decide (d ≤ 3) = true := decide_eq_true d3
  have HQ2 : Hid (Q = if (if E = 0 then (if 0 ≤ K then 8 else 0) else E) = 0 then WQ else (if E = 0 then (if 0 ≤ K then 8 else 0) else E)) := by
    rw [HQ.out, if_pos rfl, if_pos ⟨rfl, by simp [Lk.within, d0, d3]⟩]; rfl
  clear HQ d0 d3
  go_wp2_with (first | fail | (go_at_call 51; go_in))
  refine (HFB.out _ HB1.out).mono ?_
  rintro e w2 ⟨rfl, hb2⟩
  have HB2 : Hid (Below w.heap.size w w2) := HB1.out.trans (hb2.mono HB1.out.size)
  have HK2 : Hid (Blk w2 w.heap.size #[.int .i64 1, .slice a1 n1 c1, .slice a2 n2 c2, .slice a3 n3 c3, .int .i64 d] 28) := HK1.out.below hb2
  clear hb2 HB1 HK1 HFB k10 k11 k12 k13 k14
  by_cases xe : E = 0
  rotate_left
  · have HE : Hid (Q = E) := by rw [HQ2.out, if_neg xe, if_neg xe]; rfl
    have xe1 : (E == 0) = false := by simpa using xe
    have xe2 : (E != 0) = true := by rw [bne_iff_ne]; exact xe
    clear xe HQ2 HAG HCW
    go_wp2
    go_ret
    exact ⟨by rw [HE.out]; rfl, HB2.out⟩
  subst xe
  by_cases xk : 0 ≤ K
  · have HE : Hid (Q = 8) := by rw [HQ2.out, if_pos rfl, if_pos xk]; rfl
    have xk' : decide (0 ≤ K) = true := decide_eq_true xk
    clear xk HQ2 HAG HCW
    go_wp2
    go_ret
    exact ⟨by rw [HE.out]; rfl, HB2.out⟩
  have HE : Hid (Q = WQ) := by rw [HQ2.out, if_pos rfl, if_neg xk, if_pos rfl]; rfl
  have xk' : decide (0 ≤ K) = false := decide_eq_false xk
  clear xk HQ2
  go_upto_region 11 with fail
  have cl1 := fun (d' : Nat) (os : Array Obj) => Calls.regrown_of (HAG.out (Sort.grow (redrawn w2 d') os) (HB2.out.trans ((below_regrown w2 d' os).mono HB2.out.size)))
  have cl2 := fun (d' : Nat) (os : Array Obj) => Calls.regrown_of (HCW.out (Sort.grow (redrawn w2 d') os) (HB2.out.trans ((below_regrown w2 d' os).mono HB2.out.size)))
  have k20 := cell_regrown (show _ = some _ from HK2.out.cell 0)
  have k21 := cell_regrown (show _ = some _ from HK2.out.cell 1)
  have k22 := cell_regrown (show _ = some _ from HK2.out.cell 2)
  have k23 := cell_regrown (show _ = some _ from HK2.out.cell 3)
  have k24 := cell_regrown (show _ = some _ from HK2.out.cell 4)
  clear HAG HCW HK2
  refine wp_region_quiet_below (by kernel_rfl) (by kernel_rfl) ?_
  repeat (go_big_quiet_step (first | exact cl1 _ _ | exact cl2 _ _))
  refine wpQuiet_nil ?_
  intro _ hw'
  obtain ⟨⟨dq, osq⟩, hw''⟩ := hw'
  subst hw''
  have HB5 : Hid (Below w.heap.size w (Sort.grow (redrawn w2 dq) osq)) := HB2.out.trans ((below_regrown w2 dq osq).mono HB2.out.size)
  clear cl1 cl2
  go_wp2
  go_ret
  exact ⟨by rw [HE.out]; rfl, HB5.out⟩
end Go.Proofs.YtmlhipdfjnamiaaGreat
/- The contract of the document's CheckLeader. -/
namespace Go.Proofs.YtmlhipdfjnamiaaGreat
open Go.RowKit
theorem wrap_id {i : Int} {k : Nat} (h1 : -9223372036854775808 ≤ i) (h2 : i < 9223372036854775808) (hk : k ≤ 100) : (IntKind.i64.wrap (i - 1) != (k : Int)) = (i != (k : Int) + 1) := by
  have key : IntKind.i64.wrap (i - 1) = if i = -9223372036854775808 then 9223372036854775807 else i - 1 := by
    by_cases h : i = -9223372036854775808
    · subst h; rw [if_pos rfl]; decide
    · rw [if_neg h]
      simp [IntKind.wrap, IntKind.bits, IntKind.signed]
      omega
  rw [key]
  by_cases hi : i = (k : Int) + 1
  · subst hi
    rw [if_neg (by omega)]
    simp
  · have e1 : (i != (k : Int) + 1) = true := by rw [bne_iff_ne]; exact hi
    rw [e1, bne_iff_ne]
    split <;> omega
theorem chkRels_cons {R : List Rk.Rl} {k : Nat} {rs : List (Int × List (Int × Int))} (h : k < rs.length) : Ld.chkRels R ((k : Int) + 1) (rs.drop k) = if Ld.ruled (rs.getD k (0, [])).2 R = 0 then (if (rs.getD k (0, [])).1 = (k : Int) + 1 then Ld.chkRels R (((k + 1 : Nat) : Int) + 1) (rs.drop (k + 1)) else 4) else Ld.ruled (rs.getD k (0, [])).2 R := by
  have e : rs.getD k (0, []) = rs[k] := by simp [List.getD_eq_getElem?_getD, h]
  rw [List.drop_eq_getElem_cons h, Ld.chkRels, e]
  rw [show ((k : Int) + 1) + 1 = ((k + 1 : Nat) : Int) + 1 from by omega]
theorem mem_getDL {l : List (Int × List (Int × Int))} {k : Nat} (h : k < l.length) : l.getD k (0, []) ∈ l := by
  rw [List.getD_eq_getElem?_getD, List.getElem?_eq_getElem h]; exact List.getElem_mem h
theorem chkKnowns_cons {g nx : Int} {bk : Bool} {k : Nat} {ks : List Ld.Known} (h : k < ks.length) : Ld.chkKnowns g bk nx (ks.drop k) = if Ld.chkKnown g bk nx (ks.getD k ⟨0, 0, false⟩) = 0 then Ld.chkKnowns g bk nx (ks.drop (k + 1)) else Ld.chkKnown g bk nx (ks.getD k ⟨0, 0, false⟩) := by
  rw [dropKn ks k h, Ld.chkKnowns]
theorem known_dec {g nx st tr : Int} {bk bb b1 b2 : Bool} (h1 : b1 = !(Lk.within st 0 3 && Lk.within tr 0 (nx - 1))) (h2 : b2 = decide ((st ≠ 0 ∧ (g = 0 ∨ tr = 0)) ∨ (bb = true ∧ (bk = false ∨ st = 0)))) : Ld.chkKnown g bk nx ⟨st, tr, bb⟩ = if b1 = true then 3 else if b2 = true then 4 else 0 := by
  unfold Ld.chkKnown
  subst h1 h2
  cases (Lk.within st 0 3 && Lk.within tr 0 (nx - 1))
  · rfl
  · by_cases h : (st ≠ 0 ∧ (g = 0 ∨ tr = 0)) ∨ (bb = true ∧ (bk = false ∨ st = 0))
    · simp only [if_true, Bool.not_true, Bool.false_eq_true, if_false]
      rw [if_pos h, if_pos (decide_eq_true h)]
    · simp only [if_true, Bool.not_true, Bool.false_eq_true, if_false]
      rw [if_neg h, if_neg (by rw [decide_eq_false h]; decide)]
set_option maxHeartbeats 16000000 in
set_option maxRecDepth 100000 in
theorem ckLeadR_any (cf : Ld.Config) (A B D : Value) (ld : Ld.Leader) (Y Z : Value) (w : World) (hC : CfAt w cf A B D) (hL : LdAt w ld Y Z) (hw : ∀ p ∈ ld.rels, -9223372036854775808 ≤ p.1 ∧ p.1 < 9223372036854775808) :
    Calls Tryz.prog 17 #[cfV cf A B D, leV ld Y Z] w fun e w' => e = .returned (.int .i64 (Ld.chkLeader cf ld)) ∧ Below w.heap.size w w' := by
  have HCC : Hid (∀ w', Below w.heap.size w w' → Calls Tryz.prog 31 #[cfV cf A B D] w' fun e w'' => e = .returned (.int .i64 (Ld.chkConfig cf)) ∧ Below w'.heap.size w' w'') := fun w' hb => ckConfR_any cf A B D w' (hC.below hb)
  have HAG : Hid (∀ w', Below w.heap.size w w' → Calls Tryz.prog 52 #[cfV cf A B D] w' fun e w'' => e = .returned (.int .i64 (agR cf)) ∧ Below w'.heap.size w' w'') := fun w' hb => agR_any cf A B D w' (hC.below hb)
  have HFB : Hid (∀ (v : Value) (l : List (Int × Int)) (w' : World), Below w.heap.size w w' → PinsAt w' v l → Calls Tryz.prog 19 #[v, B] w' fun e w'' => e = .returned (.tuple #[.int .i64 (Rk.broken l cf.rules), .int .i64 (Rk.brokenErr l cf.rules)]) ∧ Below w'.heap.size w' w'') := fun v l w' hb h => fbroken_any v B l cf.rules w' h (hC.2.1.below hb)
  have HQ : Hid (Ld.chkConfig cf = 0 → 1 ≤ ld.rels.length ∧ ld.rels.length ≤ 6 → Ld.chkRels cf.rules 1 ld.rels = 0 → (Lk.within ld.now 1 ld.rels.length && Lk.within ld.goal 0 ld.rels.length && Lk.within ld.next 1 201) = true → Ld.chkLeader cf ld = if ld.goal = ld.now ∨ (ld.goal = 0 ∧ ld.back = true) ∨ ld.ags.length ≠ agR cf ∨ Lk.alike (ld.rels.headD (0, [])).1 (ld.rels.headD (0, [])).2 cf.fid cf.flock = false then 4 else Ld.chkKnowns ld.goal ld.back ld.next ld.ags) := fun h1 h2 h3 h4 => by
    unfold Ld.chkLeader
    rw [if_pos h1, if_pos h2, if_pos h3, if_pos h4, agR_ok h1]
  have HQ0 : Hid (¬ Ld.chkConfig cf = 0 → Ld.chkLeader cf ld = Ld.chkConfig cf) := fun h => by unfold Ld.chkLeader; rw [if_neg h]
  have HQ1 : Hid (Ld.chkConfig cf = 0 → ¬ (1 ≤ ld.rels.length ∧ ld.rels.length ≤ 6) → Ld.chkLeader cf ld = 2) := fun h1 h2 => by unfold Ld.chkLeader; rw [if_pos h1, if_neg h2]
  have HQ2 : Hid (Ld.chkConfig cf = 0 → 1 ≤ ld.rels.length ∧ ld.rels.length ≤ 6 → ¬ Ld.chkRels cf.rules 1 ld.rels = 0 → Ld.chkLeader cf ld = Ld.chkRels cf.rules 1 ld.rels) := fun h1 h2 h3 => by unfold Ld.chkLeader; rw [if_pos h1, if_pos h2, if_neg h3]
  have HQ3 : Hid (Ld.chkConfig cf = 0 → 1 ≤ ld.rels.length ∧ ld.rels.length ≤ 6 → Ld.chkRels cf.rules 1 ld.rels = 0 → (Lk.within ld.now 1 ld.rels.length && Lk.within ld.goal 0 ld.rels.length && Lk.within ld.next 1 201) = false → Ld.chkLeader cf ld = 3) := fun h1 h2 h3 h4 => by unfold Ld.chkLeader; rw [if_pos h1, if_pos h2, if_pos h3, if_neg (by rw [h4]; decide)]
  have HAL : Hid (∀ (v : Value) (w' : World), Below w.heap.size w w' → PinsAt w' v (ld.rels.headD (0, [])).2 → Calls Tryz.prog 28 #[relV (ld.rels.headD (0, [])).1 v, relV cf.fid A] w' fun e w'' => e = .returned (.bool (Lk.alike (ld.rels.headD (0, [])).1 (ld.rels.headD (0, [])).2 cf.fid cf.flock)) ∧ Below w'.heap.size w' w'') := fun v w' hb h => alikeR_any _ cf.fid v A _ cf.flock w' h (hC.1.below hb)
  obtain ⟨f, L, R, W, d⟩ := cf
  obtain ⟨a1, c1, rfl⟩ := pins_slice hC.1
  obtain ⟨a2, c2, rfl⟩ := rules_slice hC.2.1
  obtain ⟨a3, c3, rfl⟩ := waves_slice hC.2.2
  obtain ⟨a4, c4, rfl⟩ := relA_slice hL.1
  obtain ⟨a5, c5, rfl⟩ := knows_slice hL.2
  have HL : Hid (LdAt w ld (.slice a4 ld.rels.length c4) (.slice a5 ld.ags.length c5)) := hL
  obtain ⟨rs, nw, g, bk, ks, nx⟩ := ld
  unfold cfV cfC at HCC HAG
  unfold cfV cfC leV leC
  simp only at HCC HAG HFB HQ HQ0 HQ1 HQ2 HQ3 HAL hw HL
  simp only
  have HWF : Hid (∀ p ∈ rs, -9223372036854775808 ≤ p.1 ∧ p.1 < 9223372036854775808) := hw
  have hkl := hL.2.1
  simp only at hkl
  have hkli : (ks.length : Int) ≤ 140737488355328 := by omega
  clear hC hL hw
  generalize Ld.chkLeader ⟨f, L, R, W, d⟩ ⟨rs, nw, g, bk, ks, nx⟩ = Q at HQ HQ0 HQ1 HQ2 HQ3 ⊢
  generalize Ld.chkConfig ⟨f, L, R, W, d⟩ = X0 at HQ HQ0 HQ1 HQ2 HQ3 HCC
  generalize agR ⟨f, L, R, W, d⟩ = M at HQ HAG
  generalize Lk.alike (rs.headD (0, [])).1 (rs.headD (0, [])).2 f L = AL at HQ HAL
  obtain ⟨XR, hxr⟩ : ∃ x, x = Ld.chkRels R 1 rs := ⟨_, rfl⟩
  obtain ⟨XK, hxk⟩ : ∃ x, x = Ld.chkKnowns g bk nx ks := ⟨_, rfl⟩
  rw [← hxr] at HQ HQ2 HQ3
  rw [← hxk] at HQ
  have HXR : Hid (XR = Ld.chkRels R 1 rs) := hxr
  have HXK : Hid (XK = Ld.chkKnowns g bk nx ks) := hxk
  clear hxr hxk
  generalize L.length = n1 at *
  generalize R.length = n2 at *
  generalize W.length = n3 at *
  obtain ⟨hB0, hK0, hG0⟩ := box2 w #[.int .i64 f, .slice a1 n1 c1, .slice a2 n2 c2, .slice a3 n3 c3, .int .i64 d] #[.slice a4 rs.length c4, .int .i64 nw, .int .i64 g, .bool bk, .slice a5 ks.length c5, .int .i64 nx] 28 32
  have HB0 : Hid (Below w.heap.size w ((w.alloc (.cells #[.int .i64 f, .slice a1 n1 c1, .slice a2 n2 c2, .slice a3 n3 c3, .int .i64 d] 28)).alloc (.cells #[.slice a4 rs.length c4, .int .i64 nw, .int .i64 g, .bool bk, .slice a5 ks.length c5, .int .i64 nx] 32))) := hB0
  have HK0 : Hid (Blk ((w.alloc (.cells #[.int .i64 f, .slice a1 n1 c1, .slice a2 n2 c2, .slice a3 n3 c3, .int .i64 d] 28)).alloc (.cells #[.slice a4 rs.length c4, .int .i64 nw, .int .i64 g, .bool bk, .slice a5 ks.length c5, .int .i64 nx] 32)) w.heap.size #[.int .i64 f, .slice a1 n1 c1, .slice a2 n2 c2, .slice a3 n3 c3, .int .i64 d] 28) := hK0
  have HG0 : Hid (Blk ((w.alloc (.cells #[.int .i64 f, .slice a1 n1 c1, .slice a2 n2 c2, .slice a3 n3 c3, .int .i64 d] 28)).alloc (.cells #[.slice a4 rs.length c4, .int .i64 nw, .int .i64 g, .bool bk, .slice a5 ks.length c5, .int .i64 nx] 32)) (w.heap.size + 1) #[.slice a4 rs.length c4, .int .i64 nw, .int .i64 g, .bool bk, .slice a5 ks.length c5, .int .i64 nx] 32) := hG0
  have k00 := hK0.cell 0
  have k01 := hK0.cell 1
  have k02 := hK0.cell 2
  have k03 := hK0.cell 3
  have k04 := hK0.cell 4
  simp only [List.getElem?_toArray, List.getElem?_cons_zero, List.getElem?_cons_succ] at k00 k01 k02 k03 k04
  go_enter Tryz.func17, Tryz.ntmps17
  go_wp2_with fail
  generalize ((w.alloc (.cells #[.int .i64 f, .slice a1 n1 c1, .slice a2 n2 c2, .slice a3 n3 c3, .int .i64 d] 28)).alloc (.cells #[.slice a4 rs.length c4, .int .i64 nw, .int .i64 g, .bool bk, .slice a5 ks.length c5, .int .i64 nx] 32)) = V0 at *
  clear hB0 hK0 hG0
  refine (HCC.out _ HB0.out).mono ?_
  rintro e V ⟨rfl, hb1⟩
  have HB : Hid (Below w.heap.size w V) := HB0.out.trans (hb1.mono HB0.out.size)
  have HK : Hid (Blk V w.heap.size #[.int .i64 f, .slice a1 n1 c1, .slice a2 n2 c2, .slice a3 n3 c3, .int .i64 d] 28) := HK0.out.below hb1
  have HG : Hid (Blk V (w.heap.size + 1) #[.slice a4 rs.length c4, .int .i64 nw, .int .i64 g, .bool bk, .slice a5 ks.length c5, .int .i64 nx] 32) := HG0.out.below hb1
  clear hb1 HB0 HK0 HG0 HCC k00 k01 k02 k03 k04
  by_cases x0 : X0 = 0
  rotate_left
  · have HE : Hid (Q = X0) := HQ0.out x0
    have x0' : (X0 != 0) = true := by rw [bne_iff_ne]; exact x0
    clear x0 HQ HQ0 HQ1 HQ2 HQ3 HFB HAG HAL
    go_wp2
    go_ret
    exact ⟨by rw [HE.out]; rfl, HB.out⟩
  subst x0
  have gl0 := HG.out.cell 0
  simp only [List.getElem?_toArray, List.getElem?_cons_zero] at gl0
  by_cases m1 : 1 ≤ rs.length
  rotate_left
  · have HE : Hid (Q = 2) := HQ1.out rfl (fun h => m1 h.1)
    have m1' : rs.length = 0 := by omega
    clear m1 HQ HQ0 HQ1 HQ2 HQ3 HFB HAG HAL
    rw [m1'] at gl0
    go_wp2
    go_ret
    exact ⟨by rw [HE.out]; rfl, HB.out⟩
  by_cases m6 : rs.length ≤ 6
  rotate_left
  · have HE : Hid (Q = 2) := HQ1.out rfl (fun h => m6 h.2)
    have m1' : decide ((1 : Int) ≤ rs.length) = true := decide_eq_true (by omega)
    have m6' : decide ((rs.length : Int) ≤ 6) = false := decide_eq_false (by omega)
    clear HQ HQ0 HQ1 HQ2 HQ3 HFB HAG HAL
    go_wp2
    go_ret
    exact ⟨by rw [HE.out]; rfl, HB.out⟩
  have m1' : decide ((1 : Int) ≤ rs.length) = true := decide_eq_true (by omega)
  have m6' : decide ((rs.length : Int) ≤ 6) = true := decide_eq_true (by omega)
  clear HQ0 HQ1
  have HQ2' : Hid (¬ XR = 0 → Q = XR) := HQ2.out rfl ⟨m1, m6⟩
  have HQ' : Hid (XR = 0 → _) := HQ.out rfl ⟨m1, m6⟩
  have HQ3' : Hid (XR = 0 → _) := HQ3.out rfl ⟨m1, m6⟩
  clear HQ HQ2 HQ3
  go_upto_block 0 with (first | fail | (go_at_call 51; go_in))
  clear m1' m6' gl0
  go_cut [] from 29 to 54 (fun wx => Hid (XR = 0) ∧ Hid (Below V.heap.size V wx))
  case first =>
    clear HQ' HQ3' HAG HAL HXK
    go_wp2_with fail
    go_loopg [28] rs.length (fun gi s28 wr => ∃ k : Nat, k ≤ rs.length ∧ rs.length - k ≤ gi ∧ s28 = .int .i64 k ∧ Hid (XR = Ld.chkRels R ((k : Int) + 1) (rs.drop k)) ∧ Hid (Below V.heap.size V wr))
    case atStart => exact ⟨0, Nat.zero_le _, by omega, rfl, HXR, Below.refl _ _⟩
    case round =>
      obtain ⟨k, hk, hgk, rfl, HXk, HBk⟩ := hrel
      clear HXR
      by_cases hlt : k < rs.length
      rotate_left
      · have hk' : k = rs.length := by omega
        have HX0 : Hid (XR = 0) := by rw [HXk.out, hk', List.drop_length]; rfl
        subst hk'
        clear hlt HXk
        go_wp2_with fail
        go_meet
        case rel => exact ⟨HX0, HBk⟩
      have HBw : Hid (Below w.heap.size w wr) := HB.out.trans (HBk.out.mono HB.out.size)
      obtain ⟨rb, ro, v, rfl, hrb, q1, q2, hP⟩ := relA_at (HL.out.1.below HBw.out) hlt
      have hX := HXk.out
      rw [chkRels_cons hlt] at hX
      have hwf := HWF.out _ (mem_getDL hlt)
      generalize rs.getD k (0, []) = p at q1 q2 hP hX hwf
      obtain ⟨i, l⟩ := p
      simp only at q1 q2 hP hX hwf
      obtain ⟨pa, pc, rfl⟩ := pins_slice hP
      have HXp : Hid (XR = if (if Rk.brokenErr l R = 0 then (if 0 ≤ Rk.broken l R then 8 else 0) else Rk.brokenErr l R) = 0 then (if i = (k : Int) + 1 then Ld.chkRels R (((k + 1 : Nat) : Int) + 1) (rs.drop (k + 1)) else 4) else (if Rk.brokenErr l R = 0 then (if 0 ≤ Rk.broken l R then 8 else 0) else Rk.brokenErr l R)) := hX
      have hwr := wrap_id hwf.1 hwf.2 (show k ≤ 100 by omega)
      have hbx := box1 wr #[.int .i64 i, .slice pa l.length pc] 24
      have hFB := HFB.out _ _ _ (HBw.out.trans (hbx.1.mono HBw.out.size)) (hP.below hbx.1)
      generalize Rk.brokenErr l R = E at hFB HXp
      generalize Rk.broken l R = K at hFB HXp
      have HBx : Hid (Below V.heap.size V (wr.alloc (.cells #[.int .i64 i, .slice pa l.length pc] 24))) := HBk.out.trans (hbx.1.mono HBk.out.size)
      have HRx : Hid (Blk (wr.alloc (.cells #[.int .i64 i, .slice pa l.length pc] 24)) wr.heap.size #[.int .i64 i, .slice pa l.length pc] 24) := hbx.2
      have hKr := HK.out.below HBk.out
      have hK2 := hKr.cell 2
      simp only [List.getElem?_toArray, List.getElem?_cons_zero, List.getElem?_cons_succ] at hK2
      have hkr : (k : Int) < rs.length := by omega
      have hkr6 : (rs.length : Int) ≤ 6 := by omega
      have hlw : w.heap.size < wr.heap.size := hKr.lt
      clear hX hwf hP hbx hKr HXk HBk HBw
      go_wp2_with fail
      refine hFB.mono ?_
      rintro e w3 ⟨rfl, hb3⟩
      have HB3 : Hid (Below V.heap.size V w3) := HBx.out.trans (hb3.mono HBx.out.size)
      have hR3 := HRx.out.below hb3
      have q0 := hR3.cell 0
      simp only [List.getElem?_toArray, List.getElem?_cons_zero] at q0
      have HBw3 : Hid (Below w.heap.size w w3) := HB.out.trans (HB3.out.mono HB.out.size)
      clear hb3 hR3 HBx HRx hFB q1 q2 hK2
      by_cases xe : E = 0
      rotate_left
      · have hXR : XR = E := by rw [HXp.out, if_neg xe, if_neg xe]
        have HE : Hid (Q = E) := by rw [HQ2'.out (by rw [hXR]; exact xe)]; exact hXR
        have xe' : (E != 0) = true := by rw [bne_iff_ne]; exact xe
        clear xe HXp hXR
        go_wp2
        go_ret
        exact ⟨by rw [HE.out]; rfl, HBw3.out⟩
      subst xe
      by_cases xk : 0 ≤ K
      · have hXR : XR = 8 := by rw [HXp.out, if_pos rfl, if_pos xk]; rfl
        have HE : Hid (Q = 8) := by rw [HQ2'.out (by rw [hXR]; decide)]; exact hXR
        have xk' : decide (0 ≤ K) = true := decide_eq_true xk
        clear xk HXp hXR
        go_wp2
        go_ret
        exact ⟨by rw [HE.out]; rfl, HBw3.out⟩
      have xk' : decide (0 ≤ K) = false := decide_eq_false xk
      have hXp : XR = if i = (k : Int) + 1 then Ld.chkRels R (((k + 1 : Nat) : Int) + 1) (rs.drop (k + 1)) else 4 := by rw [HXp.out, if_pos rfl, if_neg xk, if_pos rfl]
      by_cases xi : i = (k : Int) + 1
      rotate_left
      · have hXR : XR = 4 := by rw [hXp, if_neg xi]
        have HE : Hid (Q = 4) := by rw [HQ2'.out (by rw [hXR]; decide)]; exact hXR
        have xi' : (IntKind.i64.wrap (i - 1) != (k : Int)) = true := by rw [hwr, bne_iff_ne]; exact xi
        have xi2 : (wrap64 (i - 1) != (k : Int)) = true := by rw [← IntWalk.i64_left]; exact xi'
        clear xk HXp hXR hXp xi hwr
        go_wp2
        go_ret
        exact ⟨by rw [HE.out]; rfl, HBw3.out⟩
      have HX2 : Hid (XR = Ld.chkRels R (((k + 1 : Nat) : Int) + 1) (rs.drop (k + 1))) := by rw [hXp, if_pos xi]; rfl
      subst xi
      clear xk HXp hXp hwr
      go_wp2
      go_roundg (rs.length - (k + 1))
      case measure => omega
      case rel => exact ⟨k + 1, by omega, by omega, by go_num, HX2, HB3⟩
  case rest =>
  obtain ⟨HXR0, HBX⟩ := hcut
  have HQ : Hid _ := HQ'.out HXR0.out
  have HQ3 : Hid _ := HQ3'.out HXR0.out
  have HB1 : Hid (Below w.heap.size w wc) := HB.out.trans (HBX.out.mono HB.out.size)
  have HK1 : Hid (Blk wc w.heap.size #[.int .i64 f, .slice a1 n1 c1, .slice a2 n2 c2, .slice a3 n3 c3, .int .i64 d] 28) := HK.out.below HBX.out
  have HG1 : Hid (Blk wc (w.heap.size + 1) #[.slice a4 rs.length c4, .int .i64 nw, .int .i64 g, .bool bk, .slice a5 ks.length c5, .int .i64 nx] 32) := HG.out.below HBX.out
  clear HQ' HQ3' HQ2' HXR HXR0 HFB HWF
  obtain ⟨V1, hV1⟩ : ∃ x, x = wc := ⟨_, rfl⟩
  subst hV1
  clear HBX HB HK HG
  have p0 : 1 ≤ (rs.length : Int) := by omega
  go_upto_region 18 with fail
  go_cut [72] from 55 to 72 (fun s72 wx => ∃ b : Bool, s72 = .bool b ∧ Hid (b = !(Lk.within nw 1 rs.length && Lk.within g 0 rs.length && Lk.within nx 1 201)) ∧ V1 = wx)
  case first =>
    clear HQ HQ3 HAG HAL HXK
    have kg0 := HG1.out.cell 0
    have kg1 := HG1.out.cell 1
    have kg2 := HG1.out.cell 2
    have kg3 := HG1.out.cell 3
    have kg4 := HG1.out.cell 4
    have kg5 := HG1.out.cell 5
    simp only [List.getElem?_toArray, List.getElem?_cons_zero, List.getElem?_cons_succ] at kg0 kg1 kg2 kg3 kg4 kg5
    by_cases p1 : 1 ≤ nw
    rotate_left
    · have p1' : decide (1 ≤ nw) = false := decide_eq_false p1
      go_wp2_with (first | fail | (go_at_call 51; go_in))
      go_meet
      case rel => exact ⟨true, rfl, (by show true = _; simp [Lk.within, p1]), rfl⟩
    have p1' : decide (1 ≤ nw) = true := decide_eq_true p1
    by_cases p2 : nw ≤ (rs.length : Int)
    rotate_left
    · have p2' : decide (nw ≤ (rs.length : Int)) = false := decide_eq_false p2
      go_wp2_with (first | fail | (go_at_call 51; go_in))
      go_meet
      case rel => exact ⟨true, rfl, (by show true = _; simp [Lk.within, p2]), rfl⟩
    have p2' : decide (nw ≤ (rs.length : Int)) = true := decide_eq_true p2
    by_cases p3 : 0 ≤ g
    rotate_left
    · have p3' : decide (0 ≤ g) = false := decide_eq_false p3
      go_wp2_with (first | fail | (go_at_call 51; go_in))
      go_meet
      case rel => exact ⟨true, rfl, (by show true = _; simp [Lk.within, p3]), rfl⟩
    have p3' : decide (0 ≤ g) = true := decide_eq_true p3
    by_cases p4 : g ≤ (rs.length : Int)
    rotate_left
    · have p4' : decide (g ≤ (rs.length : Int)) = false := decide_eq_false p4
      go_wp2_with (first | fail | (go_at_call 51; go_in))
      go_meet
      case rel => exact ⟨true, rfl, (by show true = _; simp [Lk.within, p4]), rfl⟩
    have p4' : decide (g ≤ (rs.length : Int)) = true := decide_eq_true p4
    by_cases p5 : 1 ≤ nx
    rotate_left
    · have p5' : decide (1 ≤ nx) = false := decide_eq_false p5
      go_wp2_with (first | fail | (go_at_call 51; go_in))
      go_meet
      case rel => exact ⟨true, rfl, (by show true = _; simp [Lk.within, p5]), rfl⟩
    have p5' : decide (1 ≤ nx) = true := decide_eq_true p5
    by_cases p6 : nx ≤ 201
    rotate_left
    · have p6' : decide (nx ≤ 201) = false := decide_eq_false p6
      go_wp2_with (first | fail | (go_at_call 51; go_in))
      go_meet
      case rel => exact ⟨true, rfl, (by show true = _; simp [Lk.within, p6]), rfl⟩
    have p6' : decide (nx ≤ 201) = true := decide_eq_true p6
    go_wp2_with (first | fail | (go_at_call 51; go_in))
    go_meet
    case rel => exact ⟨false, rfl, (by show false = _; simp [Lk.within, p1, p2, p3, p4, p5, p6]), rfl⟩
  case rest =>
  obtain ⟨b, rfl, HBB, rfl⟩ := hcut
  cases b
  rotate_left
  · have HE : Hid (Q = 3) := HQ3.out (by have := HBB.out; revert this; cases (Lk.within nw 1 rs.length && Lk.within g 0 rs.length && Lk.within nx 1 201) <;> simp)
    clear HQ HQ3 HAG HAL HXK
    go_wp2
    go_ret
    exact ⟨by rw [HE.out]; rfl, HB1.out⟩
  have HQA : Hid _ := HQ.out (by have := HBB.out; revert this; cases (Lk.within nw 1 rs.length && Lk.within g 0 rs.length && Lk.within nx 1 201) <;> simp)
  have hnx : 1 ≤ nx ∧ nx ≤ 201 := by have h := HBB.out; simp [Lk.within] at h; omega
  obtain ⟨hnx1, hnx2⟩ := hnx
  clear HQ HQ3 HBB
  go_upto_region 20 with fail
  go_cut [104] from 73 to 104 (fun s104 wx => ∃ b : Bool, s104 = .bool b ∧ Hid (b = decide (g = nw ∨ (g = 0 ∧ bk = true) ∨ ks.length ≠ M ∨ AL = false)) ∧ Hid (Below V1.heap.size V1 wx))
  case first =>
    obtain ⟨rb, ro, v, rfl, hrb, q1, q2, hP⟩ := relA_at (HL.out.1.below HB1.out) (show 0 < rs.length by omega)
    rw [headRl] at q1 hP
    rw [Nat.zero_mul, Nat.add_zero] at q1 q2
    obtain ⟨pa, pc, rfl⟩ := pins_slice hP
    have hAl := fun (d' : Nat) (os : Array Obj) => HAL.out _ (Sort.grow (redrawn V1 d') os) (HB1.out.trans ((below_regrown V1 d' os).mono HB1.out.size)) (hP.below (below_regrown V1 d' os))
    unfold relV at hAl
    generalize (rs.headD (0, [])).1 = i at q1 hAl
    generalize (rs.headD (0, [])).2.length = nl at q2 hAl
    have cl2 := fun (d' : Nat) (os : Array Obj) => Calls.regrown_of (hAl d' os)
    have cl1 := fun (d' : Nat) (os : Array Obj) => Calls.regrown_of (HAG.out (Sort.grow (redrawn V1 d') os) (HB1.out.trans ((below_regrown V1 d' os).mono HB1.out.size)))
    have kg0 := cell_regrown (show _ = some _ from HG1.out.cell 0)
    have kg1 := cell_regrown (show _ = some _ from HG1.out.cell 1)
    have kg2 := cell_regrown (show _ = some _ from HG1.out.cell 2)
    have kg3 := cell_regrown (show _ = some _ from HG1.out.cell 3)
    have kg4 := cell_regrown (show _ = some _ from HG1.out.cell 4)
    have kg5 := cell_regrown (show _ = some _ from HG1.out.cell 5)
    have kc0 := cell_regrown (show _ = some _ from HK1.out.cell 0)
    have kc1 := cell_regrown (show _ = some _ from HK1.out.cell 1)
    have kc2 := cell_regrown (show _ = some _ from HK1.out.cell 2)
    have kc3 := cell_regrown (show _ = some _ from HK1.out.cell 3)
    have kc4 := cell_regrown (show _ = some _ from HK1.out.cell 4)
    have r0 := cell_regrown q1
    have r1 := cell_regrown q2
    have hr0 : (0 : Int) < rs.length := by omega
    clear hP hAl q1 q2 HQA HAG HAL HXK HL
    by_cases e1 : g = nw
    · have e1' : (nw == g) = true := by rw [e1]; simp
      have HE1 : Hid (g = nw) := e1
      clear e1
      refine wp_region_quiet_below (by kernel_rfl) (by kernel_rfl) ?_
      repeat (go_big_quiet_step (first | exact cl1 _ _ | exact cl2 _ _))
      refine wpQuiet_nil ?_
      intro _ hw'
      obtain ⟨⟨dq, osq⟩, hw''⟩ := hw'
      subst hw''
      have HB6 : Hid (Below V1.heap.size V1 (Sort.grow (redrawn V1 dq) osq)) := below_regrown V1 dq osq
      clear cl1 cl2
      go_wp2_with fail
      go_meet
      case rel => exact ⟨true, rfl, (by show true = _; simp [HE1.out]), HB6⟩
    have e1' : (nw == g) = false := by rw [beq_eq_false_iff_ne]; exact fun h => e1 h.symm
    have HE1 : Hid (¬ g = nw) := e1
    clear e1
    by_cases e2 : g = 0 ∧ bk = true
    · have e2' : (g == 0) = true := by simpa using e2.1
      obtain ⟨e3, rfl⟩ := e2
      have HE3 : Hid (g = 0) := e3
      clear e3
      refine wp_region_quiet_below (by kernel_rfl) (by kernel_rfl) ?_
      repeat (go_big_quiet_step (first | exact cl1 _ _ | exact cl2 _ _))
      refine wpQuiet_nil ?_
      intro _ hw'
      obtain ⟨⟨dq, osq⟩, hw''⟩ := hw'
      subst hw''
      have HB6 : Hid (Below V1.heap.size V1 (Sort.grow (redrawn V1 dq) osq)) := below_regrown V1 dq osq
      clear cl1 cl2
      go_wp2_with fail
      go_meet
      case rel => exact ⟨true, rfl, (by show true = _; simp [HE3.out]), HB6⟩
    have HE2 : Hid (¬ (g = 0 ∧ bk = true)) := e2
    clear e2
    by_cases e4 : ks.length = M
    rotate_left
    · have e4' : ((ks.length : Int) != M) = true := by rw [bne_iff_ne]; omega
      have HE4 : Hid (¬ ks.length = M) := e4
      clear e4
      cases bk
      · refine wp_region_quiet_below (by kernel_rfl) (by kernel_rfl) ?_
        repeat (go_big_quiet_step (first | exact cl1 _ _ | exact cl2 _ _))
        refine wpQuiet_nil ?_
        intro _ hw'
        obtain ⟨⟨dq, osq⟩, hw''⟩ := hw'
        subst hw''
        have HB6 : Hid (Below V1.heap.size V1 (Sort.grow (redrawn V1 dq) osq)) := below_regrown V1 dq osq
        clear cl1 cl2
        go_wp2_with fail
        go_meet
        case rel => exact ⟨true, rfl, (by show true = _; simp [HE4.out]), HB6⟩
      · have e2' : (g == 0) = false := by rw [beq_eq_false_iff_ne]; exact fun h => HE2.out ⟨h, rfl⟩
        refine wp_region_quiet_below (by kernel_rfl) (by kernel_rfl) ?_
        repeat (go_big_quiet_step (first | exact cl1 _ _ | exact cl2 _ _))
        refine wpQuiet_nil ?_
        intro _ hw'
        obtain ⟨⟨dq, osq⟩, hw''⟩ := hw'
        subst hw''
        have HB6 : Hid (Below V1.heap.size V1 (Sort.grow (redrawn V1 dq) osq)) := below_regrown V1 dq osq
        clear cl1 cl2
        go_wp2_with fail
        go_meet
        case rel => exact ⟨true, rfl, (by show true = _; simp [HE4.out]), HB6⟩
    have e4' : ((ks.length : Int) != M) = false := by rw [e4]; simp
    have HE4 : Hid (ks.length = M) := e4
    clear e4
    cases AL
    · cases bk
      · refine wp_region_quiet_below (by kernel_rfl) (by kernel_rfl) ?_
        repeat (go_big_quiet_step (first | exact cl1 _ _ | exact cl2 _ _))
        refine wpQuiet_nil ?_
        intro _ hw'
        obtain ⟨⟨dq, osq⟩, hw''⟩ := hw'
        subst hw''
        have HB6 : Hid (Below V1.heap.size V1 (Sort.grow (redrawn V1 dq) osq)) := below_regrown V1 dq osq
        clear cl1 cl2
        go_wp2_with fail
        go_meet
        case rel => exact ⟨true, rfl, (by show true = _; simp [HE4.out]), HB6⟩
      · have e2' : (g == 0) = false := by rw [beq_eq_false_iff_ne]; exact fun h => HE2.out ⟨h, rfl⟩
        refine wp_region_quiet_below (by kernel_rfl) (by kernel_rfl) ?_
        repeat (go_big_quiet_step (first | exact cl1 _ _ | exact cl2 _ _))
        refine wpQuiet_nil ?_
        intro _ hw'
        obtain ⟨⟨dq, osq⟩, hw''⟩ := hw'
        subst hw''
        have HB6 : Hid (Below V1.heap.size V1 (Sort.grow (redrawn V1 dq) osq)) := below_regrown V1 dq osq
        clear cl1 cl2
        go_wp2_with fail
        go_meet
        case rel => exact ⟨true, rfl, (by show true = _; simp [HE4.out]), HB6⟩
    · cases bk
      · refine wp_region_quiet_below (by kernel_rfl) (by kernel_rfl) ?_
        repeat (go_big_quiet_step (first | exact cl1 _ _ | exact cl2 _ _))
        refine wpQuiet_nil ?_
        intro _ hw'
        obtain ⟨⟨dq, osq⟩, hw''⟩ := hw'
        subst hw''
        have HB6 : Hid (Below V1.heap.size V1 (Sort.grow (redrawn V1 dq) osq)) := below_regrown V1 dq osq
        clear cl1 cl2
        go_wp2_with fail
        go_meet
        case rel => exact ⟨false, rfl, (by show false = _; simp [HE1.out, HE4.out]), HB6⟩
      · have HE5 : Hid (¬ g = 0) := fun h => HE2.out ⟨h, rfl⟩
        have e2' : (g == 0) = false := by rw [beq_eq_false_iff_ne]; exact HE5.out
        refine wp_region_quiet_below (by kernel_rfl) (by kernel_rfl) ?_
        repeat (go_big_quiet_step (first | exact cl1 _ _ | exact cl2 _ _))
        refine wpQuiet_nil ?_
        intro _ hw'
        obtain ⟨⟨dq, osq⟩, hw''⟩ := hw'
        subst hw''
        have HB6 : Hid (Below V1.heap.size V1 (Sort.grow (redrawn V1 dq) osq)) := below_regrown V1 dq osq
        clear cl1 cl2
        go_wp2_with fail
        go_meet
        case rel => exact ⟨false, rfl, (by show false = _; simp [HE1.out, HE4.out, HE5.out]), HB6⟩
  case rest =>
  obtain ⟨b, rfl, HBB, HBX⟩ := hcut
  have HB2 : Hid (Below w.heap.size w wc) := HB1.out.trans (HBX.out.mono HB1.out.size)
  have HG2 : Hid (Blk wc (w.heap.size + 1) #[.slice a4 rs.length c4, .int .i64 nw, .int .i64 g, .bool bk, .slice a5 ks.length c5, .int .i64 nx] 32) := HG1.out.below HBX.out
  clear HBX HK1 HAG HAL
  cases b
  rotate_left
  · have HE : Hid (Q = 4) := by rw [HQA.out, if_pos (by have := HBB.out; exact of_decide_eq_true this.symm)]; rfl
    clear HQA HBB HXK
    go_wp2
    go_ret
    exact ⟨by rw [HE.out]; rfl, HB2.out⟩
  have HQX : Hid (Q = Ld.chkKnowns g bk nx ks) := by rw [HQA.out, if_neg (by have := HBB.out; exact of_decide_eq_false this.symm)]; exact HXK.out
  clear HQA HBB HXK HG1 HB1
  have hkg := HG2.out.cell 4
  simp only [List.getElem?_toArray, List.getElem?_cons_zero, List.getElem?_cons_succ] at hkg
  obtain ⟨V2, hV2⟩ : ∃ x, x = wc := ⟨_, rfl⟩
  subst hV2
  go_wp2_with fail
  go_loopg [108] ks.length (fun gi s108 wr => ∃ k : Nat, k ≤ ks.length ∧ ks.length - k ≤ gi ∧ s108 = .int .i64 k ∧ Hid (Q = Ld.chkKnowns g bk nx (ks.drop k)) ∧ Hid (Below V2.heap.size V2 wr))
  case atStart => exact ⟨0, Nat.zero_le _, by omega, rfl, HQX, Below.refl _ _⟩
  case round =>
    obtain ⟨k, hk, hgk, rfl, HXk, HBk⟩ := hrel
    clear HQX hkg
    have HBw : Hid (Below w.heap.size w wr) := HB2.out.trans (HBk.out.mono HB2.out.size)
    by_cases hlt : k < ks.length
    rotate_left
    · have hk' : k = ks.length := by omega
      have HE : Hid (Q = 0) := by rw [HXk.out, hk', List.drop_length]; rfl
      subst hk'
      clear hlt HXk
      go_wp2
      go_ret
      exact ⟨by rw [HE.out]; rfl, HBw.out⟩
    obtain ⟨kb, ko, rfl, hkb, q1, q2, q3⟩ := knows_at (HL.out.2.below HBw.out) hlt
    have hX := HXk.out
    rw [chkKnowns_cons hlt] at hX
    generalize ks.getD k ⟨0, 0, false⟩ = kn at q1 q2 q3 hX
    obtain ⟨st, tr, bb⟩ := kn
    simp only at q1 q2 q3
    have HX : Hid _ := hX
    have hbx := box1 wr #[.int .i64 st, .int .i64 tr, .bool bb] 54
    have HBx : Hid (Below V2.heap.size V2 (wr.alloc (.cells #[.int .i64 st, .int .i64 tr, .bool bb] 54))) := HBk.out.trans (hbx.1.mono HBk.out.size)
    have HBw2 : Hid (Below w.heap.size w (wr.alloc (.cells #[.int .i64 st, .int .i64 tr, .bool bb] 54))) := HBw.out.trans (hbx.1.mono HBw.out.size)
    have HAx : Hid (Blk (wr.alloc (.cells #[.int .i64 st, .int .i64 tr, .bool bb] 54)) wr.heap.size #[.int .i64 st, .int .i64 tr, .bool bb] 54) := hbx.2
    have HGx : Hid (Blk (wr.alloc (.cells #[.int .i64 st, .int .i64 tr, .bool bb] 54)) (w.heap.size + 1) _ 32) := HG2.out.below (HBk.out.trans (hbx.1.mono HBk.out.size))
    have hki : (k : Int) < ks.length := by omega
    clear hX hbx HXk HBk HBw HL HG2 HB2
    go_upto_region 25 with fail
    clear q1 q2 q3
    generalize (wr.alloc (.cells #[.int .i64 st, .int .i64 tr, .bool bb] 54)) = V3 at HBx HBw2 HAx HGx ⊢
    generalize wr.heap.size = ga at HAx hkb ⊢
    have ka0 := HAx.out.cell 0
    have ka1 := HAx.out.cell 1
    have ka2 := HAx.out.cell 2
    simp only [List.getElem?_toArray, List.getElem?_cons_zero, List.getElem?_cons_succ] at ka0 ka1 ka2
    have kx0 := HGx.out.cell 0
    have kx1 := HGx.out.cell 1
    have kx2 := HGx.out.cell 2
    have kx3 := HGx.out.cell 3
    have kx4 := HGx.out.cell 4
    have kx5 := HGx.out.cell 5
    simp only [List.getElem?_toArray, List.getElem?_cons_zero, List.getElem?_cons_succ] at kx0 kx1 kx2 kx3 kx4 kx5
    go_cut [124] from 112 to 124 (fun s124 wx => ∃ b : Bool, s124 = .bool b ∧ Hid (b = !(Lk.within st 0 3 && Lk.within tr 0 (nx - 1))) ∧ V3 = wx)
    case first =>
      clear HX
      by_cases p1 : 0 ≤ st
      rotate_left
      · have p1' : decide (0 ≤ st) = false := decide_eq_false p1
        go_wp2_with (first | fail | (go_at_call 51; go_in))
        go_meet
        case rel => exact ⟨true, rfl, (by show true = _; simp [Lk.within, p1]), rfl⟩
      have p1' : decide (0 ≤ st) = true := decide_eq_true p1
      by_cases p2 : st ≤ 3
      rotate_left
      · have p2' : decide (st ≤ 3) = false := decide_eq_false p2
        go_wp2_with (first | fail | (go_at_call 51; go_in))
        go_meet
        case rel => exact ⟨true, rfl, (by show true = _; simp [Lk.within, p2]), rfl⟩
      have p2' : decide (st ≤ 3) = true := decide_eq_true p2
      by_cases p3 : 0 ≤ tr
      rotate_left
      · have p3' : decide (0 ≤ tr) = false := decide_eq_false p3
        go_wp2_with (first | fail | (go_at_call 51; go_in))
        go_meet
        case rel => exact ⟨true, rfl, (by show true = _; simp [Lk.within, p3]), rfl⟩
      have p3' : decide (0 ≤ tr) = true := decide_eq_true p3
      by_cases p4 : tr ≤ nx - 1
      rotate_left
      · have p4' : decide (tr ≤ nx - 1) = false := decide_eq_false p4
        go_wp2_with (first | fail | (go_at_call 51; go_in))
        go_meet
        case rel => exact ⟨true, rfl, (by show true = _; simp [Lk.within, p4]), rfl⟩
      have p4' : decide (tr ≤ nx - 1) = true := decide_eq_true p4
      go_wp2_with (first | fail | (go_at_call 51; go_in))
      go_meet
      case rel => exact ⟨false, rfl, (by show false = _; simp [Lk.within, p1, p2, p3, p4]), rfl⟩
    case rest =>
    obtain ⟨b1, rfl, HB1b, rfl⟩ := hcut
    cases b1
    rotate_left
    · have HE : Hid (Q = 3) := by rw [HX.out, known_dec HB1b.out rfl, if_pos rfl]; rfl
      clear HX HB1b
      go_wp2
      go_ret
      exact ⟨by rw [HE.out]; rfl, HBw2.out⟩
    go_upto_region 27 with fail
    go_cut [13] from 125 to 127 (fun s13 wx => ∃ b0 : Bool, s13 = .bool b0 ∧ Hid (b0 = (st == 0)) ∧ V3 = wx)
    case first =>
      clear HX
      go_wp2_with fail
      go_meet
      case rel => exact ⟨_, rfl, rfl, rfl⟩
    case rest =>
    obtain ⟨b0, rfl, HB0b, rfl⟩ := hcut
    go_upto_region 28 with fail
    go_cut [159] from 128 to 159 (fun s159 wx => ∃ b : Bool, s159 = .bool b ∧ Hid (b = decide ((st ≠ 0 ∧ (g = 0 ∨ tr = 0)) ∨ (bb = true ∧ (bk = false ∨ st = 0)))) ∧ V3 = wx)
    case first =>
      clear HX
      cases b0
      · have HS0 : Hid (¬ st = 0) := by have h := HB0b.out; exact fun e => by rw [e] at h; exact absurd h (by decide)
        by_cases g0 : g = 0
        · have g0' : (g == 0) = true := by simpa using g0
          have HG0 : Hid (g = 0) := g0
          clear g0
          go_wp2_with fail
          go_meet
          case rel => exact ⟨true, rfl, (by show true = _; simp [HS0.out, HG0.out]), rfl⟩
        have g0' : (g == 0) = false := by simpa using g0
        have HG0 : Hid (¬ g = 0) := g0
        clear g0
        by_cases t0 : tr = 0
        · have t0' : (tr == 0) = true := by simpa using t0
          have HT0 : Hid (tr = 0) := t0
          clear t0
          go_wp2_with fail
          go_meet
          case rel => exact ⟨true, rfl, (by show true = _; simp [HS0.out, HT0.out]), rfl⟩
        have t0' : (tr == 0) = false := by simpa using t0
        have HT0 : Hid (¬ tr = 0) := t0
        clear t0
        cases bb
        · go_wp2_with fail
          go_meet
          case rel => exact ⟨false, rfl, (by show false = _; simp [HS0.out, HG0.out, HT0.out]), rfl⟩
        · cases bk
          · go_wp2_with fail
            go_meet
            case rel => exact ⟨true, rfl, (by show true = _; simp [HS0.out]), rfl⟩
          · go_wp2_with fail
            go_meet
            case rel => exact ⟨false, rfl, (by show false = _; simp [HS0.out, HG0.out, HT0.out]), rfl⟩
      · have HS0 : Hid (st = 0) := by have h := HB0b.out; exact eq_of_beq h.symm
        cases bb
        · go_wp2_with fail
          go_meet
          case rel => exact ⟨false, rfl, (by show false = _; simp [HS0.out]), rfl⟩
        · cases bk
          · go_wp2_with fail
            go_meet
            case rel => exact ⟨true, rfl, (by show true = _; simp [HS0.out]), rfl⟩
          · go_wp2_with fail
            go_meet
            case rel => exact ⟨true, rfl, (by show true = _; simp [HS0.out]), rfl⟩
    case rest =>
    obtain ⟨b2, rfl, HB2b, rfl⟩ := hcut
    cases b2
    · have HE : Hid (Q = Ld.chkKnowns g bk nx (ks.drop (k + 1))) := by
        have h := HX.out
        rw [known_dec HB1b.out HB2b.out] at h
        show Q = _
        simpa using h
      clear HX HB1b HB2b HB0b
      go_wp2
      go_roundg (ks.length - (k + 1))
      case measure => omega
      case rel => exact ⟨k + 1, by omega, by omega, by go_num, HE, HBx⟩
    · have HE : Hid (Q = 4) := by
        have h := HX.out
        rw [known_dec HB1b.out HB2b.out] at h
        show Q = _
        simpa using h
      clear HX HB1b HB2b HB0b
      go_wp2
      go_ret
      exact ⟨by rw [HE.out]; rfl, HBw2.out⟩
end Go.Proofs.YtmlhipdfjnamiaaGreat
/- The contracts of the document's IsOver and IsTurn. -/
namespace Go.Proofs.YtmlhipdfjnamiaaGreat
open Go.RowKit
theorem cnt_le : ∀ ks : List Ld.Known, (ks.filter fun a => a.st == 2).length + (ks.filter fun a => a.st == 3).length ≤ ks.length
  | [] => by simp
  | a :: r => by
    have := cnt_le r
    simp only [List.filter_cons, List.length_cons]
    by_cases h2 : a.st = 2
    · simp [h2]; omega
    · by_cases h3 : a.st = 3
      · simp [h3]; omega
      · simp [h2, h3]; omega
theorem cnt_all : ∀ ks : List Ld.Known, (∀ a ∈ ks, a.st ≤ 3) → ((ks.filter fun a => a.st == 2).length + (ks.filter fun a => a.st == 3).length = ks.length ↔ (ks.map fun a => decide (2 ≤ a.st)).all id = true)
  | [], _ => by simp
  | a :: r, h => by
    have ih := cnt_all r (fun x hx => h x (by simp [hx]))
    have hl := cnt_le r
    have ha := h a (by simp)
    simp only [List.filter_cons, List.length_cons, List.map_cons, List.all_cons, id, Bool.and_eq_true, decide_eq_true_eq]
    have e2 : ∀ s : Int, (a.st == s) = decide (a.st = s) := fun s => by by_cases h : a.st = s <;> simp [h]
    rw [e2, e2]
    by_cases h2 : a.st = 2
    · rw [if_pos (by simp [h2]), if_neg (by simp [h2]), List.length_cons]
      exact ⟨fun h => ⟨by omega, ih.1 (by omega)⟩, fun h => by have := ih.2 h.2; omega⟩
    · by_cases h3 : a.st = 3
      · rw [if_neg (by simp [h3]), if_pos (by simp [h3]), List.length_cons]
        exact ⟨fun h => ⟨by omega, ih.1 (by omega)⟩, fun h => by have := ih.2 h.2; omega⟩
      · rw [if_neg (by simp [h2]), if_neg (by simp [h3])]
        exact ⟨fun h => by omega, fun h => by omega⟩
theorem lead_states {cf : Ld.Config} {l : Ld.Leader} (h : Ld.chkLeader cf l = 0) : ∀ a ∈ l.ags, 0 ≤ a.st ∧ a.st ≤ 3 := fun a ha => ((Ld.known_iff _ _ _ _).1 (((Ld.lead_iff cf l).1 h).2.2.2.2.2.2.2 a ha)).1
theorem overOn_eq {cf : Ld.Config} {l : Ld.Leader} (h : Ld.chkLeader cf l = 0) (hb : l.back = false) : Ld.isOver cf l = (decide (Ld.count l 2 + Ld.count l 3 = l.ags.length) && decide ((Ld.count l 3 : Int) ≤ cf.budget)) := by
  unfold Ld.isOver Ld.through
  rw [if_neg (by rw [hb]; decide)]
  congr 1
  have := cnt_all l.ags (fun a ha => (lead_states h a ha).2)
  rw [Bool.eq_iff_iff, decide_eq_true_eq]
  exact this.symm
theorem cnt_few {cf : Ld.Config} {l : Ld.Leader} (h : Ld.chkLeader cf l = 0) : Ld.count l 2 + Ld.count l 3 ≤ 6 := by
  have := cnt_le l.ags
  have := (Ld.lead_few h).2.1
  unfold Ld.count
  omega
theorem sum_eqT {a b c : Nat} (h : a + b = c) : ((a : Int) + b == c) = true := by rw [beq_iff_eq]; omega
theorem sum_eqF {a b c : Nat} (h : ¬ a + b = c) : ((a : Int) + b == c) = false := by rw [beq_eq_false_iff_ne]; omega
set_option maxHeartbeats 2000000 in
set_option maxRecDepth 100000 in
theorem overR_any (cf : Ld.Config) (A B D : Value) (ld : Ld.Leader) (Y Z : Value) (w : World) (hL : LdAt w ld Y Z) (hc : Ld.chkLeader cf ld = 0) :
    Calls Tryz.prog 21 #[cfV cf A B D, leV ld Y Z] w fun e w' => e = .returned (.bool (Ld.isOver cf ld)) ∧ Below w.heap.size w w' := by
  have HCN : Hid (∀ (s : Int) (w' : World), Below w.heap.size w w' → Calls Tryz.prog 61 #[leV ld Y Z, .int .i64 s] w' fun e w'' => e = .returned (.int .i64 (Ld.count ld s)) ∧ Below w'.heap.size w' w'') := fun s w' hb => countR_any ld Y Z s w' (hL.below hb)
  have HON : Hid (ld.back = false → Ld.isOver cf ld = (decide (Ld.count ld 2 + Ld.count ld 3 = ld.ags.length) && decide ((Ld.count ld 3 : Int) ≤ cf.budget))) := fun h => overOn_eq hc h
  have HBK : Hid (ld.back = true → Ld.isOver cf ld = ld.ags.all fun a => decide (a.st ≠ 1) && (decide (a.st = 0) || a.back)) := fun h => by unfold Ld.isOver; rw [if_pos h]
  have HST : Hid (∀ a ∈ ld.ags, 0 ≤ a.st ∧ a.st ≤ 3) := lead_states hc
  have hfew := cnt_few hc
  have hn6 := (Ld.lead_few hc).2.1
  obtain ⟨a4, c4, rfl⟩ := relA_slice hL.1
  obtain ⟨a5, c5, rfl⟩ := knows_slice hL.2
  have HL : Hid (KnowsAt w (.slice a5 ld.ags.length c5) ld.ags) := hL.2
  obtain ⟨rs, nw, g, bk, ks, nx⟩ := ld
  obtain ⟨f, L, R, W, d⟩ := cf
  unfold leV leC at HCN
  unfold cfV cfC leV leC
  simp only at HCN HON HBK HST hfew hn6 HL
  simp only
  clear hL hc
  generalize Ld.isOver ⟨f, L, R, W, d⟩ ⟨rs, nw, g, bk, ks, nx⟩ = Q at HON HBK ⊢
  generalize Ld.count ⟨rs, nw, g, bk, ks, nx⟩ = CN at HCN HON hfew
  have H2 := HCN.out 2
  have H3 := HCN.out 3
  generalize CN 2 = m2 at H2 HON hfew
  generalize CN 3 = m3 at H3 HON hfew
  clear HCN
  generalize rs.length = n4 at *
  have hn6i : (ks.length : Int) ≤ 6 := by omega
  obtain ⟨hB0, hK0, hG0⟩ := box2 w #[.int .i64 f, A, B, D, .int .i64 d] #[.slice a4 n4 c4, .int .i64 nw, .int .i64 g, .bool bk, .slice a5 ks.length c5, .int .i64 nx] 28 32
  have HB : Hid (Below w.heap.size w ((w.alloc (.cells #[.int .i64 f, A, B, D, .int .i64 d] 28)).alloc (.cells #[.slice a4 n4 c4, .int .i64 nw, .int .i64 g, .bool bk, .slice a5 ks.length c5, .int .i64 nx] 32))) := hB0
  have HG : Hid (Blk ((w.alloc (.cells #[.int .i64 f, A, B, D, .int .i64 d] 28)).alloc (.cells #[.slice a4 n4 c4, .int .i64 nw, .int .i64 g, .bool bk, .slice a5 ks.length c5, .int .i64 nx] 32)) (w.heap.size + 1) #[.slice a4 n4 c4, .int .i64 nw, .int .i64 g, .bool bk, .slice a5 ks.length c5, .int .i64 nx] 32) := hG0
  have k4 := hK0.cell 4
  have kl0 := hG0.cell 0
  have kl1 := hG0.cell 1
  have kl2 := hG0.cell 2
  have kl3 := hG0.cell 3
  have kl4 := hG0.cell 4
  have kl5 := hG0.cell 5
  simp only [List.getElem?_toArray, List.getElem?_cons_zero, List.getElem?_cons_succ] at kl0 kl1 kl2 kl3 kl4 kl5
  simp only [List.getElem?_toArray, List.getElem?_cons_zero, List.getElem?_cons_succ] at k4
  go_enter Tryz.func21, Tryz.ntmps21
  go_upto_region 1 with fail
  generalize ((w.alloc (.cells #[.int .i64 f, A, B, D, .int .i64 d] 28)).alloc (.cells #[.slice a4 n4 c4, .int .i64 nw, .int .i64 g, .bool bk, .slice a5 ks.length c5, .int .i64 nx] 32)) = V at *
  cases bk
  · go_upto_region 2 with fail
    have hQ := HON.out rfl
    have cl1 := fun (d' : Nat) (os : Array Obj) => Calls.regrown_of (H2 (Sort.grow (redrawn V d') os) (HB.out.trans ((below_regrown V d' os).mono HB.out.size)))
    have cl2 := fun (d' : Nat) (os : Array Obj) => Calls.regrown_of (H3 (Sort.grow (redrawn V d') os) (HB.out.trans ((below_regrown V d' os).mono HB.out.size)))
    have r4 := cell_regrown k4
    have r0 := cell_regrown kl0
    have r1 := cell_regrown kl1
    have r2 := cell_regrown kl2
    have r3 := cell_regrown kl3
    have r5 := cell_regrown kl4
    have r6 := cell_regrown kl5
    have HQ : Hid (Q = (decide (m2 + m3 = ks.length) && decide ((m3 : Int) ≤ d))) := hQ
    have hm2 : (m2 : Int) ≤ 6 := by omega
    have hm3 : (m3 : Int) ≤ 6 := by omega
    clear hQ HON HBK HST H2 H3 HL hB0 hK0 hG0 k4 kl0 kl1 kl2 kl3 kl4 kl5 HG
    by_cases ha : m2 + m3 = ks.length
    · have ha1 : ((m2 : Int) + m3 == ks.length) = true := sum_eqT ha
      have HE : Hid (Q = decide ((m3 : Int) ≤ d)) := by rw [HQ.out, decide_eq_true ha, Bool.true_and]; rfl
      clear HQ ha
      refine wp_region_quiet_below (by kernel_rfl) (by kernel_rfl) ?_
      repeat (go_big_quiet_step (first | with_reducible exact cl1 _ _ | with_reducible exact cl2 _ _))
      refine wpQuiet_nil ?_
      intro _ hw'
      obtain ⟨⟨dq, osq⟩, hw''⟩ := hw'
      subst hw''
      have HB6 : Hid (Below w.heap.size w (Sort.grow (redrawn V dq) osq)) := HB.out.trans ((below_regrown V dq osq).mono HB.out.size)
      clear cl1 cl2
      go_wp2
      go_ret
      exact ⟨by rw [HE.out]; rfl, HB6.out⟩
    · have ha1 : ((m2 : Int) + m3 == ks.length) = false := sum_eqF ha
      have HE : Hid (Q = false) := by rw [HQ.out, decide_eq_false ha, Bool.false_and]; rfl
      clear HQ ha
      refine wp_region_quiet_below (by kernel_rfl) (by kernel_rfl) ?_
      repeat (go_big_quiet_step (first | with_reducible exact cl1 _ _ | with_reducible exact cl2 _ _))
      refine wpQuiet_nil ?_
      intro _ hw'
      obtain ⟨⟨dq, osq⟩, hw''⟩ := hw'
      subst hw''
      have HB6 : Hid (Below w.heap.size w (Sort.grow (redrawn V dq) osq)) := HB.out.trans ((below_regrown V dq osq).mono HB.out.size)
      clear cl1 cl2
      go_wp2
      go_ret
      exact ⟨by rw [HE.out]; rfl, HB6.out⟩
  · have HQ : Hid (Q = ks.all fun a => decide (a.st ≠ 1) && (decide (a.st = 0) || a.back)) := HBK.out rfl
    clear HON HBK H2 H3 hB0 hK0 hG0 k4
    go_wp2_with fail
    go_loopg [29] ks.length (fun gi s29 wr => ∃ k : Nat, k ≤ ks.length ∧ ks.length - k ≤ gi ∧ s29 = .int .i64 k ∧ Hid (Q = (ks.drop k).all fun a => decide (a.st ≠ 1) && (decide (a.st = 0) || a.back)) ∧ Hid (Below w.heap.size w wr))
    case atStart => exact ⟨0, Nat.zero_le _, by omega, rfl, HQ, HB⟩
    case round =>
      obtain ⟨k, hk, hgk, rfl, HXk, HBk⟩ := hrel
      clear HQ HB kl0 kl1 kl2 kl3 kl4 kl5 HG
      by_cases hlt : k < ks.length
      rotate_left
      · have hk' : k = ks.length := by omega
        have HE : Hid (Q = true) := by rw [HXk.out, hk', List.drop_length]; rfl
        subst hk'
        clear hlt HXk
        go_wp2
        go_ret
        exact ⟨by rw [HE.out]; rfl, HBk.out⟩
      obtain ⟨kb, ko, rfl, hkb, q1, q2, q3⟩ := knows_at (HL.out.below HBk.out) hlt
      have hX := HXk.out
      rw [dropKn ks k hlt, List.all_cons] at hX
      have hst := HST.out _ (Ld.mem_getDK hlt)
      generalize ks.getD k ⟨0, 0, false⟩ = kn at q1 q2 q3 hX hst
      obtain ⟨st, tr, bb⟩ := kn
      simp only at q1 q2 q3 hst
      have HX : Hid (Q = ((decide (st ≠ 1) && (decide (st = 0) || bb)) && (ks.drop (k + 1)).all fun a => decide (a.st ≠ 1) && (decide (a.st = 0) || a.back))) := hX
      have HBx : Hid (Below w.heap.size w (wr.alloc (.cells #[.int .i64 st, .int .i64 tr, .bool bb] 54))) := HBk.out.trans ((box1 wr _ _).1.mono HBk.out.size)
      have hki : (k : Int) < ks.length := by omega
      clear hX HXk HBk
      by_cases s1 : st = 1
      · have HE : Hid (Q = false) := by rw [HX.out, s1]; rfl
        have s1' : (st == 1) = true := by simpa using s1
        clear s1 HX hst
        go_wp2
        go_ret
        exact ⟨by rw [HE.out]; rfl, HBx.out⟩
      have s1' : (st == 1) = false := by simpa using s1
      by_cases s2 : 1 < st
      · have s2' : decide ((1 : Int) < st) = true := decide_eq_true s2
        have hs0 : ¬ st = 0 := by omega
        cases bb
        · have HE : Hid (Q = false) := by show Q = _; rw [HX.out]; simp [hs0]
          clear s1 s2 HX hst hs0
          go_wp2
          go_ret
          exact ⟨by rw [HE.out]; rfl, HBx.out⟩
        · have HE : Hid (Q = (ks.drop (k + 1)).all fun a => decide (a.st ≠ 1) && (decide (a.st = 0) || a.back)) := by show Q = _; rw [HX.out]; simp [s1]
          clear s1 s2 HX hst hs0
          go_wp2
          go_roundg (ks.length - (k + 1))
          case measure => omega
          case rel => exact ⟨k + 1, by omega, by omega, by go_num, HE, HBx⟩
      · have s2' : decide ((1 : Int) < st) = false := decide_eq_false s2
        have hs0 : st = 0 := by omega
        have HE : Hid (Q = (ks.drop (k + 1)).all fun a => decide (a.st ≠ 1) && (decide (a.st = 0) || a.back)) := by show Q = _; rw [HX.out]; simp [hs0]
        clear s1 s2 HX hst hs0
        go_wp2
        go_roundg (ks.length - (k + 1))
        case measure => omega
        case rel => exact ⟨k + 1, by omega, by omega, by go_num, HE, HBx⟩
end Go.Proofs.YtmlhipdfjnamiaaGreat
/- The contract of the document's IsTurn. -/
namespace Go.Proofs.YtmlhipdfjnamiaaGreat
open Go.RowKit
theorem walk_cons {t : List Bool} {k : Int} {W : List (List Int)} {i : Nat} (h : i < W.length) : Ld.turnWalk t k (W.drop i) = if k ∈ W.getD i [] then true else if Wv.isOpen t (W.getD i []) = true then false else Ld.turnWalk t k (W.drop (i + 1)) := by
  rw [dropL W [] i h, Ld.turnWalk]
theorem open_cons {t : List Bool} {m : List Int} {j : Nat} (h : j < m.length) : Wv.isOpen t (m.drop j) = (!t.getD (m.getD j 0).toNat true || Wv.isOpen t (m.drop (j + 1))) := by
  rw [dropL m 0 j h]; rfl
theorem thr_at {l : Ld.Leader} {o : Int} (h0 : 0 ≤ o) (h1 : o < l.ags.length) : (Ld.through l).getD o.toNat true = decide (2 ≤ (l.ags.getD o.toNat ⟨0, 0, false⟩).st) := by
  obtain ⟨n, rfl⟩ : ∃ n : Nat, o = n := ⟨o.toNat, by omega⟩
  have hn : n < l.ags.length := by omega
  rw [Int.toNat_natCast]
  unfold Ld.through
  simp [List.getD_eq_getElem?_getD, hn]
theorem turn_on_eq {cf : Ld.Config} {l : Ld.Leader} {k : Nat} (hc : Ld.chkLeader cf l = 0) (hk : k < l.ags.length) (hb : l.back = false) (hs : (l.ags.getD k ⟨0, 0, false⟩).st = 0) (hi : (Ld.count l 3 : Int) ≤ cf.budget) : Ld.isTurn cf l k = Ld.turnWalk (Ld.through l) k cf.waves := by
  have hf := Ld.lead_few hc
  have ht : (Ld.through l).getD ((k : Int).toNat) true = false := by
    rw [thr_at (by omega) (by omega), Int.toNat_natCast, hs]; rfl
  obtain ⟨_, _, hst, _⟩ := Wv.all_stand hf.2.2.1
  rw [Ld.turnWalk_eq ht cf.waves (hst k (by omega) (by omega)) 0]
  unfold Ld.isTurn
  rw [if_neg (by rw [hb]; decide), hs, decide_eq_true hi, decide_eq_true (rfl : (0 : Int) = 0), Bool.true_and, Bool.and_true]
  rfl
theorem turn_on_ill {cf : Ld.Config} {l : Ld.Leader} {k : Nat} (hb : l.back = false) (h : ¬ (l.ags.getD k ⟨0, 0, false⟩).st = 0 ∨ ¬ (Ld.count l 3 : Int) ≤ cf.budget) : Ld.isTurn cf l k = false := by
  unfold Ld.isTurn
  rw [if_neg (by rw [hb]; decide)]
  rcases h with h | h
  · rw [decide_eq_false h, Bool.false_and, Bool.false_and]
  · rw [decide_eq_false h, Bool.and_false]
theorem wave_in {cf : Ld.Config} {l : Ld.Leader} (hc : Ld.chkLeader cf l = 0) : ∀ w ∈ cf.waves, ∀ o ∈ w, 0 ≤ o ∧ o < l.ags.length := fun w hw o ho => by
  have hf := Ld.lead_few hc
  have := (Wv.all_stand hf.2.2.1).2.1 w hw
  have := this.2 o ho
  omega
theorem mem_getDW {W : List (List Int)} {i : Nat} (h : i < W.length) : W.getD i [] ∈ W := by
  rw [List.getD_eq_getElem?_getD, List.getElem?_eq_getElem h]; exact List.getElem_mem h
theorem mem_getDJ {W : List Int} {i : Nat} (h : i < W.length) : W.getD i 0 ∈ W := by
  rw [List.getD_eq_getElem?_getD, List.getElem?_eq_getElem h]; exact List.getElem_mem h
set_option maxHeartbeats 4000000 in
set_option maxRecDepth 100000 in
theorem turnR_any (cf : Ld.Config) (A B D : Value) (ld : Ld.Leader) (Y Z : Value) (k : Nat) (w : World) (hC : CfAt w cf A B D) (hL : LdAt w ld Y Z) (hc : Ld.chkLeader cf ld = 0) (hk : k < ld.ags.length) :
    Calls Tryz.prog 20 #[cfV cf A B D, leV ld Y Z, .int .i64 k] w fun e w' => e = .returned (.bool (Ld.isTurn cf ld k)) ∧ Below w.heap.size w w' := by
  have HCN : Hid (∀ (w' : World), Below w.heap.size w w' → Calls Tryz.prog 61 #[leV ld Y Z, .int .i64 3] w' fun e w'' => e = .returned (.int .i64 (Ld.count ld 3)) ∧ Below w'.heap.size w' w'') := fun w' hb => countR_any ld Y Z 3 w' (hL.below hb)
  have HBK : Hid (ld.back = true → Ld.isTurn cf ld k = (decide ((ld.ags.getD k ⟨0, 0, false⟩).st ≠ 0) && !(ld.ags.getD k ⟨0, 0, false⟩).back)) := fun h => by unfold Ld.isTurn; rw [if_pos h]
  have HIL : Hid (ld.back = false → (¬ (ld.ags.getD k ⟨0, 0, false⟩).st = 0 ∨ ¬ (Ld.count ld 3 : Int) ≤ cf.budget) → Ld.isTurn cf ld k = false) := fun h h2 => turn_on_ill h h2
  have HON : Hid (ld.back = false → (ld.ags.getD k ⟨0, 0, false⟩).st = 0 → (Ld.count ld 3 : Int) ≤ cf.budget → Ld.isTurn cf ld k = Ld.turnWalk (Ld.through ld) k cf.waves) := fun h1 h2 h3 => turn_on_eq hc hk h1 h2 h3
  have HWI : Hid (∀ w ∈ cf.waves, ∀ o ∈ w, 0 ≤ o ∧ o < ld.ags.length) := wave_in hc
  have HTA : Hid (∀ o : Int, 0 ≤ o → o < ld.ags.length → (Ld.through ld).getD o.toNat true = decide (2 ≤ (ld.ags.getD o.toNat ⟨0, 0, false⟩).st)) := fun o h0 h1 => thr_at h0 h1
  have hfew := cnt_few hc
  have hn6 := (Ld.lead_few hc).2.1
  obtain ⟨a4, c4, rfl⟩ := relA_slice hL.1
  obtain ⟨a5, c5, rfl⟩ := knows_slice hL.2
  have HKN : Hid (KnowsAt w (.slice a5 ld.ags.length c5) ld.ags) := hL.2
  obtain ⟨kb, ko, rfl, hkb, q1, q2, q3⟩ := knows_at hL.2 hk
  obtain ⟨rs, nw, g, bk, ks, nx⟩ := ld
  obtain ⟨f, L, R, W, d⟩ := cf
  obtain ⟨a3, c3, rfl⟩ := waves_slice hC.2.2
  obtain ⟨hll, A3, b, o, c3', e3, -, hA, hCc⟩ := hC.2.2
  simp only [Value.slice.injEq] at e3
  obtain ⟨rfl, -, rfl⟩ := e3
  unfold leV leC at HCN
  unfold cfV cfC leV leC
  simp only at HCN HON HBK HIL HWI HTA hfew hn6 HKN hk q1 q2 q3 hA hCc hll
  simp only
  have HA : Hid (0 < W.length → a3 = some ⟨b, o, none⟩ ∧ b < w.heap.size) := hA
  have HC : Hid (∀ j, j < W.length → ∃ u, w.cell? ⟨b, o + j, none⟩ = some u ∧ IntsAt w u (W.getD j [])) := hCc
  clear hL hc hC hA hCc
  generalize Ld.isTurn ⟨f, L, R, W, d⟩ ⟨rs, nw, g, bk, ks, nx⟩ k = Q at HON HBK HIL ⊢
  generalize Ld.through ⟨rs, nw, g, bk, ks, nx⟩ = T at HON HTA
  have hm36 : Ld.count ⟨rs, nw, g, bk, ks, nx⟩ 3 ≤ 6 := by omega
  generalize Ld.count ⟨rs, nw, g, bk, ks, nx⟩ 3 = m3 at HCN HON HIL hm36
  generalize hkn : ks.getD k ⟨0, 0, false⟩ = kn at q1 q2 q3 HBK HIL HON
  obtain ⟨st, tr, bb⟩ := kn
  simp only at q1 q2 q3 HBK HIL HON
  clear hfew hkn
  generalize rs.length = n4 at *
  generalize hn5 : ks.length = n5 at *
  have hn6i : (n5 : Int) ≤ 6 := by omega
  have hki : (k : Int) < n5 := by omega
  obtain ⟨hB0, hK0, hG0⟩ := box2 w #[.int .i64 f, A, B, .slice a3 W.length c3, .int .i64 d] #[.slice a4 n4 c4, .int .i64 nw, .int .i64 g, .bool bk, .slice (some ⟨kb, ko, none⟩) n5 c5, .int .i64 nx] 28 32
  have hA0 := box1 ((w.alloc (.cells #[.int .i64 f, A, B, .slice a3 W.length c3, .int .i64 d] 28)).alloc (.cells #[.slice a4 n4 c4, .int .i64 nw, .int .i64 g, .bool bk, .slice (some ⟨kb, ko, none⟩) n5 c5, .int .i64 nx] 32)) #[.int .i64 st, .int .i64 tr, .bool bb] 54
  have HB : Hid (Below w.heap.size w (((w.alloc (.cells #[.int .i64 f, A, B, .slice a3 W.length c3, .int .i64 d] 28)).alloc (.cells #[.slice a4 n4 c4, .int .i64 nw, .int .i64 g, .bool bk, .slice (some ⟨kb, ko, none⟩) n5 c5, .int .i64 nx] 32)).alloc (.cells #[.int .i64 st, .int .i64 tr, .bool bb] 54))) := hB0.trans (hA0.1.mono hB0.size)
  have HK : Hid (Blk (((w.alloc (.cells #[.int .i64 f, A, B, .slice a3 W.length c3, .int .i64 d] 28)).alloc (.cells #[.slice a4 n4 c4, .int .i64 nw, .int .i64 g, .bool bk, .slice (some ⟨kb, ko, none⟩) n5 c5, .int .i64 nx] 32)).alloc (.cells #[.int .i64 st, .int .i64 tr, .bool bb] 54)) w.heap.size #[.int .i64 f, A, B, .slice a3 W.length c3, .int .i64 d] 28) := hK0.below hA0.1
  have HG : Hid (Blk (((w.alloc (.cells #[.int .i64 f, A, B, .slice a3 W.length c3, .int .i64 d] 28)).alloc (.cells #[.slice a4 n4 c4, .int .i64 nw, .int .i64 g, .bool bk, .slice (some ⟨kb, ko, none⟩) n5 c5, .int .i64 nx] 32)).alloc (.cells #[.int .i64 st, .int .i64 tr, .bool bb] 54)) (w.heap.size + 1) #[.slice a4 n4 c4, .int .i64 nw, .int .i64 g, .bool bk, .slice (some ⟨kb, ko, none⟩) n5 c5, .int .i64 nx] 32) := hG0.below hA0.1
  have HX : Hid (Blk (((w.alloc (.cells #[.int .i64 f, A, B, .slice a3 W.length c3, .int .i64 d] 28)).alloc (.cells #[.slice a4 n4 c4, .int .i64 nw, .int .i64 g, .bool bk, .slice (some ⟨kb, ko, none⟩) n5 c5, .int .i64 nx] 32)).alloc (.cells #[.int .i64 st, .int .i64 tr, .bool bb] 54)) ((w.alloc (.cells #[.int .i64 f, A, B, .slice a3 W.length c3, .int .i64 d] 28)).alloc (.cells #[.slice a4 n4 c4, .int .i64 nw, .int .i64 g, .bool bk, .slice (some ⟨kb, ko, none⟩) n5 c5, .int .i64 nx] 32)).heap.size #[.int .i64 st, .int .i64 tr, .bool bb] 54) := hA0.2
  have y1 := (hB0.cell (p := ⟨kb, ko + k * 3, none⟩) hkb).trans q1
  have y2 := (hB0.cell (p := ⟨kb, ko + k * 3 + 1, none⟩) hkb).trans q2
  have y3 := (hB0.cell (p := ⟨kb, ko + k * 3 + 2, none⟩) hkb).trans q3
  have kl0 := hG0.cell 0
  have kl1 := hG0.cell 1
  have kl2 := hG0.cell 2
  have kl3 := hG0.cell 3
  have kl4 := hG0.cell 4
  have kl5 := hG0.cell 5
  simp only [List.getElem?_toArray, List.getElem?_cons_zero, List.getElem?_cons_succ] at kl0 kl1 kl2 kl3 kl4 kl5
  clear q1 q2 q3 hK0 hA0
  go_enter Tryz.func20, Tryz.ntmps20
  go_upto_region 1 with fail
  generalize ((w.alloc (.cells #[.int .i64 f, A, B, .slice a3 W.length c3, .int .i64 d] 28)).alloc (.cells #[.slice a4 n4 c4, .int .i64 nw, .int .i64 g, .bool bk, .slice (some ⟨kb, ko, none⟩) n5 c5, .int .i64 nx] 32)) = V0 at *
  go_upto_region 2 with fail
  generalize V0.heap.size = ga at HX ⊢
  generalize (V0.alloc (.cells #[.int .i64 st, .int .i64 tr, .bool bb] 54)) = V at *
  clear y1 y2 y3 kl0 kl1 kl2 kl3 kl4 kl5 hG0 hB0
  cases bk
  rotate_left
  · have HQ : Hid (Q = (decide (st ≠ 0) && !bb)) := HBK.out rfl
    have kg0 := HG.out.cell 0
    have kg1 := HG.out.cell 1
    have kg2 := HG.out.cell 2
    have kg3 := HG.out.cell 3
    have kg4 := HG.out.cell 4
    have kg5 := HG.out.cell 5
    simp only [List.getElem?_toArray, List.getElem?_cons_zero, List.getElem?_cons_succ] at kg0 kg1 kg2 kg3 kg4 kg5
    have kx0 := HX.out.cell 0
    have kx1 := HX.out.cell 1
    have kx2 := HX.out.cell 2
    simp only [List.getElem?_toArray, List.getElem?_cons_zero, List.getElem?_cons_succ] at kx0 kx1 kx2
    clear HBK HIL HON HCN HWI HTA HA HC HKN HK HG HX
    cases bb
    · have HE : Hid (Q = (st != 0)) := by
        show Q = _
        rw [HQ.out, Bool.not_false, Bool.and_true]
        by_cases h : st = 0 <;> simp [h]
      clear HQ
      go_wp2
      go_ret
      exact ⟨by rw [HE.out]; rfl, HB.out⟩
    · have HE : Hid (Q = false) := by show Q = _; rw [HQ.out, Bool.not_true, Bool.and_false]
      clear HQ
      go_wp2
      go_ret
      exact ⟨by rw [HE.out]; rfl, HB.out⟩
  have kg0 := HG.out.cell 0
  have kg1 := HG.out.cell 1
  have kg2 := HG.out.cell 2
  have kg3 := HG.out.cell 3
  have kg4 := HG.out.cell 4
  have kg5 := HG.out.cell 5
  simp only [List.getElem?_toArray, List.getElem?_cons_zero, List.getElem?_cons_succ] at kg0 kg1 kg2 kg3 kg4 kg5
  go_upto_region 4 with fail
  clear kg0 kg1 kg2 kg3 kg4 kg5 HBK
  have cl1 := fun (d' : Nat) (os : Array Obj) => Calls.regrown_of (HCN.out (Sort.grow (redrawn V d') os) (HB.out.trans ((below_regrown V d' os).mono HB.out.size)))
  have rk0 := cell_regrown (show _ = some _ from HK.out.cell 0)
  have rk1 := cell_regrown (show _ = some _ from HK.out.cell 1)
  have rk2 := cell_regrown (show _ = some _ from HK.out.cell 2)
  have rk3 := cell_regrown (show _ = some _ from HK.out.cell 3)
  have rk4 := cell_regrown (show _ = some _ from HK.out.cell 4)
  have rg0 := cell_regrown (show _ = some _ from HG.out.cell 0)
  have rg1 := cell_regrown (show _ = some _ from HG.out.cell 1)
  have rg2 := cell_regrown (show _ = some _ from HG.out.cell 2)
  have rg3 := cell_regrown (show _ = some _ from HG.out.cell 3)
  have rg4 := cell_regrown (show _ = some _ from HG.out.cell 4)
  have rg5 := cell_regrown (show _ = some _ from HG.out.cell 5)
  have rx0 := cell_regrown (show _ = some _ from HX.out.cell 0)
  have rx1 := cell_regrown (show _ = some _ from HX.out.cell 1)
  have rx2 := cell_regrown (show _ = some _ from HX.out.cell 2)
  have hm3 : (m3 : Int) ≤ 6 := by omega
  clear HCN
  by_cases s0 : st = 0
  rotate_left
  · have HE : Hid (Q = false) := HIL.out rfl (.inl s0)
    have s0' : (st != 0) = true := by rw [bne_iff_ne]; exact s0
    clear s0 HIL HON HWI HTA HA HC HKN HK HG HX
    refine wp_region_quiet_below (by kernel_rfl) (by kernel_rfl) ?_
    repeat (go_big_quiet_step (with_reducible exact cl1 _ _))
    refine wpQuiet_nil ?_
    intro _ hw'
    obtain ⟨⟨dq, osq⟩, hw''⟩ := hw'
    subst hw''
    have HB6 : Hid (Below w.heap.size w (Sort.grow (redrawn V dq) osq)) := HB.out.trans ((below_regrown V dq osq).mono HB.out.size)
    clear cl1
    go_wp2
    go_ret
    exact ⟨by rw [HE.out]; rfl, HB6.out⟩
  subst s0
  by_cases i3 : (m3 : Int) ≤ d
  rotate_left
  · have HE : Hid (Q = false) := HIL.out rfl (.inr i3)
    have i3' : decide (d < (m3 : Int)) = true := decide_eq_true (Int.not_le.1 i3)
    clear i3 HIL HON HWI HTA HA HC HKN HK HG HX
    refine wp_region_quiet_below (by kernel_rfl) (by kernel_rfl) ?_
    repeat (go_big_quiet_step (with_reducible exact cl1 _ _))
    refine wpQuiet_nil ?_
    intro _ hw'
    obtain ⟨⟨dq, osq⟩, hw''⟩ := hw'
    subst hw''
    have HB6 : Hid (Below w.heap.size w (Sort.grow (redrawn V dq) osq)) := HB.out.trans ((below_regrown V dq osq).mono HB.out.size)
    clear cl1
    go_wp2
    go_ret
    exact ⟨by rw [HE.out]; rfl, HB6.out⟩
  have HQ : Hid (Q = Ld.turnWalk T (k : Int) W) := HON.out rfl rfl i3
  have i3' : decide (d < (m3 : Int)) = false := decide_eq_false (Int.not_lt.2 i3)
  clear i3 HIL HON
  refine wp_region_quiet_below (by kernel_rfl) (by kernel_rfl) ?_
  repeat (go_big_quiet_step (with_reducible exact cl1 _ _))
  refine wpQuiet_nil ?_
  intro _ hw'
  obtain ⟨⟨dq, osq⟩, hw''⟩ := hw'
  subst hw''
  have HB6 : Hid (Below w.heap.size w (Sort.grow (redrawn V dq) osq)) := HB.out.trans ((below_regrown V dq osq).mono HB.out.size)
  have HK5 := HK.out.below (below_regrown V dq osq)
  have HG5 := HG.out.below (below_regrown V dq osq)
  have HKN5 : Hid (KnowsAt (Sort.grow (redrawn V dq) osq) (.slice (some ⟨kb, ko, none⟩) n5 c5) ks) := HKN.out.below HB6.out
  clear cl1 HK HG HX HKN rk0 rk1 rk2 rk3 rk4 rg0 rg1 rg2 rg3 rg4 rg5 rx0 rx1 rx2
  generalize (Sort.grow (redrawn V dq) osq) = V5 at *
  have kw := HK5.cell 3
  have kz := HG5.cell 4
  simp only [List.getElem?_toArray, List.getElem?_cons_zero, List.getElem?_cons_succ] at kw kz
  clear HK5 HG5
  go_wp2_with fail
  go_loopg [40] W.length (fun gi s40 wr => ∃ i : Nat, i ≤ W.length ∧ W.length - i ≤ gi ∧ s40 = .int .i64 i ∧ Hid (Q = Ld.turnWalk T (k : Int) (W.drop i)) ∧ V5 = wr)
  case atStart => exact ⟨0, Nat.zero_le _, by omega, rfl, HQ, rfl⟩
  case round =>
    obtain ⟨i, hi, hgi, rfl, HXi, rfl⟩ := hrel
    clear HQ kw
    by_cases hlt : i < W.length
    rotate_left
    · have hi' : i = W.length := by omega
      have HE : Hid (Q = false) := by rw [HXi.out, hi', List.drop_length]; rfl
      subst hi'
      clear hlt HXi
      go_wp2
      go_ret
      exact ⟨by rw [HE.out]; rfl, HB6.out⟩
    obtain ⟨rfl, hbw⟩ := HA.out (by omega)
    obtain ⟨u, hu, hI⟩ := HC.out i hlt
    rw [← HB6.out.cell (p := ⟨b, _, none⟩) hbw] at hu
    have hI5 := hI.below HB6.out
    have hX := HXi.out
    rw [walk_cons hlt] at hX
    have HWm : Hid (∀ o ∈ W.getD i [], 0 ≤ o ∧ o < (n5 : Int)) := HWI.out _ (mem_getDW hlt)
    generalize W.getD i [] = m at hI5 hX HWm
    have HCI := containsI_any u m (k : Int) V5 hI5
    obtain ⟨hlm, B2, b2, o2, c2', rfl, hcl, hA2, hC2⟩ := hI5
    have HA2 : Hid (0 < m.length → B2 = some ⟨b2, o2, none⟩ ∧ b2 < V5.heap.size) := hA2
    have HC2 : Hid (∀ j, j < m.length → V5.cell? ⟨b2, o2 + j, none⟩ = some (.int .i64 (m.getD j 0))) := hC2
    have HXm : Hid (Q = if (k : Int) ∈ m then true else if Wv.isOpen T m = true then false else Ld.turnWalk T (k : Int) (W.drop (i + 1))) := hX
    have hiw : (i : Int) < W.length := by omega
    have hll2 : (W.length : Int) ≤ 70368744177664 := by omega
    have hlm2 : (m.length : Int) ≤ 70368744177664 := by omega
    clear hI hX HXi hA2 hC2
    go_wp2_with fail
    refine HCI.mono ?_
    rintro e w3 ⟨rfl, rfl⟩
    clear HCI hu
    by_cases hkm : (k : Int) ∈ m
    · have HE : Hid (Q = true) := by rw [HXm.out, if_pos hkm]; rfl
      have hkm' : decide ((k : Int) ∈ m) = true := decide_eq_true hkm
      clear hkm HXm
      go_wp2
      go_ret
      exact ⟨by rw [HE.out]; rfl, HB6.out⟩
    have hkm' : decide ((k : Int) ∈ m) = false := decide_eq_false hkm
    have HXn : Hid (Q = if Wv.isOpen T m = true then false else Ld.turnWalk T (k : Int) (W.drop (i + 1))) := by rw [HXm.out, if_neg hkm]; rfl
    clear hkm HXm
    go_wp2_with fail
    go_loopg [49] m.length (fun gj s49 wr => ∃ j : Nat, j ≤ m.length ∧ m.length - j ≤ gj ∧ s49 = .int .i64 j ∧ Hid (Wv.isOpen T m = Wv.isOpen T (m.drop j)) ∧ w3 = wr)
    case atStart => exact ⟨0, Nat.zero_le _, by omega, rfl, rfl, rfl⟩
    case round =>
      obtain ⟨j, hj, hgj, rfl, HOj, rfl⟩ := hrel
      by_cases hjl : j < m.length
      rotate_left
      · have hj' : j = m.length := by omega
        have HE : Hid (Q = Ld.turnWalk T (k : Int) (W.drop (i + 1))) := by
          rw [HXn.out, if_neg (by rw [HOj.out, hj', List.drop_length]; simp [Wv.isOpen])]; rfl
        subst hj'
        clear hjl HOj HXn
        go_wp2
        go_roundg (W.length - (i + 1))
        case measure => omega
        case rel => exact ⟨i + 1, by omega, by omega, by go_num, HE, rfl⟩
      obtain ⟨rfl, hb2⟩ := HA2.out (by omega)
      have hoc := HC2.out j hjl
      have hom := HWm.out _ (mem_getDJ hjl)
      have hO := HOj.out
      rw [open_cons hjl, HTA.out _ hom.1 hom.2] at hO
      generalize m.getD j 0 = ov at hoc hom hO
      obtain ⟨n, rfl⟩ : ∃ n : Nat, ov = n := ⟨ov.toNat, by omega⟩
      rw [Int.toNat_natCast] at hO
      obtain ⟨kb', ko', e2, hkb', z1, z2, z3⟩ := knows_at HKN5.out (show n < ks.length by omega)
      cases e2
      generalize ks.getD n ⟨0, 0, false⟩ = kq at z1 z2 z3 hO
      obtain ⟨sq, tq, bq⟩ := kq
      simp only at z1 z2 z3 hO
      have HO : Hid (Wv.isOpen T m = (!decide (2 ≤ sq) || Wv.isOpen T (m.drop (j + 1)))) := hO
      have hnn : (n : Int) < n5 := hom.2
      have hjm : (j : Int) < m.length := by omega
      clear hO hom HOj
      by_cases s2 : sq < 2
      · have HE : Hid (Q = false) := by rw [HXn.out, if_pos (by rw [HO.out, decide_eq_false (by omega)]; rfl)]; rfl
        have s2' : decide (sq < 2) = true := decide_eq_true s2
        clear s2 HO HXn
        go_wp2
        go_ret
        exact ⟨by rw [HE.out]; rfl, HB6.out⟩
      have HO2 : Hid (Wv.isOpen T m = Wv.isOpen T (m.drop (j + 1))) := by rw [HO.out, decide_eq_true (by omega)]; rfl
      have s2' : decide (sq < 2) = false := decide_eq_false s2
      clear s2 HO
      go_wp2
      go_roundg (m.length - (j + 1))
      case measure => omega
      case rel => exact ⟨j + 1, by omega, by omega, by go_num, HO2, rfl⟩
end Go.Proofs.YtmlhipdfjnamiaaGreat
