/- The contracts of the document's AgentsOf, Counted and GoalOf. -/
import Derived.Test.YtcnnejndmafniaaLVL
namespace Go.Proofs.Ytcnnejndmafniaa
open Go.RowKit
/-- how many agents the document counts: 7 of more than six -/
def agR (c : Ld.Config) : Nat := if Ld.many c ≤ 6 then Ld.many c else 7
theorem agR_chk (c : Ld.Config) : Wv.chk c.waves (agR c) = Wv.chk c.waves (Ld.many c) := by
  unfold agR
  by_cases h : Ld.many c ≤ 6
  · rw [if_pos h]
  · rw [if_neg h]; unfold Wv.chk; rw [if_neg (by omega), if_neg (by omega)]
theorem agR_ok {c : Ld.Config} (h : Ld.chkConfig c = 0) : agR c = Ld.many c := by
  unfold agR; rw [if_pos (Ld.agents_ok h).2.1]
theorem agR_agents (c : Ld.Config) : Ld.agents c = agR c ∨ (7 ≤ Ld.agents c ∧ 7 ≤ agR c) := by
  unfold agR
  rcases Ld.agents_eq c with e | ⟨e1, e2⟩
  · by_cases h : Ld.many c ≤ 6
    · left; rw [if_pos h]; exact e
    · right; rw [if_neg h]; omega
  · right; rw [if_neg (by omega)]; omega
set_option maxHeartbeats 4000000 in
theorem agR_any (cf : Ld.Config) (A B D : Value) (w : World) (hC : CfAt w cf A B D) :
    Calls Try.prog 18 #[cfV cf A B D] w fun e w' => e = .returned (.int .i64 (agR cf)) ∧ Below w.heap.size w w' := by
  obtain ⟨f, L, R, W, d⟩ := cf
  obtain ⟨a1, c1, rfl⟩ := pins_slice hC.1
  obtain ⟨a2, c2, rfl⟩ := rules_slice hC.2.1
  obtain ⟨a3, c3, rfl⟩ := waves_slice hC.2.2
  obtain ⟨hB0, hK0⟩ := box1 w #[.int .i64 f, .slice a1 L.length c1, .slice a2 R.length c2, .slice a3 W.length c3, .int .i64 d] 28
  have HS7 : Hid (6 < W.flatten.length → agR ⟨f, L, R, W, d⟩ = 7) := fun h => by unfold agR Ld.many; rw [if_neg (by simp only []; omega)]
  have HS : Hid (W.flatten.length ≤ 6 → agR ⟨f, L, R, W, d⟩ = W.flatten.length) := fun h => by unfold agR Ld.many; rw [if_pos h]
  obtain ⟨hll, A3, b, o, c3', e3, -, hA, hCc⟩ := hC.2.2
  simp only [Value.slice.injEq] at e3
  obtain ⟨rfl, -, rfl⟩ := e3
  have HA : Hid (0 < W.length → a3 = some ⟨b, o, none⟩ ∧ b < w.heap.size) := hA
  have HC : Hid (∀ j, j < W.length → ∃ u, w.cell? ⟨b, o + j, none⟩ = some u ∧ IntsAt w u (W.getD j [])) := hCc
  unfold cfV cfC
  simp only
  generalize agR ⟨f, L, R, W, d⟩ = Q at HS HS7 ⊢
  have HB0 : Hid (Below w.heap.size w (w.alloc (.cells #[.int .i64 f, .slice a1 L.length c1, .slice a2 R.length c2, .slice a3 W.length c3, .int .i64 d] 28))) := hB0
  have k2 := hK0.cell 3
  simp only [List.getElem?_toArray, List.getElem?_cons_zero, List.getElem?_cons_succ] at k2
  clear hC hA hCc hB0 hK0
  generalize L.length = n1 at *
  generalize R.length = n2 at *
  go_enter Try.func18, Try.ntmps18
  go_wp2
  go_loopg [3, 9] W.length (fun g s3 s9 wr => ∃ k s : Nat, k ≤ W.length ∧ W.length - k ≤ g ∧ s3 = .int .i64 s ∧ s9 = .int .i64 k ∧ s ≤ 6 ∧ Hid (s + (W.drop k).flatten.length = W.flatten.length) ∧ wr = (w.alloc (.cells #[.int .i64 f, .slice a1 n1 c1, .slice a2 n2 c2, .slice a3 W.length c3, .int .i64 d] 28)))
  case atStart => exact ⟨0, 0, Nat.zero_le _, by omega, rfl, rfl, by omega, Nat.zero_add _, rfl⟩
  case round =>
    obtain ⟨k, s, hk, hg, rfl, rfl, hs, H, rfl⟩ := hrel
    by_cases hlt : k < W.length
    rotate_left
    · have hk' : k = W.length := by omega
      have HE : Hid (Q = s) := by
        have := H.out
        rw [hk', List.drop_length, List.flatten_nil, List.length_nil, Nat.add_zero] at this
        exact (HS.out (by omega)).trans this.symm
      subst hk'
      clear hk hlt HA HC H HS HS7
      go_wp2
      go_ret
      exact ⟨by rw [HE.out]; rfl, HB0.out⟩
    obtain ⟨rfl, hbw⟩ := HA.out (by omega)
    obtain ⟨u, hu, hI⟩ := HC.out k hlt
    obtain ⟨hlm, B2, b2, o2, c2', rfl, -, -, -⟩ := hI
    rw [← HB0.out.cell (p := ⟨b, _, none⟩) hbw] at hu
    have hd := H.out
    rw [dropL W [] k hlt, List.flatten_cons, List.length_append] at hd
    have HD : Hid (s + ((W.getD k []).length + (W.drop (k + 1)).flatten.length) = W.flatten.length) := hd
    generalize (W.getD k []).length = m at hlm hu HD
    clear HA HC hd H
    go_wp2
    go_loopg [3, 15] m (fun g2 s3 s15 wr => ∃ j : Nat, j ≤ m ∧ m - j ≤ g2 ∧ s3 = .int .i64 ((s + j : Nat) : Int) ∧ s15 = .int .i64 j ∧ s + j ≤ 6 ∧ wr = (w.alloc (.cells #[.int .i64 f, .slice a1 n1 c1, .slice a2 n2 c2, .slice (some ⟨b, o, none⟩) W.length c3, .int .i64 d] 28)))
    case atStart => exact ⟨0, Nat.zero_le _, by omega, rfl, rfl, by omega, rfl⟩
    case round =>
      obtain ⟨j, hj, hgj, rfl, rfl, hs6, rfl⟩ := hrel
      by_cases hjm : j < m
      rotate_left
      · have hj' : j = m := by omega
        subst hj'
        have HE : Hid ((s + j) + (W.drop (k + 1)).flatten.length = W.flatten.length) := by have := HD.out; show _ = _; omega
        clear HD hjm
        go_wp2
        go_roundg (W.length - (k + 1))
        case measure => omega
        case rel => exact ⟨k + 1, s + j, by omega, by omega, rfl, by go_num, by omega, HE, rfl⟩
      by_cases h6 : s + j + 1 > 6
      · have HE : Hid (Q = 7) := HS7.out (by have := HD.out; omega)
        have hs5 : s + j = 6 := by omega
        have hjm' : (j : Int) < m := by omega
        clear HD HS HS7 h6
        rw [hs5]
        go_wp2
        go_ret
        exact ⟨by rw [HE.out]; rfl, HB0.out⟩
      · have h6' : decide ((6 : Int) < ((s + j : Nat) : Int) + 1) = false := decide_eq_false (by omega)
        have hjm' : (j : Int) < m := by omega
        have hsj : ((s + j : Nat) : Int) ≤ 5 := by omega
        generalize hq : s + j = q at *
        clear HD h6
        go_wp2
        go_roundg (m - (j + 1))
        case measure => omega
        case rel => exact ⟨j + 1, by omega, by omega, by rw [← Nat.add_assoc, hq]; go_num, by go_num, by omega, rfl⟩
set_option maxHeartbeats 4000000 in
theorem countR_any (ld : Ld.Leader) (Y Z : Value) (s : Int) (w : World) (hL : LdAt w ld Y Z) :
    Calls Try.prog 51 #[leV ld Y Z, .int .i64 s] w fun e w' => e = .returned (.int .i64 (Ld.count ld s)) ∧ Below w.heap.size w w' := by
  obtain ⟨rs, nw, g, bk, ks, nx⟩ := ld
  obtain ⟨a4, c4, rfl⟩ := relA_slice hL.1
  obtain ⟨a5, c5, rfl⟩ := knows_slice hL.2
  have HL : Hid (KnowsAt w (.slice a5 ks.length c5) ks) := hL.2
  have hlen := hL.2.1
  have HQ : Hid (Ld.count ⟨rs, nw, g, bk, ks, nx⟩ s = (ks.filter fun a => a.st == s).length) := rfl
  clear hL
  unfold leV leC
  simp only
  generalize Ld.count ⟨rs, nw, g, bk, ks, nx⟩ s = Q at HQ ⊢
  generalize rs.length = n4
  obtain ⟨hB0, hK0⟩ := box1 w #[.slice a4 n4 c4, .int .i64 nw, .int .i64 g, .bool bk, .slice a5 ks.length c5, .int .i64 nx] 32
  have k4 := hK0.cell 4
  simp only [List.getElem?_toArray, List.getElem?_cons_zero, List.getElem?_cons_succ] at k4
  have HB0 : Hid (Below w.heap.size w _) := hB0
  clear hB0 hK0
  go_enter Try.func51, Try.ntmps51
  go_wp2
  go_loopg [5, 11] ks.length (fun g' s5 s11 wr => ∃ k n : Nat, k ≤ ks.length ∧ ks.length - k ≤ g' ∧ n ≤ k ∧ s5 = .int .i64 n ∧ s11 = .int .i64 k ∧ Hid (n + ((ks.drop k).filter fun a => a.st == s).length = (ks.filter fun a => a.st == s).length) ∧ Hid (Below w.heap.size w wr))
  case atStart => exact ⟨0, 0, Nat.zero_le _, by omega, by omega, rfl, rfl, (by show _ = _; simp), HB0⟩
  case round =>
    obtain ⟨k, n, hk, hg, hn, rfl, rfl, H, HB⟩ := hrel
    clear k4 HB0
    by_cases hlt : k < ks.length
    · obtain ⟨b, o, rfl, hbw, g1, g2, g3⟩ := knows_at (HL.out.below HB.out) hlt
      have hc := count_step hlt s n
      rw [H.out] at hc
      have HH : Hid ((n + if ((ks.getD k ⟨0, 0, false⟩).st == s) = true then 1 else 0) + ((ks.drop (k + 1)).filter fun a => a.st == s).length = (ks.filter fun a => a.st == s).length) := hc.symm
      clear hc H
      generalize ks.getD k ⟨0, 0, false⟩ = p at g1 g2 g3 HH
      obtain ⟨st, t, bb⟩ := p
      simp only at g1 g2 g3
      have HB1 : Hid (∀ O, Below w.heap.size w (wr.alloc O)) := fun O => HB.out.alloc HB.out.size O
      have hkl : (ks.length : Int) ≤ 140737488355328 := by omega
      clear HB
      by_cases h3 : st = s
      · subst h3
        have HN : Hid ((n + 1) + ((ks.drop (k + 1)).filter fun a => a.st == st).length = (ks.filter fun a => a.st == st).length) := by
          have := HH.out
          rw [if_pos (by simp)] at this
          exact this
        clear HH
        go_wp2
        go_roundg (ks.length - (k + 1))
        case measure => omega
        case rel => exact ⟨k + 1, n + 1, by omega, by omega, by omega, by go_num, by go_num, HN, HB1.out _⟩
      · have h3' : (st == s) = false := by simpa using h3
        have HN : Hid (n + ((ks.drop (k + 1)).filter fun a => a.st == s).length = (ks.filter fun a => a.st == s).length) := by
          have := HH.out
          rw [if_neg (by simpa using h3)] at this
          exact this
        clear HH h3
        go_wp2
        go_roundg (ks.length - (k + 1))
        case measure => omega
        case rel => exact ⟨k + 1, n, by omega, by omega, by omega, rfl, by go_num, HN, HB1.out _⟩
    · have hk' : k = ks.length := by omega
      have HN : Hid ((ks.filter fun a => a.st == s).length = n) := by
        have := H.out
        rw [hk', List.drop_length] at this
        exact this.symm
      subst hk'
      clear hk hlt H
      go_wp2
      go_ret
      exact ⟨by rw [HQ.out, HN.out]; rfl, HB.out⟩
set_option maxHeartbeats 4000000 in
theorem goalR_any (cf : Ld.Config) (ld : Ld.Leader) (Y Z : Value) (w : World) (hL : LdAt w ld Y Z) (hc : Ld.chkLeader cf ld = 0) (hg : ld.goal ≠ 0) :
    Calls Try.prog 22 #[leV ld Y Z] w fun e w' => (∃ y, e = .returned (relV (Ld.goalOf ld).1 y) ∧ PinsAt w' y (Ld.goalOf ld).2) ∧ Below w.heap.size w w' := by
  obtain ⟨j, hj, he, hgo, h12, h6⟩ := turn_at hc hg
  rw [hgo]
  obtain ⟨a4, c4, rfl⟩ := relA_slice hL.1
  obtain ⟨a5, c5, rfl⟩ := knows_slice hL.2
  obtain ⟨b, o, v, rfl, hbw, g1, g2, hP⟩ := relA_at hL.1 hj
  obtain ⟨rs, nw, g, bk, ks, nx⟩ := ld
  obtain ⟨a, c, rfl⟩ := pins_slice hP
  have HP : Hid (PinsAt w (.slice a (rs.getD j (0, [])).2.length c) (rs.getD j (0, [])).2) := hP
  simp only at hj he h6 g1 g2
  clear hL hP hc hgo h12
  unfold leV leC relV
  simp only
  generalize rs.getD j (0, []) = p at g1 g2 HP
  obtain ⟨i, l⟩ := p
  simp only at g1 g2 HP ⊢
  generalize ks.length = n5
  obtain ⟨hB0, hK0, hZ0⟩ := box2 w #[.slice (some ⟨b, o, none⟩) rs.length c4, .int .i64 nw, .int .i64 g, .bool bk, .slice a5 n5 c5, .int .i64 nx] #[.int .i64 0, .slice none 0 0] 32 24
  have kl0 := hK0.cell 0
  have kl1 := hK0.cell 1
  have kl2 := hK0.cell 2
  have kl3 := hK0.cell 3
  simp only [List.getElem?_toArray, List.getElem?_cons_zero, List.getElem?_cons_succ] at kl0 kl1 kl2 kl3
  have kz0 := hZ0.cell 0
  have kz1 := hZ0.cell 1
  simp only [List.getElem?_toArray, List.getElem?_cons_zero, List.getElem?_cons_succ] at kz0 kz1
  have kzf0 := hZ0.free 0
  have kzf1 := hZ0.free 1
  have q1 := (hB0.cell (p := ⟨b, o + j * 2, none⟩) hbw).trans g1
  have q2 := (hB0.cell (p := ⟨b, o + j * 2 + 1, none⟩) hbw).trans g2
  have HB0 : Hid (Below w.heap.size w ((w.alloc (.cells #[.slice (some ⟨b, o, none⟩) rs.length c4, .int .i64 nw, .int .i64 g, .bool bk, .slice a5 n5 c5, .int .i64 nx] 32)).alloc (.cells #[.int .i64 0, .slice none 0 0] 24))) := hB0
  have HZ0 : Hid (Blk ((w.alloc (.cells #[.slice (some ⟨b, o, none⟩) rs.length c4, .int .i64 nw, .int .i64 g, .bool bk, .slice a5 n5 c5, .int .i64 nx] 32)).alloc (.cells #[.int .i64 0, .slice none 0 0] 24)) (w.heap.size + 1) #[.int .i64 0, .slice none 0 0] 24) := hZ0
  have hjn : (j : Int) < rs.length := by omega
  have hj0 : (0 : Int) ≤ j := by omega
  have hrs : (rs.length : Int) ≤ 6 := by omega
  go_enter Try.func22, Try.ntmps22
  go_upto_region 1 with fail
  generalize ((w.alloc (.cells #[.slice (some ⟨b, o, none⟩) rs.length c4, .int .i64 nw, .int .i64 g, .bool bk, .slice a5 n5 c5, .int .i64 nx] 32)).alloc (.cells #[.int .i64 0, .slice none 0 0] 24)) = V at *
  clear hB0 hK0 hZ0 g1 g2
  cases bk
  · have e1 : g - 1 = (j : Int) := by simpa using he
    have e2 : g = (j : Int) + 1 := by omega
    clear he e1 hg
    subst e2
    go_wp2
    have hbf := (HB0.out.setCell (p := ⟨w.heap.size + 1, 0, none⟩) (Nat.le_succ _) (.int .i64 i)).setCell (p := ⟨w.heap.size + 1, 1, none⟩) (Nat.le_succ _) (.slice a l.length c)
    exact bodyPost_ret (v := .agg #[.int .i64 i, .slice a l.length c]) (by simp [results, Try.results22, go_sem, kz0, kz1]) rfl ⟨⟨_, rfl, HP.out.below hbf⟩, hbf⟩
  · have e1 : nw - 1 = (j : Int) := by simpa using he
    have e2 : nw = (j : Int) + 1 := by omega
    clear he e1 hg
    subst e2
    go_wp2
    have hbf := (HB0.out.setCell (p := ⟨w.heap.size + 1, 0, none⟩) (Nat.le_succ _) (.int .i64 i)).setCell (p := ⟨w.heap.size + 1, 1, none⟩) (Nat.le_succ _) (.slice a l.length c)
    exact bodyPost_ret (v := .agg #[.int .i64 i, .slice a l.length c]) (by simp [results, Try.results22, go_sem, kz0, kz1]) rfl ⟨⟨_, rfl, HP.out.below hbf⟩, hbf⟩
end Go.Proofs.Ytcnnejndmafniaa
