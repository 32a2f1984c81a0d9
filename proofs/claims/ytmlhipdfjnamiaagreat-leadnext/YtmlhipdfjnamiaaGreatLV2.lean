/- The contracts of lead.checkReleases, checkNumbers, checkForm, checkKnown and checkAgents. -/
import Derived.Test.YtmlhipdfjnamiaaGreatLV1
namespace Go.Proofs.YtmlhipdfjnamiaaGreat
open Go.RowKit
def relE (R : List Rk.Rl) (rs : List (Int × List (Int × Int))) : Int := if 1 ≤ rs.length ∧ rs.length ≤ 6 then Ld.chkRels R 1 rs else 2
theorem dropRl (l : List (Int × List (Int × Int))) (k : Nat) (h : k < l.length) : l.drop k = l.getD k (0, []) :: l.drop (k + 1) := dropL l (0, []) k h
set_option maxHeartbeats 8000000 in
set_option maxRecDepth 100000 in
theorem checkRels_any (f d nw g nx : Int) (bk : Bool) (a1 a3 a5 : Option Addr) (n1 c1 n3 c3 n5 c5 : Nat) (R : List Rk.Rl) (rs : List (Int × List (Int × Int))) (B Q4 : Value) (w : World) (hR : RulesAt w B R) (hL : RelAt w Q4 rs) :
    Calls Tryz.prog 34 #[.agg #[.int .i64 f, .slice a1 n1 c1, B, .slice a3 n3 c3, .int .i64 d], .agg #[Q4, .int .i64 nw, .int .i64 g, .bool bk, .slice a5 n5 c5, .int .i64 nx]] w fun e w' => e = .returned (.int .i64 (relE R rs)) ∧ Below w.heap.size w w' := by
  obtain ⟨a2, c2, rfl⟩ := rules_slice hR
  obtain ⟨a4, c4, rfl⟩ := relA_slice hL
  have HR : Hid (RulesAt w (.slice a2 R.length c2) R) := hR
  have HL : Hid (RelAt w (.slice a4 rs.length c4) rs) := hL
  have HE : Hid (rs.length < 1 ∨ 6 < rs.length → relE R rs = 2) := fun h => by unfold relE; rw [if_neg]; omega
  have HF : Hid (1 ≤ rs.length → rs.length ≤ 6 → relE R rs = Ld.chkRels R 1 rs) := fun h1 h2 => by unfold relE; rw [if_pos ⟨h1, h2⟩]
  clear hR hL
  generalize relE R rs = Q at HE HF ⊢
  obtain ⟨hB0, hK0, hK1⟩ := box2 w #[.int .i64 f, .slice a1 n1 c1, .slice a2 R.length c2, .slice a3 n3 c3, .int .i64 d] #[.slice a4 rs.length c4, .int .i64 nw, .int .i64 g, .bool bk, .slice a5 n5 c5, .int .i64 nx] 28 32
  have k0 := hK1.cell 0
  simp only [List.getElem?_toArray, List.getElem?_cons_zero] at k0
  have HB0 : Hid (Below w.heap.size w _) := hB0
  have HK0 : Hid (Blk _ w.heap.size _ _) := hK0
  have HK1 : Hid (Blk _ (w.heap.size + 1) _ _) := hK1
  clear hB0 hK0 hK1
  generalize hn2 : R.length = n2 at *
  by_cases p1 : 1 ≤ rs.length
  rotate_left
  · have HQ : Hid (Q = 2) := HE.out (by omega)
    have p0 : rs.length = 0 := by omega
    rw [p0] at HB0 k0 ⊢
    clear HE HF HK0 HK1 HL
    go_enter Tryz.func34, Tryz.ntmps34
    go_wp2_with go_in
    go_ret
    exact ⟨by rw [HQ.out]; rfl, HB0.out⟩
  have p1' : (1 : Int) ≤ rs.length := by omega
  by_cases p2 : rs.length ≤ 6
  rotate_left
  · have HQ : Hid (Q = 2) := HE.out (by omega)
    have p2' : decide ((rs.length : Int) ≤ 6) = false := decide_eq_false (by omega)
    have p2'' : (6 : Int) < rs.length := by omega
    clear HE HF HK0 HK1 HL
    go_enter Tryz.func34, Tryz.ntmps34
    go_wp2_with go_in
    go_ret
    exact ⟨by rw [HQ.out]; rfl, HB0.out⟩
  have p2' : (rs.length : Int) ≤ 6 := by omega
  have HQ : Hid (Q = Ld.chkRels R 1 rs) := HF.out p1 p2
  clear HE HF
  go_enter Tryz.func34, Tryz.ntmps34
  go_wp2_with go_in
  go_loopg [16] rs.length (fun g s16 wr => ∃ k : Nat, k ≤ rs.length ∧ rs.length - k ≤ g ∧ s16 = .int .i64 k ∧ Hid (Ld.chkRels R ((k : Int) + 1) (rs.drop k) = Ld.chkRels R 1 rs) ∧ Hid (Blk wr w.heap.size #[.int .i64 f, .slice a1 n1 c1, .slice a2 n2 c2, .slice a3 n3 c3, .int .i64 d] 28) ∧ Hid (Below w.heap.size w wr))
  case atStart => exact ⟨0, Nat.zero_le _, by omega, rfl, rfl, HK0, HB0⟩
  case round =>
    obtain ⟨k, hk, hg, rfl, H, HK, HB⟩ := hrel
    clear k0 HB0 HK0 HK1
    by_cases hlt : k < rs.length
    · obtain ⟨b, o, v, rfl, hbw, g1, g2, hP⟩ := relA_at (HL.out.below HB.out) hlt
      obtain ⟨a, c, rfl⟩ := pins_slice hP
      have hd := dropRl rs k hlt
      have HKP : Hid (∀ w', Below wr.heap.size wr w' → Calls Tryz.prog 69 #[.slice a (rs.getD k (0, [])).2.length c, .slice a2 n2 c2] w' fun e w'' => e = .returned (.int .i64 (Ld.ruled (rs.getD k (0, [])).2 R)) ∧ Below w'.heap.size w' w'') := fun w' hb' => kept_any _ _ _ R w' (hP.below hb') (by have := HR.out.below (HB.out.trans (hb'.mono HB.out.size)); exact this)
      have H' := H.out
      rw [hd, Ld.chkRels] at H'
      have HX : Hid ((if Ld.ruled (rs.getD k (0, [])).2 R = 0 then (if (rs.getD k (0, [])).1 = (k : Int) + 1 then Ld.chkRels R ((k : Int) + 1 + 1) (rs.drop (k + 1)) else 4) else Ld.ruled (rs.getD k (0, [])).2 R) = Ld.chkRels R 1 rs) := H'
      clear hd H' H hP
      generalize rs.getD k (0, []) = p at g1 g2 HKP HX
      obtain ⟨i, l⟩ := p
      simp only at g1 g2
      simp only at HKP HX
      generalize Ld.ruled l R = E at HKP HX
      generalize l.length = n at g2 HKP
      have kr := HK.out.cell 2
      simp only [List.getElem?_toArray, List.getElem?_cons_zero, List.getElem?_cons_succ] at kr
      have hlb := HK.out.lt
      have hx := box1 wr #[.int .i64 i, .slice a n c] 24
      have HX0 : Hid (Below wr.heap.size wr (wr.alloc (.cells #[.int .i64 i, .slice a n c] 24)) ∧ Blk (wr.alloc (.cells #[.int .i64 i, .slice a n c] 24)) wr.heap.size #[.int .i64 i, .slice a n c] 24) := hx
      clear hx
      go_wp2_with fail
      refine (HKP.out _ HX0.out.1).mono ?_
      rintro e w1 ⟨rfl, hb1⟩
      have r0 := (HX0.out.2.below hb1).cell 0
      simp only [List.getElem?_toArray, List.getElem?_cons_zero] at r0
      have HB1 : Hid (Below w.heap.size w w1) := (HB.out.trans (HX0.out.1.mono HB.out.size)).trans (hb1.mono (Nat.le_trans HB.out.size HX0.out.1.size))
      have HK1 : Hid (Blk w1 w.heap.size #[.int .i64 f, .slice a1 n1 c1, .slice a2 n2 c2, .slice a3 n3 c3, .int .i64 d] 28) := (HK.out.below HX0.out.1).below hb1
      clear hb1 HX0 HB HK HKP kr
      by_cases e0 : E = 0
      · subst e0
        by_cases ei : i = (k : Int) + 1
        · have HN : Hid (Ld.chkRels R (((k + 1 : Nat) : Int) + 1) (rs.drop (k + 1)) = Ld.chkRels R 1 rs) := by
            have := HX.out
            rw [if_pos rfl, if_pos ei] at this
            exact this
          subst ei
          clear HX
          go_wp2
          go_roundg (rs.length - (k + 1))
          case measure => omega
          case rel => exact ⟨k + 1, by omega, by omega, by go_num, HN, HK1, HB1⟩
        · have HN : Hid (Q = 4) := by
            have := HX.out
            rw [if_pos rfl, if_neg ei] at this
            rw [HQ.out, ← this]; rfl
          have ei' : (i != (k : Int) + 1) = true := by rw [bne_iff_ne]; exact ei
          clear HX ei
          go_wp2
          go_ret
          exact ⟨by rw [HN.out]; rfl, HB1.out⟩
      · have HN : Hid (Q = E) := by
          have := HX.out
          rw [if_neg e0] at this
          rw [HQ.out, ← this]; rfl
        have e0' : (E != 0) = true := by rw [bne_iff_ne]; exact e0
        clear HX e0
        go_wp2
        go_ret
        exact ⟨by rw [HN.out]; rfl, HB1.out⟩
    · have hk' : k = rs.length := by omega
      have HN : Hid (Q = 0) := by
        have := H.out
        rw [hk', List.drop_length, Ld.chkRels] at this
        rw [HQ.out, ← this]; rfl
      subst hk'
      clear hk hlt H HK
      go_wp2
      go_ret
      exact ⟨by rw [HN.out]; rfl, HB.out⟩
def numL (n : Nat) (nw g nx : Int) : Int := if (Lk.within nw 1 n && Lk.within g 0 n && Lk.within nx 1 201) = true then 0 else 3
set_option maxHeartbeats 4000000 in
theorem numbersL_any (nw g nx : Int) (bk : Bool) (a4 a5 : Option Addr) (n4 c4 n5 c5 : Nat) (w : World) :
    Calls Tryz.prog 35 #[.agg #[.slice a4 n4 c4, .int .i64 nw, .int .i64 g, .bool bk, .slice a5 n5 c5, .int .i64 nx]] w fun e w' => e = .returned (.int .i64 (numL n4 nw g nx)) ∧ Below w.heap.size w w' := by
  have HB : Hid (∀ O, Below w.heap.size w (w.alloc O)) := fun O => (Below.refl _ w).alloc (Nat.le_refl _) O
  have HE : Hid ((nw < 1 ∨ (n4 : Int) < nw ∨ g < 0 ∨ (n4 : Int) < g ∨ nx < 1 ∨ 201 < nx) → numL n4 nw g nx = 3) := fun h => by unfold numL; rw [if_neg]; simp [Lk.within]; omega
  have HF : Hid (1 ≤ nw → nw ≤ n4 → 0 ≤ g → g ≤ n4 → 1 ≤ nx → nx ≤ 201 → numL n4 nw g nx = 0) := fun h1 h2 h3 h4 h5 h6 => by unfold numL; rw [if_pos]; simp [Lk.within, h1, h2, h3, h4, h5, h6]
  generalize numL n4 nw g nx = Q at HE HF ⊢
  by_cases p1 : 1 ≤ nw
  rotate_left
  · have HQ : Hid (Q = 3) := HE.out (by omega)
    have p1' : decide (1 ≤ nw) = false := decide_eq_false p1
    have p1'' : nw < 1 := by omega
    clear HE HF
    go_enter Tryz.func35, Tryz.ntmps35
    go_wp2_with go_in
    go_ret
    exact ⟨by rw [HQ.out]; rfl, HB.out _⟩
  by_cases p2 : nw ≤ n4
  rotate_left
  · have HQ : Hid (Q = 3) := HE.out (by omega)
    have p2' : decide (nw ≤ n4) = false := decide_eq_false p2
    have p2'' : (n4 : Int) < nw := by omega
    clear HE HF
    go_enter Tryz.func35, Tryz.ntmps35
    go_wp2_with go_in
    go_ret
    exact ⟨by rw [HQ.out]; rfl, HB.out _⟩
  by_cases p3 : 0 ≤ g
  rotate_left
  · have HQ : Hid (Q = 3) := HE.out (by omega)
    have p3' : decide (0 ≤ g) = false := decide_eq_false p3
    have p3'' : g < 0 := by omega
    clear HE HF
    go_enter Tryz.func35, Tryz.ntmps35
    go_wp2_with go_in
    go_ret
    exact ⟨by rw [HQ.out]; rfl, HB.out _⟩
  by_cases p4 : g ≤ n4
  rotate_left
  · have HQ : Hid (Q = 3) := HE.out (by omega)
    have p4' : decide (g ≤ n4) = false := decide_eq_false p4
    have p4'' : (n4 : Int) < g := by omega
    clear HE HF
    go_enter Tryz.func35, Tryz.ntmps35
    go_wp2_with go_in
    go_ret
    exact ⟨by rw [HQ.out]; rfl, HB.out _⟩
  by_cases p5 : 1 ≤ nx
  rotate_left
  · have HQ : Hid (Q = 3) := HE.out (by omega)
    have p5' : decide (1 ≤ nx) = false := decide_eq_false p5
    have p5'' : nx < 1 := by omega
    clear HE HF
    go_enter Tryz.func35, Tryz.ntmps35
    go_wp2_with go_in
    go_ret
    exact ⟨by rw [HQ.out]; rfl, HB.out _⟩
  by_cases p6 : nx ≤ 201
  rotate_left
  · have HQ : Hid (Q = 3) := HE.out (by omega)
    have p6' : decide (nx ≤ 201) = false := decide_eq_false p6
    have p6'' : 201 < nx := by omega
    clear HE HF
    go_enter Tryz.func35, Tryz.ntmps35
    go_wp2_with go_in
    go_ret
    exact ⟨by rw [HQ.out]; rfl, HB.out _⟩
  have HQ : Hid (Q = 0) := HF.out p1 p2 p3 p4 p5 p6
  clear HE HF
  go_enter Tryz.func35, Tryz.ntmps35
  go_wp2_with go_in
  go_ret
  exact ⟨by rw [HQ.out]; rfl, HB.out _⟩
set_option maxHeartbeats 8000000 in
theorem known_any (nw g nx : Int) (bk : Bool) (a4 a5 : Option Addr) (n4 c4 n5 c5 : Nat) (s t : Int) (bb : Bool) (w : World) :
    Calls Tryz.prog 72 #[.agg #[.slice a4 n4 c4, .int .i64 nw, .int .i64 g, .bool bk, .slice a5 n5 c5, .int .i64 nx], .agg #[.int .i64 s, .int .i64 t, .bool bb]] w fun e w' => e = .returned (.int .i64 (Ld.chkKnown g bk (wrap64 (nx - 1) + 1) ⟨s, t, bb⟩)) ∧ Below w.heap.size w w' := by
  have HB : Hid (∀ O O', Below w.heap.size w ((w.alloc O).alloc O')) := fun O O' => ((Below.refl _ w).alloc (Nat.le_refl _) O).alloc (by simp) O'
  have HE : Hid ((s < 0 ∨ 3 < s ∨ t < 0 ∨ wrap64 (nx - 1) < t) → Ld.chkKnown g bk (wrap64 (nx - 1) + 1) ⟨s, t, bb⟩ = 3) := fun h => by unfold Ld.chkKnown; rw [if_neg]; simp [Lk.within]; omega
  have HF : Hid (0 ≤ s → s ≤ 3 → 0 ≤ t → t ≤ wrap64 (nx - 1) → Ld.chkKnown g bk (wrap64 (nx - 1) + 1) ⟨s, t, bb⟩ = if (s ≠ 0 ∧ (g = 0 ∨ t = 0)) ∨ (bb = true ∧ (bk = false ∨ s = 0)) then 4 else 0) := fun h1 h2 h3 h4 => by unfold Ld.chkKnown; rw [if_pos]; simp [Lk.within, h1, h2, h3, h4]
  generalize Ld.chkKnown g bk (wrap64 (nx - 1) + 1) ⟨s, t, bb⟩ = Q at HE HF ⊢
  by_cases p1 : 0 ≤ s
  rotate_left
  · have HQ : Hid (Q = 3) := HE.out (by omega)
    have p1' : decide (0 ≤ s) = false := decide_eq_false p1
    have p1'' : s < 0 := by omega
    clear HE HF
    generalize hz : (s == 0) = z
    go_enter Tryz.func72, Tryz.ntmps72
    go_wp2_with go_in
    go_ret
    exact ⟨by rw [HQ.out]; rfl, HB.out _ _⟩
  by_cases p2 : s ≤ 3
  rotate_left
  · have HQ : Hid (Q = 3) := HE.out (by omega)
    have p2' : decide (s ≤ 3) = false := decide_eq_false p2
    have p2'' : 3 < s := by omega
    clear HE HF
    generalize hz : (s == 0) = z
    go_enter Tryz.func72, Tryz.ntmps72
    go_wp2_with go_in
    go_ret
    exact ⟨by rw [HQ.out]; rfl, HB.out _ _⟩
  by_cases p3 : 0 ≤ t
  rotate_left
  · have HQ : Hid (Q = 3) := HE.out (by omega)
    have p3' : decide (0 ≤ t) = false := decide_eq_false p3
    have p3'' : t < 0 := by omega
    clear HE HF
    generalize hz : (s == 0) = z
    go_enter Tryz.func72, Tryz.ntmps72
    go_wp2_with go_in
    go_ret
    exact ⟨by rw [HQ.out]; rfl, HB.out _ _⟩
  by_cases p4 : t ≤ wrap64 (nx - 1)
  rotate_left
  · have HQ : Hid (Q = 3) := HE.out (by omega)
    have p4' : decide (t ≤ wrap64 (nx - 1)) = false := decide_eq_false p4
    have p4'' : wrap64 (nx - 1) < t := by omega
    clear HE HF
    generalize hz : (s == 0) = z
    go_enter Tryz.func72, Tryz.ntmps72
    go_wp2_with go_in
    go_ret
    exact ⟨by rw [HQ.out]; rfl, HB.out _ _⟩
  have HQ := HF.out p1 p2 p3 p4
  clear HE HF
  by_cases z1 : s = 0
  · subst z1
    have h0 : Hid (Q = if bb = true then 4 else 0) := by rw [HQ]; show _ = _; simp
    clear HQ
    cases bb <;> cases bk
    all_goals
      go_enter Tryz.func72, Tryz.ntmps72
      go_wp2_with go_in
      go_ret
      exact ⟨by rw [h0.out]; rfl, HB.out _ _⟩
  · have z1' : (s == 0) = false := by simpa using z1
    by_cases z2 : g = 0
    · subst z2
      have h0 : Hid (Q = 4) := by rw [HQ]; show _ = _; simp [z1]
      clear HQ
      go_enter Tryz.func72, Tryz.ntmps72
      go_wp2_with go_in
      go_ret
      exact ⟨by rw [h0.out]; rfl, HB.out _ _⟩
    have z2' : (g == 0) = false := by simpa using z2
    by_cases z3 : t = 0
    · subst z3
      have h0 : Hid (Q = 4) := by rw [HQ]; show _ = _; simp [z1]
      clear HQ
      go_enter Tryz.func72, Tryz.ntmps72
      go_wp2_with go_in
      go_ret
      exact ⟨by rw [h0.out]; rfl, HB.out _ _⟩
    have z3' : (t == 0) = false := by simpa using z3
    have h0 : Hid (Q = if (bb && !bk) = true then 4 else 0) := by rw [HQ]; show _ = _; simp [z1, z2, z3]
    clear HQ z1 z2 z3
    cases bb <;> cases bk
    all_goals
      go_enter Tryz.func72, Tryz.ntmps72
      go_wp2_with go_in
      go_ret
      exact ⟨by rw [h0.out]; rfl, HB.out _ _⟩
end Go.Proofs.YtmlhipdfjnamiaaGreat
