/- The contracts of lead.checkForm, lead.checkAgents and lead.Check. -/
import Derived.Test.YtmlhipdfjnamiaaGreatLV2
import Derived.Lib.QuietBelow
import Derived.BigQuiet
namespace Go.Proofs.YtmlhipdfjnamiaaGreat
open Go.RowKit
def formE (f : Int) (L : List (Int × Int)) (m n : Nat) (rs : List (Int × List (Int × Int))) (nw g : Int) (bk : Bool) : Int :=
  if g = nw ∨ (g = 0 ∧ bk = true) ∨ n ≠ m ∨ Lk.alike (rs.headD (0, [])).1 (rs.headD (0, [])).2 f L = false then 4 else 0
theorem headRl {rs : List (Int × List (Int × Int))} : rs.getD 0 (0, []) = rs.headD (0, []) := by cases rs <;> rfl
set_option maxHeartbeats 8000000 in
set_option maxRecDepth 100000 in
theorem form_any (cf : Ld.Config) (A B D : Value) (ld : Ld.Leader) (Y Z : Value) (w : World) (hC : CfAt w cf A B D) (hL : LdAt w ld Y Z) (h1 : 1 ≤ ld.rels.length) :
    Calls Tryz.prog 36 #[cfV cf A B D, leV ld Y Z] w fun e w' => e = .returned (.int .i64 (formE cf.fid cf.flock (Ld.agents cf) ld.ags.length ld.rels ld.now ld.goal ld.back)) ∧ Below w.heap.size w w' := by
  obtain ⟨f, L, R, W, d⟩ := cf
  obtain ⟨a1, c1, rfl⟩ := pins_slice hC.1
  obtain ⟨a2, c2, rfl⟩ := rules_slice hC.2.1
  obtain ⟨a3, c3, rfl⟩ := waves_slice hC.2.2
  obtain ⟨rs, nw, g, bk, ks, nx⟩ := ld
  obtain ⟨a4, c4, rfl⟩ := relA_slice hL.1
  obtain ⟨a5, c5, rfl⟩ := knows_slice hL.2
  obtain ⟨b, o, v, rfl, hbw, g1, g2, hP⟩ := relA_at hL.1 (k := 0) h1
  obtain ⟨a, c, rfl⟩ := pins_slice hP
  rw [headRl] at g1 g2 hP
  rw [Nat.zero_mul, Nat.add_zero] at g1 g2
  have HE : Hid (formE f L (Ld.agents ⟨f, L, R, W, d⟩) ks.length rs nw g bk = if g = nw ∨ (g = 0 ∧ bk = true) ∨ ks.length ≠ Ld.agents ⟨f, L, R, W, d⟩ ∨ Lk.alike (rs.headD (0, [])).1 (rs.headD (0, [])).2 f L = false then 4 else 0) := rfl
  have H4 : Hid (∀ w', Below w.heap.size w w' → Calls Tryz.prog 26 #[.agg #[.int .i64 f, .slice a1 L.length c1, .slice a2 R.length c2, .slice a3 W.length c3, .int .i64 d]] w' fun e w'' => e = .returned (.int .i64 (Ld.agents ⟨f, L, R, W, d⟩)) ∧ Below w'.heap.size w' w'') := fun w' hb => ldAgents_any ⟨f, L, R, W, d⟩ _ _ _ w' (hC.below hb)
  have H5 : Hid (∀ w', Below w.heap.size w w' → Calls Tryz.prog 71 #[.agg #[.int .i64 (rs.headD (0, [])).1, .slice a (rs.headD (0, [])).2.length c], .agg #[.int .i64 f, .slice a1 L.length c1]] w' fun e w'' => e = .returned (.bool (Lk.alike (rs.headD (0, [])).1 (rs.headD (0, [])).2 f L)) ∧ Below w'.heap.size w' w'') := fun w' hb => alike_any _ f _ _ _ L w' (hP.below hb) (hC.1.below hb)
  clear hC hL hP
  unfold cfV cfC leV leC
  simp only
  simp only at h1
  generalize formE f L (Ld.agents ⟨f, L, R, W, d⟩) ks.length rs nw g bk = Q at HE ⊢
  generalize Ld.agents ⟨f, L, R, W, d⟩ = M at HE H4
  generalize Lk.alike (rs.headD (0, [])).1 (rs.headD (0, [])).2 f L = AL at HE H5
  generalize rs.headD (0, []) = p at g1 g2 H5
  obtain ⟨i, l⟩ := p
  simp only at g1 g2 H5
  generalize l.length = n at g2 H5
  have h1' : (0 : Int) < rs.length := by omega
  generalize rs.length = n4 at *
  generalize ks.length = n5 at *
  generalize L.length = n1 at *
  generalize R.length = n2 at *
  generalize W.length = n3 at *
  obtain ⟨hB0, hK0, hK1⟩ := box2 w #[.int .i64 f, .slice a1 n1 c1, .slice a2 n2 c2, .slice a3 n3 c3, .int .i64 d] #[.slice (some ⟨b, o, none⟩) n4 c4, .int .i64 nw, .int .i64 g, .bool bk, .slice a5 n5 c5, .int .i64 nx] 28 32
  have G1 := (hB0.cell (p := ⟨b, o, none⟩) hbw).trans g1
  have G2 := (hB0.cell (p := ⟨b, o + 1, none⟩) hbw).trans g2
  clear g1 g2
  by_cases p1 : g = nw
  · have HQ : Hid (Q = 4) := by rw [HE.out, if_pos (.inl p1)]; rfl
    have p1' : (g == nw) = true := by simpa using p1
    clear HE H4 H5 p1
    go_enter Tryz.func36, Tryz.ntmps36
    go_wp2_with fail
    generalize ((w.alloc (.cells #[.int .i64 f, .slice a1 n1 c1, .slice a2 n2 c2, .slice a3 n3 c3, .int .i64 d] 28)).alloc (.cells #[.slice (some ⟨b, o, none⟩) n4 c4, .int .i64 nw, .int .i64 g, .bool bk, .slice a5 n5 c5, .int .i64 nx] 32)) = V at hB0 hK0 hK1 G1 G2 ⊢
    have kc0 := cell_regrown (show _ = some _ from hK0.cell 0)
    have kc1 := cell_regrown (show _ = some _ from hK0.cell 1)
    have kc2 := cell_regrown (show _ = some _ from hK0.cell 2)
    have kc3 := cell_regrown (show _ = some _ from hK0.cell 3)
    have kc4 := cell_regrown (show _ = some _ from hK0.cell 4)
    have kl0 := cell_regrown (show _ = some _ from hK1.cell 0)
    have kl1 := cell_regrown (show _ = some _ from hK1.cell 1)
    have kl2 := cell_regrown (show _ = some _ from hK1.cell 2)
    have kl3 := cell_regrown (show _ = some _ from hK1.cell 3)
    have kl4 := cell_regrown (show _ = some _ from hK1.cell 4)
    have kl5 := cell_regrown (show _ = some _ from hK1.cell 5)
    have r0 := cell_regrown G1
    have r1 := cell_regrown G2
    have HB0 : Hid (Below w.heap.size w V) := hB0
    clear hK0 hK1 hB0 G1 G2
    refine wp_region_quiet_below (by kernel_rfl) (by kernel_rfl) ?_
    repeat (go_big_quiet_step (first | fail))
    refine wpQuiet_nil ?_
    intro _ hw'
    obtain ⟨⟨dq, osq⟩, hw''⟩ := hw'
    subst hw''
    have hbq := below_regrown V dq osq
    have HB5 : Hid (Below w.heap.size w (Sort.grow (redrawn V dq) osq)) := HB0.out.trans (hbq.mono HB0.out.size)
    clear hbq
    go_wp2
    go_ret
    exact ⟨by rw [HQ.out]; rfl, HB5.out⟩
  have p1' : (g == nw) = false := by simpa using p1
  by_cases p2 : g = 0 ∧ bk = true
  · have HQ : Hid (Q = 4) := by rw [HE.out, if_pos (.inr (.inl p2))]; rfl
    have p2' : (g == 0) = true := by simpa using p2.1
    obtain ⟨-, rfl⟩ := p2
    clear HE H4 H5 p1
    go_enter Tryz.func36, Tryz.ntmps36
    go_wp2_with fail
    generalize ((w.alloc (.cells #[.int .i64 f, .slice a1 n1 c1, .slice a2 n2 c2, .slice a3 n3 c3, .int .i64 d] 28)).alloc (.cells #[.slice (some ⟨b, o, none⟩) n4 c4, .int .i64 nw, .int .i64 g, .bool true, .slice a5 n5 c5, .int .i64 nx] 32)) = V at hB0 hK0 hK1 G1 G2 ⊢
    have kc0 := cell_regrown (show _ = some _ from hK0.cell 0)
    have kc1 := cell_regrown (show _ = some _ from hK0.cell 1)
    have kc2 := cell_regrown (show _ = some _ from hK0.cell 2)
    have kc3 := cell_regrown (show _ = some _ from hK0.cell 3)
    have kc4 := cell_regrown (show _ = some _ from hK0.cell 4)
    have kl0 := cell_regrown (show _ = some _ from hK1.cell 0)
    have kl1 := cell_regrown (show _ = some _ from hK1.cell 1)
    have kl2 := cell_regrown (show _ = some _ from hK1.cell 2)
    have kl3 := cell_regrown (show _ = some _ from hK1.cell 3)
    have kl4 := cell_regrown (show _ = some _ from hK1.cell 4)
    have kl5 := cell_regrown (show _ = some _ from hK1.cell 5)
    have r0 := cell_regrown G1
    have r1 := cell_regrown G2
    have HB0 : Hid (Below w.heap.size w V) := hB0
    clear hK0 hK1 hB0 G1 G2
    refine wp_region_quiet_below (by kernel_rfl) (by kernel_rfl) ?_
    repeat (go_big_quiet_step (first | fail))
    refine wpQuiet_nil ?_
    intro _ hw'
    obtain ⟨⟨dq, osq⟩, hw''⟩ := hw'
    subst hw''
    have hbq := below_regrown V dq osq
    have HB5 : Hid (Below w.heap.size w (Sort.grow (redrawn V dq) osq)) := HB0.out.trans (hbq.mono HB0.out.size)
    clear hbq
    go_wp2
    go_ret
    exact ⟨by rw [HQ.out]; rfl, HB5.out⟩
  by_cases p3 : n5 = M
  rotate_left
  · have HQ : Hid (Q = 4) := by rw [HE.out, if_pos (.inr (.inr (.inl p3)))]; rfl
    have p3' : ((n5 : Int) != M) = true := by rw [bne_iff_ne]; omega
    have p4 : (g == 0) = false ∨ ((g == 0) = true ∧ bk = false) := by
      by_cases e : g = 0
      · refine .inr ⟨by simpa using e, ?_⟩
        cases hb : bk with
        | false => rfl
        | true => exact absurd ⟨e, hb⟩ p2
      · exact .inl (by simpa using e)
    clear HE H5 p1 p2 p3
    rcases p4 with p4 | ⟨p4, rfl⟩
    · skip
      go_enter Tryz.func36, Tryz.ntmps36
      go_wp2_with fail
      generalize ((w.alloc (.cells #[.int .i64 f, .slice a1 n1 c1, .slice a2 n2 c2, .slice a3 n3 c3, .int .i64 d] 28)).alloc (.cells #[.slice (some ⟨b, o, none⟩) n4 c4, .int .i64 nw, .int .i64 g, .bool bk, .slice a5 n5 c5, .int .i64 nx] 32)) = V at hB0 hK0 hK1 G1 G2 ⊢
      have kc0 := cell_regrown (show _ = some _ from hK0.cell 0)
      have kc1 := cell_regrown (show _ = some _ from hK0.cell 1)
      have kc2 := cell_regrown (show _ = some _ from hK0.cell 2)
      have kc3 := cell_regrown (show _ = some _ from hK0.cell 3)
      have kc4 := cell_regrown (show _ = some _ from hK0.cell 4)
      have kl0 := cell_regrown (show _ = some _ from hK1.cell 0)
      have kl1 := cell_regrown (show _ = some _ from hK1.cell 1)
      have kl2 := cell_regrown (show _ = some _ from hK1.cell 2)
      have kl3 := cell_regrown (show _ = some _ from hK1.cell 3)
      have kl4 := cell_regrown (show _ = some _ from hK1.cell 4)
      have kl5 := cell_regrown (show _ = some _ from hK1.cell 5)
      have r0 := cell_regrown G1
      have r1 := cell_regrown G2
      have c4 := fun (d' : Nat) (os : Array Obj) => Calls.regrown_of (H4.out (Sort.grow (redrawn V d') os) (hB0.trans ((below_regrown V d' os).mono hB0.size)))
      have HB0 : Hid (Below w.heap.size w V) := hB0
      clear hK0 hK1 hB0 G1 G2
      refine wp_region_quiet_below (by kernel_rfl) (by kernel_rfl) ?_
      repeat (go_big_quiet_step (first | exact c4 _ _))
      refine wpQuiet_nil ?_
      intro _ hw'
      obtain ⟨⟨dq, osq⟩, hw''⟩ := hw'
      subst hw''
      have hbq := below_regrown V dq osq
      have HB5 : Hid (Below w.heap.size w (Sort.grow (redrawn V dq) osq)) := HB0.out.trans (hbq.mono HB0.out.size)
      clear hbq
      go_wp2
      go_ret
      exact ⟨by rw [HQ.out]; rfl, HB5.out⟩
    · skip
      go_enter Tryz.func36, Tryz.ntmps36
      go_wp2_with fail
      generalize ((w.alloc (.cells #[.int .i64 f, .slice a1 n1 c1, .slice a2 n2 c2, .slice a3 n3 c3, .int .i64 d] 28)).alloc (.cells #[.slice (some ⟨b, o, none⟩) n4 c4, .int .i64 nw, .int .i64 g, .bool false, .slice a5 n5 c5, .int .i64 nx] 32)) = V at hB0 hK0 hK1 G1 G2 ⊢
      have kc0 := cell_regrown (show _ = some _ from hK0.cell 0)
      have kc1 := cell_regrown (show _ = some _ from hK0.cell 1)
      have kc2 := cell_regrown (show _ = some _ from hK0.cell 2)
      have kc3 := cell_regrown (show _ = some _ from hK0.cell 3)
      have kc4 := cell_regrown (show _ = some _ from hK0.cell 4)
      have kl0 := cell_regrown (show _ = some _ from hK1.cell 0)
      have kl1 := cell_regrown (show _ = some _ from hK1.cell 1)
      have kl2 := cell_regrown (show _ = some _ from hK1.cell 2)
      have kl3 := cell_regrown (show _ = some _ from hK1.cell 3)
      have kl4 := cell_regrown (show _ = some _ from hK1.cell 4)
      have kl5 := cell_regrown (show _ = some _ from hK1.cell 5)
      have r0 := cell_regrown G1
      have r1 := cell_regrown G2
      have c4 := fun (d' : Nat) (os : Array Obj) => Calls.regrown_of (H4.out (Sort.grow (redrawn V d') os) (hB0.trans ((below_regrown V d' os).mono hB0.size)))
      have HB0 : Hid (Below w.heap.size w V) := hB0
      clear hK0 hK1 hB0 G1 G2
      refine wp_region_quiet_below (by kernel_rfl) (by kernel_rfl) ?_
      repeat (go_big_quiet_step (first | exact c4 _ _))
      refine wpQuiet_nil ?_
      intro _ hw'
      obtain ⟨⟨dq, osq⟩, hw''⟩ := hw'
      subst hw''
      have hbq := below_regrown V dq osq
      have HB5 : Hid (Below w.heap.size w (Sort.grow (redrawn V dq) osq)) := HB0.out.trans (hbq.mono HB0.out.size)
      clear hbq
      go_wp2
      go_ret
      exact ⟨by rw [HQ.out]; rfl, HB5.out⟩
  subst p3
  have p4 : (g == 0) = false ∨ ((g == 0) = true ∧ bk = false) := by
    by_cases e : g = 0
    · refine .inr ⟨by simpa using e, ?_⟩
      cases hb : bk with
      | false => rfl
      | true => exact absurd ⟨e, hb⟩ p2
    · exact .inl (by simpa using e)
  have HQ : Hid (Q = if AL = false then 4 else 0) := by
    have := HE.out
    rw [this]
    show _ = _
    congr 1
    rw [eq_iff_iff]
    constructor
    · rintro (e | e | e | e)
      · exact absurd e p1
      · exact absurd e p2
      · exact absurd rfl e
      · exact e
    · exact fun e => .inr (.inr (.inr e))
  clear HE p1 p2
  rcases p4 with p4 | ⟨p4, rfl⟩
  · cases AL
    all_goals
      go_enter Tryz.func36, Tryz.ntmps36
      go_wp2_with fail
      generalize ((w.alloc (.cells #[.int .i64 f, .slice a1 n1 c1, .slice a2 n2 c2, .slice a3 n3 c3, .int .i64 d] 28)).alloc (.cells #[.slice (some ⟨b, o, none⟩) n4 c4, .int .i64 nw, .int .i64 g, .bool bk, .slice a5 n5 c5, .int .i64 nx] 32)) = V at hB0 hK0 hK1 G1 G2 ⊢
      have kc0 := cell_regrown (show _ = some _ from hK0.cell 0)
      have kc1 := cell_regrown (show _ = some _ from hK0.cell 1)
      have kc2 := cell_regrown (show _ = some _ from hK0.cell 2)
      have kc3 := cell_regrown (show _ = some _ from hK0.cell 3)
      have kc4 := cell_regrown (show _ = some _ from hK0.cell 4)
      have kl0 := cell_regrown (show _ = some _ from hK1.cell 0)
      have kl1 := cell_regrown (show _ = some _ from hK1.cell 1)
      have kl2 := cell_regrown (show _ = some _ from hK1.cell 2)
      have kl3 := cell_regrown (show _ = some _ from hK1.cell 3)
      have kl4 := cell_regrown (show _ = some _ from hK1.cell 4)
      have kl5 := cell_regrown (show _ = some _ from hK1.cell 5)
      have r0 := cell_regrown G1
      have r1 := cell_regrown G2
      have c4 := fun (d' : Nat) (os : Array Obj) => Calls.regrown_of (H4.out (Sort.grow (redrawn V d') os) (hB0.trans ((below_regrown V d' os).mono hB0.size)))
      have c5 := fun (d' : Nat) (os : Array Obj) => Calls.regrown_of (H5.out (Sort.grow (redrawn V d') os) (hB0.trans ((below_regrown V d' os).mono hB0.size)))
      have HB0 : Hid (Below w.heap.size w V) := hB0
      clear hK0 hK1 hB0 G1 G2
      refine wp_region_quiet_below (by kernel_rfl) (by kernel_rfl) ?_
      repeat (go_big_quiet_step (first | exact c4 _ _ | exact c5 _ _))
      refine wpQuiet_nil ?_
      intro _ hw'
      obtain ⟨⟨dq, osq⟩, hw''⟩ := hw'
      subst hw''
      have hbq := below_regrown V dq osq
      have HB5 : Hid (Below w.heap.size w (Sort.grow (redrawn V dq) osq)) := HB0.out.trans (hbq.mono HB0.out.size)
      clear hbq
      go_wp2
      go_ret
      exact ⟨by rw [HQ.out]; rfl, HB5.out⟩
  · cases AL
    all_goals
      go_enter Tryz.func36, Tryz.ntmps36
      go_wp2_with fail
      generalize ((w.alloc (.cells #[.int .i64 f, .slice a1 n1 c1, .slice a2 n2 c2, .slice a3 n3 c3, .int .i64 d] 28)).alloc (.cells #[.slice (some ⟨b, o, none⟩) n4 c4, .int .i64 nw, .int .i64 g, .bool false, .slice a5 n5 c5, .int .i64 nx] 32)) = V at hB0 hK0 hK1 G1 G2 ⊢
      have kc0 := cell_regrown (show _ = some _ from hK0.cell 0)
      have kc1 := cell_regrown (show _ = some _ from hK0.cell 1)
      have kc2 := cell_regrown (show _ = some _ from hK0.cell 2)
      have kc3 := cell_regrown (show _ = some _ from hK0.cell 3)
      have kc4 := cell_regrown (show _ = some _ from hK0.cell 4)
      have kl0 := cell_regrown (show _ = some _ from hK1.cell 0)
      have kl1 := cell_regrown (show _ = some _ from hK1.cell 1)
      have kl2 := cell_regrown (show _ = some _ from hK1.cell 2)
      have kl3 := cell_regrown (show _ = some _ from hK1.cell 3)
      have kl4 := cell_regrown (show _ = some _ from hK1.cell 4)
      have kl5 := cell_regrown (show _ = some _ from hK1.cell 5)
      have r0 := cell_regrown G1
      have r1 := cell_regrown G2
      have c4 := fun (d' : Nat) (os : Array Obj) => Calls.regrown_of (H4.out (Sort.grow (redrawn V d') os) (hB0.trans ((below_regrown V d' os).mono hB0.size)))
      have c5 := fun (d' : Nat) (os : Array Obj) => Calls.regrown_of (H5.out (Sort.grow (redrawn V d') os) (hB0.trans ((below_regrown V d' os).mono hB0.size)))
      have HB0 : Hid (Below w.heap.size w V) := hB0
      clear hK0 hK1 hB0 G1 G2
      refine wp_region_quiet_below (by kernel_rfl) (by kernel_rfl) ?_
      repeat (go_big_quiet_step (first | exact c4 _ _ | exact c5 _ _))
      refine wpQuiet_nil ?_
      intro _ hw'
      obtain ⟨⟨dq, osq⟩, hw''⟩ := hw'
      subst hw''
      have hbq := below_regrown V dq osq
      have HB5 : Hid (Below w.heap.size w (Sort.grow (redrawn V dq) osq)) := HB0.out.trans (hbq.mono HB0.out.size)
      clear hbq
      go_wp2
      go_ret
      exact ⟨by rw [HQ.out]; rfl, HB5.out⟩
theorem dropKn (l : List Ld.Known) (k : Nat) (h : k < l.length) : l.drop k = l.getD k ⟨0, 0, false⟩ :: l.drop (k + 1) := dropL l ⟨0, 0, false⟩ k h
set_option maxHeartbeats 8000000 in
theorem checkAgs_any (nw g nx : Int) (bk : Bool) (a4 : Option Addr) (n4 c4 : Nat) (ks : List Ld.Known) (Z : Value) (w : World) (hL : KnowsAt w Z ks) :
    Calls Tryz.prog 37 #[.agg #[.slice a4 n4 c4, .int .i64 nw, .int .i64 g, .bool bk, Z, .int .i64 nx]] w fun e w' => e = .returned (.int .i64 (Ld.chkKnowns g bk (wrap64 (nx - 1) + 1) ks)) ∧ Below w.heap.size w w' := by
  obtain ⟨a5, c5, rfl⟩ := knows_slice hL
  have HL : Hid (KnowsAt w (.slice a5 ks.length c5) ks) := hL
  have hlen := hL.1
  clear hL
  obtain ⟨hB0, hK0⟩ := box1 w #[.slice a4 n4 c4, .int .i64 nw, .int .i64 g, .bool bk, .slice a5 ks.length c5, .int .i64 nx] 32
  have k4 := hK0.cell 4
  simp only [List.getElem?_toArray, List.getElem?_cons_zero, List.getElem?_cons_succ] at k4
  have HB0 : Hid (Below w.heap.size w _) := hB0
  have HK0 : Hid (Blk _ w.heap.size _ _) := hK0
  clear hB0 hK0
  go_enter Tryz.func37, Tryz.ntmps37
  go_wp2
  go_loopg [9] ks.length (fun g' s9 wr => ∃ k : Nat, k ≤ ks.length ∧ ks.length - k ≤ g' ∧ s9 = .int .i64 k ∧ Hid (Ld.chkKnowns g bk (wrap64 (nx - 1) + 1) (ks.drop k) = Ld.chkKnowns g bk (wrap64 (nx - 1) + 1) ks) ∧ Hid (Blk wr w.heap.size #[.slice a4 n4 c4, .int .i64 nw, .int .i64 g, .bool bk, .slice a5 ks.length c5, .int .i64 nx] 32) ∧ Hid (Below w.heap.size w wr))
  case atStart => exact ⟨0, Nat.zero_le _, by omega, rfl, rfl, HK0, HB0⟩
  case round =>
    obtain ⟨k, hk, hg, rfl, H, HK, HB⟩ := hrel
    clear k4 HB0 HK0
    by_cases hlt : k < ks.length
    · obtain ⟨b, o, rfl, hbw, g1, g2, g3⟩ := knows_at (HL.out.below HB.out) hlt
      have H' := H.out
      rw [dropKn ks k hlt, Ld.chkKnowns] at H'
      have HX : Hid ((if Ld.chkKnown g bk (wrap64 (nx - 1) + 1) (ks.getD k ⟨0, 0, false⟩) = 0 then Ld.chkKnowns g bk (wrap64 (nx - 1) + 1) (ks.drop (k + 1)) else Ld.chkKnown g bk (wrap64 (nx - 1) + 1) (ks.getD k ⟨0, 0, false⟩)) = Ld.chkKnowns g bk (wrap64 (nx - 1) + 1) ks) := H'
      clear H' H
      generalize ks.getD k ⟨0, 0, false⟩ = p at g1 g2 g3 HX
      obtain ⟨s, t, bb⟩ := p
      simp only at g1 g2 g3
      have HKP : Hid (∀ w', Calls Tryz.prog 72 #[.agg #[.slice a4 n4 c4, .int .i64 nw, .int .i64 g, .bool bk, .slice (some ⟨b, o, none⟩) ks.length c5, .int .i64 nx], .agg #[.int .i64 s, .int .i64 t, .bool bb]] w' fun e w'' => e = .returned (.int .i64 (Ld.chkKnown g bk (wrap64 (nx - 1) + 1) ⟨s, t, bb⟩)) ∧ Below w'.heap.size w' w'') := fun w' => known_any nw g nx bk _ _ _ _ _ _ s t bb w'
      generalize Ld.chkKnown g bk (wrap64 (nx - 1) + 1) ⟨s, t, bb⟩ = E at HKP HX
      have kr0 := HK.out.cell 0
      have kr1 := HK.out.cell 1
      have kr2 := HK.out.cell 2
      have kr3 := HK.out.cell 3
      have kr4 := HK.out.cell 4
      have kr5 := HK.out.cell 5
      simp only [List.getElem?_toArray, List.getElem?_cons_zero, List.getElem?_cons_succ] at kr0 kr1 kr2 kr3 kr4 kr5
      have hlb := HK.out.lt
      have hx := box1 wr #[.int .i64 s, .int .i64 t, .bool bb] 54
      have HX0 : Hid (Below wr.heap.size wr (wr.alloc (.cells #[.int .i64 s, .int .i64 t, .bool bb] 54))) := hx.1
      clear hx
      go_wp2_with fail
      refine (HKP.out _).mono ?_
      rintro e w1 ⟨rfl, hb1⟩
      have HB1 : Hid (Below w.heap.size w w1) := (HB.out.trans (HX0.out.mono HB.out.size)).trans (hb1.mono (Nat.le_trans HB.out.size HX0.out.size))
      have HK1 : Hid (Blk w1 w.heap.size #[.slice a4 n4 c4, .int .i64 nw, .int .i64 g, .bool bk, .slice (some ⟨b, o, none⟩) ks.length c5, .int .i64 nx] 32) := (HK.out.below HX0.out).below hb1
      clear hb1 HX0 HB HK HKP kr0 kr1 kr2 kr3 kr4 kr5
      by_cases e0 : E = 0
      · subst e0
        have HN : Hid (Ld.chkKnowns g bk (wrap64 (nx - 1) + 1) (ks.drop (k + 1)) = Ld.chkKnowns g bk (wrap64 (nx - 1) + 1) ks) := by
          have := HX.out
          rw [if_pos rfl] at this
          exact this
        clear HX
        go_wp2
        go_roundg (ks.length - (k + 1))
        case measure => omega
        case rel => exact ⟨k + 1, by omega, by omega, by go_num, HN, HK1, HB1⟩
      · have HN : Hid (Ld.chkKnowns g bk (wrap64 (nx - 1) + 1) ks = E) := by
          have := HX.out
          rw [if_neg e0] at this
          exact this.symm
        have e0' : (E != 0) = true := by rw [bne_iff_ne]; exact e0
        clear HX e0
        go_wp2
        go_ret
        exact ⟨by rw [HN.out]; rfl, HB1.out⟩
    · have hk' : k = ks.length := by omega
      have HN : Hid (Ld.chkKnowns g bk (wrap64 (nx - 1) + 1) ks = 0) := by
        have := H.out
        rw [hk', List.drop_length, Ld.chkKnowns] at this
        exact this.symm
      subst hk'
      clear hk hlt H HK
      go_wp2
      go_ret
      exact ⟨by rw [HN.out]; rfl, HB.out⟩
theorem orr_ld1 (cf : Ld.Config) (l : Ld.Leader) (h : ¬ orr [Ld.chkConfig cf, relE cf.rules l.rels] = 0) : orr [Ld.chkConfig cf, relE cf.rules l.rels] = Ld.chkLeader cf l := by
  rw [orr2] at h ⊢
  unfold Ld.chkLeader relE at *
  by_cases h1 : Ld.chkConfig cf = 0
  · rw [if_pos h1] at h ⊢
    rw [if_pos h1]
    by_cases h2 : 1 ≤ l.rels.length ∧ l.rels.length ≤ 6
    · rw [if_pos h2] at h ⊢
      rw [if_pos h2, if_neg h]
    · rw [if_neg h2, if_neg h2]
  · rw [if_neg h1, if_neg h1]
theorem orr_ld2 (cf : Ld.Config) (l : Ld.Leader) (h : orr [Ld.chkConfig cf, relE cf.rules l.rels] = 0) : 1 ≤ l.rels.length ∧ orr [numL l.rels.length l.now l.goal l.next, formE cf.fid cf.flock (Ld.agents cf) l.ags.length l.rels l.now l.goal l.back, Ld.chkKnowns l.goal l.back (wrap64 (l.next - 1) + 1) l.ags] = Ld.chkLeader cf l := by
  rw [orr2] at h
  by_cases h1 : Ld.chkConfig cf = 0
  rotate_left
  · rw [if_neg h1] at h; exact absurd h h1
  rw [if_pos h1] at h
  unfold relE at h
  by_cases h2 : 1 ≤ l.rels.length ∧ l.rels.length ≤ 6
  rotate_left
  · rw [if_neg h2] at h; exact absurd h (by decide)
  rw [if_pos h2] at h
  refine ⟨h2.1, ?_⟩
  unfold Ld.chkLeader numL formE
  rw [if_pos h1, if_pos h2, if_pos h, (Ld.agents_ok h1).1]
  simp only [orr]
  by_cases h3 : (Lk.within l.now 1 l.rels.length && Lk.within l.goal 0 l.rels.length && Lk.within l.next 1 201) = true
  · rw [if_pos h3, if_pos rfl, if_pos h3]
    by_cases h4 : l.goal = l.now ∨ (l.goal = 0 ∧ l.back = true) ∨ l.ags.length ≠ Ld.many cf ∨ Lk.alike (l.rels.headD (0, [])).1 (l.rels.headD (0, [])).2 cf.fid cf.flock = false
    · rw [if_pos h4, if_neg (by decide), if_pos h4]
    · rw [if_neg h4, if_pos rfl, if_neg h4]
      have hn : 1 ≤ l.next ∧ l.next ≤ 201 := by simp [Lk.within] at h3; omega
      have hw : wrap64 (l.next - 1) + 1 = l.next := by
        have : wrap64 (l.next - 1) = l.next - 1 := by unfold wrap64; omega
        omega
      rw [hw]
      by_cases h5 : Ld.chkKnowns l.goal l.back l.next l.ags = 0
      · rw [if_pos h5, h5]
      · rw [if_neg h5]
  · rw [if_neg h3, if_neg (by decide), if_neg h3]
set_option maxHeartbeats 8000000 in
set_option maxRecDepth 100000 in
theorem ldCheck_any (cf : Ld.Config) (A B D : Value) (ld : Ld.Leader) (Y Z : Value) (w : World) (hC : CfAt w cf A B D) (hL : LdAt w ld Y Z) :
    Calls Tryz.prog 12 #[cfV cf A B D, leV ld Y Z] w fun e w' => e = .returned (.int .i64 (Ld.chkLeader cf ld)) ∧ Below w.heap.size w w' := by
  have E1 := orr_ld1 cf ld
  have E2 := orr_ld2 cf ld
  obtain ⟨f, L, R, W, d⟩ := cf
  obtain ⟨a1, c1, rfl⟩ := pins_slice hC.1
  obtain ⟨a2, c2, rfl⟩ := rules_slice hC.2.1
  obtain ⟨a3, c3, rfl⟩ := waves_slice hC.2.2
  obtain ⟨rs, nw, g, bk, ks, nx⟩ := ld
  obtain ⟨a4, c4, rfl⟩ := relA_slice hL.1
  obtain ⟨a5, c5, rfl⟩ := knows_slice hL.2
  have H1 : Hid (∀ w', Below w.heap.size w w' → Calls Tryz.prog 33 #[.agg #[.int .i64 f, .slice a1 L.length c1, .slice a2 R.length c2, .slice a3 W.length c3, .int .i64 d]] w' fun e w'' => e = .returned (.int .i64 (Ld.chkConfig ⟨f, L, R, W, d⟩)) ∧ Below w'.heap.size w' w'') := fun w' hb => config_any ⟨f, L, R, W, d⟩ _ _ _ w' (hC.below hb)
  have H2 : Hid (∀ w', Below w.heap.size w w' → Calls Tryz.prog 34 #[.agg #[.int .i64 f, .slice a1 L.length c1, .slice a2 R.length c2, .slice a3 W.length c3, .int .i64 d], .agg #[.slice a4 rs.length c4, .int .i64 nw, .int .i64 g, .bool bk, .slice a5 ks.length c5, .int .i64 nx]] w' fun e w'' => e = .returned (.int .i64 (relE R rs)) ∧ Below w'.heap.size w' w'') := fun w' hb => checkRels_any f d nw g nx bk a1 a3 a5 _ _ _ _ _ _ R rs _ _ w' (hC.2.1.below hb) (hL.1.below hb)
  have H3 : Hid (∀ w', Calls Tryz.prog 35 #[.agg #[.slice a4 rs.length c4, .int .i64 nw, .int .i64 g, .bool bk, .slice a5 ks.length c5, .int .i64 nx]] w' fun e w'' => e = .returned (.int .i64 (numL rs.length nw g nx)) ∧ Below w'.heap.size w' w'') := fun w' => numbersL_any nw g nx bk a4 a5 _ _ _ _ w'
  have H4 : Hid (1 ≤ rs.length → ∀ w', Below w.heap.size w w' → Calls Tryz.prog 36 #[.agg #[.int .i64 f, .slice a1 L.length c1, .slice a2 R.length c2, .slice a3 W.length c3, .int .i64 d], .agg #[.slice a4 rs.length c4, .int .i64 nw, .int .i64 g, .bool bk, .slice a5 ks.length c5, .int .i64 nx]] w' fun e w'' => e = .returned (.int .i64 (formE f L (Ld.agents ⟨f, L, R, W, d⟩) ks.length rs nw g bk)) ∧ Below w'.heap.size w' w'') := fun h w' hb => form_any ⟨f, L, R, W, d⟩ _ _ _ ⟨rs, nw, g, bk, ks, nx⟩ _ _ w' (hC.below hb) (hL.below hb) h
  have H5 : Hid (∀ w', Below w.heap.size w w' → Calls Tryz.prog 37 #[.agg #[.slice a4 rs.length c4, .int .i64 nw, .int .i64 g, .bool bk, .slice a5 ks.length c5, .int .i64 nx]] w' fun e w'' => e = .returned (.int .i64 (Ld.chkKnowns g bk (wrap64 (nx - 1) + 1) ks)) ∧ Below w'.heap.size w' w'') := fun w' hb => checkAgs_any nw g nx bk a4 _ _ ks _ w' (hL.2.below hb)
  simp only at E1 E2
  have F1 : Hid (¬ orr [Ld.chkConfig ⟨f, L, R, W, d⟩, relE R rs] = 0 → orr [Ld.chkConfig ⟨f, L, R, W, d⟩, relE R rs] = Ld.chkLeader ⟨f, L, R, W, d⟩ ⟨rs, nw, g, bk, ks, nx⟩) := E1
  have F2 : Hid (orr [Ld.chkConfig ⟨f, L, R, W, d⟩, relE R rs] = 0 → 1 ≤ rs.length ∧ orr [numL rs.length nw g nx, formE f L (Ld.agents ⟨f, L, R, W, d⟩) ks.length rs nw g bk, Ld.chkKnowns g bk (wrap64 (nx - 1) + 1) ks] = Ld.chkLeader ⟨f, L, R, W, d⟩ ⟨rs, nw, g, bk, ks, nx⟩) := E2
  clear E1 E2 hC hL
  unfold cfV cfC leV leC
  simp only
  generalize Ld.chkLeader ⟨f, L, R, W, d⟩ ⟨rs, nw, g, bk, ks, nx⟩ = Q at F1 F2 ⊢
  generalize Ld.chkKnowns g bk (wrap64 (nx - 1) + 1) ks = X5 at F2 H5
  generalize formE f L (Ld.agents ⟨f, L, R, W, d⟩) ks.length rs nw g bk = X4 at F2 H4
  generalize numL rs.length nw g nx = X3 at F2 H3
  generalize relE R rs = X2 at F1 F2 H2
  generalize Ld.chkConfig ⟨f, L, R, W, d⟩ = X1 at F1 F2 H1
  generalize rs.length = n4 at *
  generalize ks.length = n5 at *
  generalize L.length = n1 at *
  generalize R.length = n2 at *
  generalize W.length = n3 at *
  obtain ⟨hB0, hK0, hK1⟩ := box2 w #[.int .i64 f, .slice a1 n1 c1, .slice a2 n2 c2, .slice a3 n3 c3, .int .i64 d] #[.slice a4 n4 c4, .int .i64 nw, .int .i64 g, .bool bk, .slice a5 n5 c5, .int .i64 nx] 28 32
  go_enter Tryz.func12, Tryz.ntmps12
  go_wp2_with fail
  generalize ((w.alloc (.cells #[.int .i64 f, .slice a1 n1 c1, .slice a2 n2 c2, .slice a3 n3 c3, .int .i64 d] 28)).alloc (.cells #[.slice a4 n4 c4, .int .i64 nw, .int .i64 g, .bool bk, .slice a5 n5 c5, .int .i64 nx] 32)) = V at hB0 hK0 hK1 ⊢
  generalize hgb : w.heap.size = gb at hK0 hK1 ⊢
  have HB0 : Hid (Below w.heap.size w V) := hB0
  have S0 : Hid (V.drew.cell? ⟨gb, 0, none⟩ = some (.int .i64 f) ∧ V.drew.cell? ⟨gb, 1, none⟩ = some (.slice a1 n1 c1) ∧ V.drew.cell? ⟨gb, 2, none⟩ = some (.slice a2 n2 c2) ∧ V.drew.cell? ⟨gb, 3, none⟩ = some (.slice a3 n3 c3) ∧ V.drew.cell? ⟨gb, 4, none⟩ = some (.int .i64 d) ∧ V.drew.cell? ⟨gb + 1, 0, none⟩ = some (.slice a4 n4 c4) ∧ V.drew.cell? ⟨gb + 1, 1, none⟩ = some (.int .i64 nw) ∧ V.drew.cell? ⟨gb + 1, 2, none⟩ = some (.int .i64 g) ∧ V.drew.cell? ⟨gb + 1, 3, none⟩ = some (.bool bk) ∧ V.drew.cell? ⟨gb + 1, 4, none⟩ = some (.slice a5 n5 c5) ∧ V.drew.cell? ⟨gb + 1, 5, none⟩ = some (.int .i64 nx) ∧ Hid (Below V.heap.size V V.drew)) := ⟨hK0.cell 0, hK0.cell 1, hK0.cell 2, hK0.cell 3, hK0.cell 4, hK1.cell 0, hK1.cell 1, hK1.cell 2, hK1.cell 3, hK1.cell 4, hK1.cell 5, (Below.refl _ V).drew⟩
  have KP : Hid (∀ x y : World, Below x.heap.size x y → (x.cell? ⟨gb, 0, none⟩ = some (.int .i64 f) ∧ x.cell? ⟨gb, 1, none⟩ = some (.slice a1 n1 c1) ∧ x.cell? ⟨gb, 2, none⟩ = some (.slice a2 n2 c2) ∧ x.cell? ⟨gb, 3, none⟩ = some (.slice a3 n3 c3) ∧ x.cell? ⟨gb, 4, none⟩ = some (.int .i64 d) ∧ x.cell? ⟨gb + 1, 0, none⟩ = some (.slice a4 n4 c4) ∧ x.cell? ⟨gb + 1, 1, none⟩ = some (.int .i64 nw) ∧ x.cell? ⟨gb + 1, 2, none⟩ = some (.int .i64 g) ∧ x.cell? ⟨gb + 1, 3, none⟩ = some (.bool bk) ∧ x.cell? ⟨gb + 1, 4, none⟩ = some (.slice a5 n5 c5) ∧ x.cell? ⟨gb + 1, 5, none⟩ = some (.int .i64 nx) ∧ Hid (Below V.heap.size V x)) → (y.cell? ⟨gb, 0, none⟩ = some (.int .i64 f) ∧ y.cell? ⟨gb, 1, none⟩ = some (.slice a1 n1 c1) ∧ y.cell? ⟨gb, 2, none⟩ = some (.slice a2 n2 c2) ∧ y.cell? ⟨gb, 3, none⟩ = some (.slice a3 n3 c3) ∧ y.cell? ⟨gb, 4, none⟩ = some (.int .i64 d) ∧ y.cell? ⟨gb + 1, 0, none⟩ = some (.slice a4 n4 c4) ∧ y.cell? ⟨gb + 1, 1, none⟩ = some (.int .i64 nw) ∧ y.cell? ⟨gb + 1, 2, none⟩ = some (.int .i64 g) ∧ y.cell? ⟨gb + 1, 3, none⟩ = some (.bool bk) ∧ y.cell? ⟨gb + 1, 4, none⟩ = some (.slice a5 n5 c5) ∧ y.cell? ⟨gb + 1, 5, none⟩ = some (.int .i64 nx) ∧ Hid (Below V.heap.size V y))) := fun x y hb h => by
    obtain ⟨h1, h2, h3, h4, h5, h6, h7, h8, h9, h10, h11, hB⟩ := h
    have e : ∀ b o v, x.cell? ⟨b, o, none⟩ = some v → y.cell? ⟨b, o, none⟩ = some v := fun b o v hc => (hb.cell (p := ⟨b, o, none⟩) (World.block_lt_of_cell? x _ hc)).trans hc
    exact ⟨e _ _ _ h1, e _ _ _ h2, e _ _ _ h3, e _ _ _ h4, e _ _ _ h5, e _ _ _ h6, e _ _ _ h7, e _ _ _ h8, e _ _ _ h9, e _ _ _ h10, e _ _ _ h11, hB.out.trans (hb.mono hB.out.size)⟩
  have KA : Hid (∀ (x : World) O, Below x.heap.size x (x.alloc O)) := fun x O => (Below.refl _ x).alloc (Nat.le_refl _) O
  have SP : Hid (∀ x : World, (x.cell? ⟨gb, 0, none⟩ = some (.int .i64 f) ∧ x.cell? ⟨gb, 1, none⟩ = some (.slice a1 n1 c1) ∧ x.cell? ⟨gb, 2, none⟩ = some (.slice a2 n2 c2) ∧ x.cell? ⟨gb, 3, none⟩ = some (.slice a3 n3 c3) ∧ x.cell? ⟨gb, 4, none⟩ = some (.int .i64 d) ∧ x.cell? ⟨gb + 1, 0, none⟩ = some (.slice a4 n4 c4) ∧ x.cell? ⟨gb + 1, 1, none⟩ = some (.int .i64 nw) ∧ x.cell? ⟨gb + 1, 2, none⟩ = some (.int .i64 g) ∧ x.cell? ⟨gb + 1, 3, none⟩ = some (.bool bk) ∧ x.cell? ⟨gb + 1, 4, none⟩ = some (.slice a5 n5 c5) ∧ x.cell? ⟨gb + 1, 5, none⟩ = some (.int .i64 nx) ∧ Hid (Below V.heap.size V x)) → Below w.heap.size w x) := fun x h => HB0.out.trans (h.2.2.2.2.2.2.2.2.2.2.2.out.mono HB0.out.size)
  have HK0 : Hid (Blk V gb _ _) := hK0
  have HK1 : Hid (Blk V (gb + 1) _ _) := hK1
  clear hK0 hK1 hB0
  go_region_held3 (fun w' => w'.cell? ⟨gb, 0, none⟩ = some (.int .i64 f) ∧ w'.cell? ⟨gb, 1, none⟩ = some (.slice a1 n1 c1) ∧ w'.cell? ⟨gb, 2, none⟩ = some (.slice a2 n2 c2) ∧ w'.cell? ⟨gb, 3, none⟩ = some (.slice a3 n3 c3) ∧ w'.cell? ⟨gb, 4, none⟩ = some (.int .i64 d) ∧ w'.cell? ⟨gb + 1, 0, none⟩ = some (.slice a4 n4 c4) ∧ w'.cell? ⟨gb + 1, 1, none⟩ = some (.int .i64 nw) ∧ w'.cell? ⟨gb + 1, 2, none⟩ = some (.int .i64 g) ∧ w'.cell? ⟨gb + 1, 3, none⟩ = some (.bool bk) ∧ w'.cell? ⟨gb + 1, 4, none⟩ = some (.slice a5 n5 c5) ∧ w'.cell? ⟨gb + 1, 5, none⟩ = some (.int .i64 nx) ∧ Hid (Below V.heap.size V w')) (first | exact KP.out _ _ (by assumption) (by assumption) | exact S0.out | exact KP.out _ _ (KA.out _ _) (by assumption))
    (first
      | (go_at_call 33; refine (H1.out _ (SP.out _ (by assumption))).mono ?_; rintro e y ⟨rfl, hby⟩)
      | (go_at_call 34; refine (H2.out _ (SP.out _ (by assumption))).mono ?_; rintro e y ⟨rfl, hby⟩)
      | (go_at_call 11; refine (orE2 _ _ _).mono ?_; rintro e y ⟨rfl, hby⟩))
  rename_i hSy
  have HSy : Hid (y.cell? ⟨gb, 0, none⟩ = some (.int .i64 f) ∧ y.cell? ⟨gb, 1, none⟩ = some (.slice a1 n1 c1) ∧ y.cell? ⟨gb, 2, none⟩ = some (.slice a2 n2 c2) ∧ y.cell? ⟨gb, 3, none⟩ = some (.slice a3 n3 c3) ∧ y.cell? ⟨gb, 4, none⟩ = some (.int .i64 d) ∧ y.cell? ⟨gb + 1, 0, none⟩ = some (.slice a4 n4 c4) ∧ y.cell? ⟨gb + 1, 1, none⟩ = some (.int .i64 nw) ∧ y.cell? ⟨gb + 1, 2, none⟩ = some (.int .i64 g) ∧ y.cell? ⟨gb + 1, 3, none⟩ = some (.bool bk) ∧ y.cell? ⟨gb + 1, 4, none⟩ = some (.slice a5 n5 c5) ∧ y.cell? ⟨gb + 1, 5, none⟩ = some (.int .i64 nx) ∧ Hid (Below V.heap.size V y)) := hSy
  clear hSy S0
  generalize hX : orr [X1, X2] = X at F1 F2 ⊢
  by_cases x0 : X = 0
  rotate_left
  · have HQ : Hid (Q = X) := (F1.out x0).symm
    have x0' : (X != 0) = true := by rw [bne_iff_ne]; exact x0
    have HB5 : Hid (Below w.heap.size w y) := SP.out _ HSy.out
    clear F1 F2 x0 hX
    go_wp2
    go_ret
    exact ⟨by rw [HQ.out]; rfl, hgb ▸ HB5.out⟩
  obtain ⟨hr, hq⟩ := F2.out x0
  have HQ : Hid (orr [X3, X4, X5] = Q) := hq
  have H4' := H4.out hr
  have H4'' : Hid (∀ w', Below w.heap.size w w' → Calls Tryz.prog 36 #[.agg #[.int .i64 f, .slice a1 n1 c1, .slice a2 n2 c2, .slice a3 n3 c3, .int .i64 d], .agg #[.slice a4 n4 c4, .int .i64 nw, .int .i64 g, .bool bk, .slice a5 n5 c5, .int .i64 nx]] w' fun e w'' => e = .returned (.int .i64 X4) ∧ Below w'.heap.size w' w'') := H4'
  have SD : Hid (y.drew.cell? ⟨gb, 0, none⟩ = some (.int .i64 f) ∧ y.drew.cell? ⟨gb, 1, none⟩ = some (.slice a1 n1 c1) ∧ y.drew.cell? ⟨gb, 2, none⟩ = some (.slice a2 n2 c2) ∧ y.drew.cell? ⟨gb, 3, none⟩ = some (.slice a3 n3 c3) ∧ y.drew.cell? ⟨gb, 4, none⟩ = some (.int .i64 d) ∧ y.drew.cell? ⟨gb + 1, 0, none⟩ = some (.slice a4 n4 c4) ∧ y.drew.cell? ⟨gb + 1, 1, none⟩ = some (.int .i64 nw) ∧ y.drew.cell? ⟨gb + 1, 2, none⟩ = some (.int .i64 g) ∧ y.drew.cell? ⟨gb + 1, 3, none⟩ = some (.bool bk) ∧ y.drew.cell? ⟨gb + 1, 4, none⟩ = some (.slice a5 n5 c5) ∧ y.drew.cell? ⟨gb + 1, 5, none⟩ = some (.int .i64 nx) ∧ Hid (Below V.heap.size V y.drew)) := KP.out y y.drew (Below.refl _ y).drew HSy.out
  subst x0
  clear F1 F2 hX H4 H4' H1 H2 hq HSy
  go_wp2_with fail
  go_region_held3 (fun w' => w'.cell? ⟨gb, 0, none⟩ = some (.int .i64 f) ∧ w'.cell? ⟨gb, 1, none⟩ = some (.slice a1 n1 c1) ∧ w'.cell? ⟨gb, 2, none⟩ = some (.slice a2 n2 c2) ∧ w'.cell? ⟨gb, 3, none⟩ = some (.slice a3 n3 c3) ∧ w'.cell? ⟨gb, 4, none⟩ = some (.int .i64 d) ∧ w'.cell? ⟨gb + 1, 0, none⟩ = some (.slice a4 n4 c4) ∧ w'.cell? ⟨gb + 1, 1, none⟩ = some (.int .i64 nw) ∧ w'.cell? ⟨gb + 1, 2, none⟩ = some (.int .i64 g) ∧ w'.cell? ⟨gb + 1, 3, none⟩ = some (.bool bk) ∧ w'.cell? ⟨gb + 1, 4, none⟩ = some (.slice a5 n5 c5) ∧ w'.cell? ⟨gb + 1, 5, none⟩ = some (.int .i64 nx) ∧ Hid (Below V.heap.size V w')) (first | exact KP.out _ _ (by assumption) (by assumption) | exact SD.out | exact KP.out _ _ (KA.out _ _) (by assumption))
    (first
      | (go_at_call 35; refine (H3.out _).mono ?_; rintro e z ⟨rfl, hby⟩)
      | (go_at_call 36; refine (H4''.out _ (SP.out _ (by assumption))).mono ?_; rintro e z ⟨rfl, hby⟩)
      | (go_at_call 37; refine (H5.out _ (SP.out _ (by assumption))).mono ?_; rintro e z ⟨rfl, hby⟩)
      | (go_at_call 11; refine (orE3 _ _ _ _).mono ?_; rintro e z ⟨rfl, hby⟩))
  have HB6 : Hid (Below w.heap.size w z) := SP.out _ (by assumption)
  go_wp2
  go_ret
  exact ⟨by rw [HQ.out]; rfl, hgb ▸ HB6.out⟩
end Go.Proofs.YtmlhipdfjnamiaaGreat
