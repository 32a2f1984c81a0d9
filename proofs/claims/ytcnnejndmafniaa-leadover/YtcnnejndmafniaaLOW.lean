/- The walk of the law LeadOver. -/
import Derived.Test.YtcnnejndmafniaaLOC
import Derived.Test.YtcnnejndmafniaaLL1
import Derived.Deep.CutBlock
namespace Go.Proofs.Ytcnnejndmafniaa
open Go.RowKit
theorem lead_six {cf : Ld.Config} {l : Ld.Leader} (h : Ld.chkLeader cf l = 0) : l.ags.length ≤ 6 := (Ld.lead_few h).2.1
theorem turn_ok {cf : Ld.Config} {l : Ld.Leader} {k : Nat} (h : Ld.chkLeader cf l = 0) (hg : l.goal ≠ 0) (hk : k < l.ags.length) : Ld.turnL cf l k = (Ld.isTurn cf l k, Ld.goalOf l, 0) := by
  unfold Ld.turnL
  rw [if_pos h, if_pos (by omega), if_neg hg, Int.toNat_natCast]
theorem over_ok {cf : Ld.Config} {l : Ld.Leader} (h : Ld.chkLeader cf l = 0) (hg : l.goal ≠ 0) : Ld.overL cf l = (Ld.isOver cf l, 0) := by
  unfold Ld.overL
  rw [if_pos h, if_neg hg]
theorem told_any (s t : Int) (bb : Bool) (w : World) :
    Calls Try.prog 29 #[.agg #[.int .i64 s, .int .i64 t, .bool bb]] w fun e w' => e = .returned (.bool (s == 1)) ∧ Below w.heap.size w w' := by
  have HB : Hid (∀ O, Below w.heap.size w (w.alloc O)) := fun O => (Below.refl _ w).alloc (Nat.le_refl _) O
  go_enter Try.func29, Try.ntmps29
  go_wp2
  go_ret
  exact ⟨rfl, HB.out _⟩
set_option maxHeartbeats 16000000 in
set_option maxRecDepth 100000 in
theorem over_any (cf : Ld.Config) (A B D : Value) (ld : Ld.Leader) (Y Z : Value) (w : World) (hC : CfAt w cf A B D) (hL : LdAt w ld Y Z) :
    Calls Try.prog 5 #[cfV cf A B D, leV ld Y Z] w fun e w' => e = .returned (.bool true) ∧ Below w.heap.size w w' := by
  obtain ⟨cx, hcx⟩ : ∃ x, x = cf := ⟨_, rfl⟩
  have HLE : Hid (∀ w', Calls Try.prog 13 #[] w' fun e w'' => e = .returned (.bool true) ∧ Below w'.heap.size w' w'') := fun w' => led_any w'
  have HCK : Hid (∀ w', Below w.heap.size w w' → Calls Try.prog 15 #[cfV cf A B D, leV ld Y Z] w' fun e w'' => e = .returned (.int .i64 (Ld.chkLeader cx ld)) ∧ Below w'.heap.size w' w'') := fun w' hb => by rw [hcx]; exact ldCheck_any cf A B D ld Y Z w' (hC.below hb) (hL.below hb)
  have HTN : Hid (∀ (l : Ld.Leader) (U V : Value) (k : Int) (w' : World), Below w.heap.size w w' → LdAt w' l U V → Calls Try.prog 7 #[cfV cf A B D, leV l U V, .int .i64 k] w' fun e w'' => leT w'' (Ld.turnL cx l k) e ∧ Below w'.heap.size w' w'') := fun l U V k w' hb h => by rw [hcx]; exact ldTurn_any cf A B D l U V k w' (hC.below hb) h
  have HOV : Hid (∀ (l : Ld.Leader) (U V : Value) (w' : World), Below w.heap.size w w' → LdAt w' l U V → Calls Try.prog 8 #[cfV cf A B D, leV l U V] w' fun e w'' => e = .returned (.tuple #[.bool (Ld.overL cx l).1, .int .i64 (Ld.overL cx l).2]) ∧ Below w'.heap.size w' w'') := fun l U V w' hb h => by rw [hcx]; exact ldOver_any cf A B D l U V w' (hC.below hb) h
  have HCL : Hid (∀ (l l2 : Ld.Leader) (r : Lk.Note) (w' : World), r.lock = [] → Below w.heap.size w w' → Blk w' w.heap.size (cfC cf.fid cf.budget A B D) 28 → LdB w' (w.heap.size + 1) l → Ld.nextL cx l r = (l2, 0) → Calls Try.prog 27 #[.agg #[.int .i64 r.kind, .int .i64 r.agent, .int .i64 r.tr, .int .i64 r.n, .bool r.good, .int .i64 r.id, .slice none 0 0], .pointer (some ⟨w.heap.size, 0, none⟩), .pointer (some ⟨w.heap.size + 1, 0, none⟩)] w' fun e w'' => ovC w' (w.heap.size + 1) l2 w'' e) := fun l l2 r w' hr hb hk h hx => by
    obtain ⟨r1, r2, r3, r4, r5, r6, r7⟩ := r
    simp only at hr
    subst hr
    rw [hcx] at hx
    exact overC_any cf A B D w.heap.size (w.heap.size + 1) l l2 r1 r2 r3 r4 r6 r5 w' (hC.below hb) hk h hx
  obtain ⟨a4, c4, rfl⟩ := relA_slice hL.1
  obtain ⟨a5, c5, rfl⟩ := knows_slice hL.2
  obtain ⟨f, L, R, W, d⟩ := cf
  obtain ⟨a1, c1, rfl⟩ := pins_slice hC.1
  obtain ⟨a2, c2, rfl⟩ := rules_slice hC.2.1
  obtain ⟨a3, c3, rfl⟩ := waves_slice hC.2.2
  have hL0 := hL
  obtain ⟨rs, nw, g, bk, ks, nx⟩ := ld
  unfold cfV cfC at HCK HTN HOV
  unfold cfC at HCL
  unfold cfV cfC leV leC
  unfold leV leC at HCK
  simp only at HCK HTN HOV HCL hL0
  simp only
  clear hC hL hcx
  generalize L.length = n1 at *
  generalize R.length = n2 at *
  generalize W.length = n3 at *
  obtain ⟨hB0, hK0, hG0⟩ := box2 w #[.int .i64 f, .slice a1 n1 c1, .slice a2 n2 c2, .slice a3 n3 c3, .int .i64 d] #[.slice a4 rs.length c4, .int .i64 nw, .int .i64 g, .bool bk, .slice a5 ks.length c5, .int .i64 nx] 28 32
  have hLO : LdB ((w.alloc (.cells #[.int .i64 f, .slice a1 n1 c1, .slice a2 n2 c2, .slice a3 n3 c3, .int .i64 d] 28)).alloc (.cells #[.slice a4 rs.length c4, .int .i64 nw, .int .i64 g, .bool bk, .slice a5 ks.length c5, .int .i64 nx] 32)) (w.heap.size + 1) ⟨rs, nw, g, bk, ks, nx⟩ := ⟨a4, c4, a5, c5, hG0, Keep.older hL0 (ld_stab _ _ _) (fun b hb => by rw [hb]; exact Nat.le_succ _) hB0⟩
  go_enter Try.func5, Try.ntmps5
  go_upto_region 1 with fail
  generalize ((w.alloc (.cells #[.int .i64 f, .slice a1 n1 c1, .slice a2 n2 c2, .slice a3 n3 c3, .int .i64 d] 28)).alloc (.cells #[.slice a4 rs.length c4, .int .i64 nw, .int .i64 g, .bool bk, .slice a5 ks.length c5, .int .i64 nx] 32)) = V at hB0 hK0 hG0 hLO ⊢
  have HB0 : Hid (Below w.heap.size w V) := hB0
  have HK0 : Hid (Blk V w.heap.size #[.int .i64 f, .slice a1 n1 c1, .slice a2 n2 c2, .slice a3 n3 c3, .int .i64 d] 28) := hK0
  have HG0 : Hid (Blk V (w.heap.size + 1) #[.slice a4 rs.length c4, .int .i64 nw, .int .i64 g, .bool bk, .slice a5 ks.length c5, .int .i64 nx] 32) := hG0
  have HL0 : Hid (LdB V (w.heap.size + 1) ⟨rs, nw, g, bk, ks, nx⟩) := hLO
  clear hB0 hK0 hG0 hLO hL0
  go_cut [34] from 17 to 34 (fun s34 wx => ∃ b : Bool, s34 = .bool b ∧ Hid (b = false → Ld.chkLeader cx ⟨rs, nw, g, bk, ks, nx⟩ = 0 ∧ g ≠ 0 ∧ nx ≤ 180) ∧ Hid (Below V.heap.size V wx))
  case first =>
    obtain ⟨cv, hcv⟩ : ∃ x, x = Ld.chkLeader cx ⟨rs, nw, g, bk, ks, nx⟩ := ⟨_, rfl⟩
    rw [← hcv] at HCK
    have HCV : Hid (Ld.chkLeader cx ⟨rs, nw, g, bk, ks, nx⟩ = cv) := hcv.symm
    clear hcv
    go_wp2_with fail
    refine (HLE.out _).mono ?_
    rintro e w2 ⟨rfl, hb2⟩
    have hK2 := HK0.out.below hb2
    have hG2 := HG0.out.below hb2
    have HBV : Hid (Below V.heap.size V w2) := hb2
    have HB2 : Hid (Below w.heap.size w w2) := HB0.out.trans (hb2.mono HB0.out.size)
    have HG2 : Hid (Blk w2 (w.heap.size + 1) #[.slice a4 rs.length c4, .int .i64 nw, .int .i64 g, .bool bk, .slice a5 ks.length c5, .int .i64 nx] 32) := hG2
    have kc0 := hK2.cell 0
    have kc1 := hK2.cell 1
    have kc2 := hK2.cell 2
    have kc3 := hK2.cell 3
    have kc4 := hK2.cell 4
    simp only [List.getElem?_toArray, List.getElem?_cons_zero, List.getElem?_cons_succ] at kc0 kc1 kc2 kc3 kc4
    have kl0 := hG2.cell 0
    have kl1 := hG2.cell 1
    have kl2 := hG2.cell 2
    have kl3 := hG2.cell 3
    have kl4 := hG2.cell 4
    have kl5 := hG2.cell 5
    simp only [List.getElem?_toArray, List.getElem?_cons_zero, List.getElem?_cons_succ] at kl0 kl1 kl2 kl3 kl4 kl5
    clear hb2 hK2 hG2
    go_wp2_with fail
    refine (HCK.out _ HB2.out).mono ?_
    rintro e w3 ⟨rfl, hb3⟩
    have hG3 := HG2.out.below hb3
    have HBW : Hid (Below V.heap.size V w3) := HBV.out.trans (hb3.mono HBV.out.size)
    clear hb3 kc0 kc1 kc2 kc3 kc4 kl0 kl1 kl2 kl3 kl4 kl5 HG2 HBV HB2 HTN HOV HCL HCK HLE
    have kl2 := hG3.cell 2
    have kl5 := hG3.cell 5
    simp only [List.getElem?_toArray, List.getElem?_cons_zero, List.getElem?_cons_succ] at kl2 kl5
    clear hG3
    by_cases c0 : cv = 0
    rotate_left
    · have c0' : (cv != 0) = true := by rw [bne_iff_ne]; exact c0
      go_wp2_with fail
      go_meet
      case rel => exact ⟨true, rfl, (fun h => by cases h), HBW⟩
    by_cases g0 : g = 0
    · have g0' : (g == 0) = true := by simpa using g0
      clear g0
      subst c0
      go_wp2_with fail
      go_meet
      case rel => exact ⟨true, rfl, (fun h => by cases h), HBW⟩
    have g0' : (g == 0) = false := by simpa using g0
    by_cases x0 : 180 < nx
    · have x0' : decide ((180 : Int) < nx) = true := decide_eq_true x0
      subst c0
      clear g0
      go_wp2_with fail
      go_meet
      case rel => exact ⟨true, rfl, (fun h => by cases h), HBW⟩
    have x0' : decide ((180 : Int) < nx) = false := decide_eq_false x0
    have HX0 : Hid (nx ≤ 180) := by show _ ≤ _; omega
    have HG00 : Hid (g ≠ 0) := g0
    have HC00 : Hid (Ld.chkLeader cx ⟨rs, nw, g, bk, ks, nx⟩ = 0) := HCV.out.trans c0
    clear HCV
    clear g0 x0
    subst c0
    go_wp2_with fail
    go_meet
    case rel => exact ⟨false, rfl, (fun _ => ⟨HC00.out, HG00.out, HX0.out⟩), HBW⟩
  case rest =>
  obtain ⟨b, rfl, HBF, HBX⟩ := hcut
  have HBw : Hid (Below w.heap.size w wc) := HB0.out.trans (HBX.out.mono HB0.out.size)
  cases b
  rotate_left
  · clear HCK HTN HOV HCL HBF
    go_wp2_with fail
    refine (HLE.out _).mono ?_
    rintro e w3 ⟨rfl, hb3⟩
    have HB3 : Hid (Below w.heap.size w w3) := HBw.out.trans (hb3.mono HBw.out.size)
    clear hb3
    go_wp2
    go_ret
    exact ⟨rfl, HB3.out⟩
  obtain ⟨hc0, hg0, hx0⟩ := HBF.out rfl
  have HRD : Hid (Ld.Round cx ⟨rs, nw, g, bk, ks, nx⟩ ⟨rs, nw, g, bk, ks, nx⟩ (2 * ks.length + 3)) := Ld.round_first hc0 hx0
  have hn6 : ks.length ≤ 6 := lead_six hc0
  have HGN : Hid (g ≠ 0) := hg0
  have hK1 := HK0.out.below HBX.out
  have HG1 : Hid (Blk wc (w.heap.size + 1) #[.slice a4 rs.length c4, .int .i64 nw, .int .i64 g, .bool bk, .slice a5 ks.length c5, .int .i64 nx] 32) := HG0.out.below HBX.out
  have HL1 : Hid (LdB wc (w.heap.size + 1) ⟨rs, nw, g, bk, ks, nx⟩) := LdB.below HL0.out HBX.out
  have HK1 : Hid (Blk wc w.heap.size #[.int .i64 f, .slice a1 n1 c1, .slice a2 n2 c2, .slice a3 n3 c3, .int .i64 d] 28) := hK1
  have kl0 := HG1.out.cell 0
  have kl1 := HG1.out.cell 1
  have kl2 := HG1.out.cell 2
  have kl3 := HG1.out.cell 3
  have kl4 := HG1.out.cell 4
  have kl5 := HG1.out.cell 5
  simp only [List.getElem?_toArray, List.getElem?_cons_zero, List.getElem?_cons_succ] at kl0 kl1 kl2 kl3 kl4 kl5
  have hl1 : w.heap.size + 1 < wc.heap.size := HG1.out.lt
  have hbW := (Below.refl wc.heap.size wc).alloc (Nat.le_refl _) (.cells #[.slice a4 rs.length c4, .int .i64 nw, .int .i64 g, .bool bk, .slice a5 ks.length c5, .int .i64 nx] 32)
  have HW2 : Hid (Blk (wc.alloc (.cells #[.slice a4 rs.length c4, .int .i64 nw, .int .i64 g, .bool bk, .slice a5 ks.length c5, .int .i64 nx] 32)) wc.heap.size #[.slice a4 rs.length c4, .int .i64 nw, .int .i64 g, .bool bk, .slice a5 ks.length c5, .int .i64 nx] 32) := blk_alloc wc _ _
  have HK2 : Hid (Blk (wc.alloc (.cells #[.slice a4 rs.length c4, .int .i64 nw, .int .i64 g, .bool bk, .slice a5 ks.length c5, .int .i64 nx] 32)) w.heap.size #[.int .i64 f, .slice a1 n1 c1, .slice a2 n2 c2, .slice a3 n3 c3, .int .i64 d] 28) := HK1.out.below hbW
  have HL2 : Hid (LdB (wc.alloc (.cells #[.slice a4 rs.length c4, .int .i64 nw, .int .i64 g, .bool bk, .slice a5 ks.length c5, .int .i64 nx] 32)) (w.heap.size + 1) ⟨rs, nw, g, bk, ks, nx⟩) := LdB.below HL1.out hbW
  have HG2 : Hid (Blk (wc.alloc (.cells #[.slice a4 rs.length c4, .int .i64 nw, .int .i64 g, .bool bk, .slice a5 ks.length c5, .int .i64 nx] 32)) (w.heap.size + 1) #[.slice a4 rs.length c4, .int .i64 nw, .int .i64 g, .bool bk, .slice a5 ks.length c5, .int .i64 nx] 32) := HG1.out.below hbW
  have HB2 : Hid (Below w.heap.size w (wc.alloc (.cells #[.slice a4 rs.length c4, .int .i64 nw, .int .i64 g, .bool bk, .slice a5 ks.length c5, .int .i64 nx] 32))) := HBw.out.trans (hbW.mono HBw.out.size)
  clear hK1 HBF hc0 hx0 hg0 HB0 HK0 HG0 HL0 HBX HLE HCK HBw hbW HK1 HL1 HG1
  go_upto_region 4 with fail
  generalize (wc.alloc (.cells #[.slice a4 rs.length c4, .int .i64 nw, .int .i64 g, .bool bk, .slice a5 ks.length c5, .int .i64 nx] 32)) = V2 at HW2 HK2 HL2 HB2 HG2 ⊢
  generalize wc.heap.size = gw at HW2 hl1 ⊢
  clear kl0 kl1 kl2 kl3 kl4 kl5
  obtain ⟨N, hN⟩ : ∃ N, N = 2 * ks.length + 3 := ⟨_, rfl⟩
  rw [← hN] at HRD
  go_upto_region 5 with fail
  go_cut [42, 43] from 38 to 43 (fun s42 s43 wx => s42 = .int .i64 N ∧ s43 = .int .i64 0 ∧ V2 = wx)
  case first =>
    have kz4 := HG2.out.cell 4
    simp only [List.getElem?_toArray, List.getElem?_cons_zero, List.getElem?_cons_succ] at kz4
    go_wp2_with fail
    go_meet
    case rel => exact ⟨by go_num, rfl, rfl⟩
  case rest =>
  obtain ⟨rfl, rfl, rfl⟩ := hcut
  clear HG2
  have hN15 : N ≤ 15 := by omega
  clear hN
  have HSL : Hid (∀ x, (fun x => x = w.heap.size + 1) x → w.heap.size ≤ x) := fun x (h : x = w.heap.size + 1) => by rw [h]; exact Nat.le_succ _
  have HNE : Hid (¬ (fun x => x = w.heap.size + 1) w.heap.size) := fun (h : w.heap.size = w.heap.size + 1) => by omega
  go_upto_block 0 with fail
  go_cut [] from 44 to 148 (fun wx => ∃ l : Ld.Leader, Hid (Ld.chkLeader cx l = 0 ∧ l.goal ≠ 0 ∧ Ld.isOver cx l = true ∧ l.now = nw ∧ l.goal = g) ∧ Hid (LdB wx (w.heap.size + 1) l) ∧ Hid (Aside (fun x => x = w.heap.size + 1) V2 wx))
  case first =>
    go_wp2_with fail
    go_loopg [43] N (fun gi s43 wr => ∃ (k : Nat) (l : Ld.Leader), k ≤ N ∧ N - k ≤ gi ∧ s43 = .int .i64 k ∧ Hid (Ld.Round cx ⟨rs, nw, g, bk, ks, nx⟩ l (N - k)) ∧ Hid (LdB wr (w.heap.size + 1) l) ∧ Hid (Aside (fun x => x = w.heap.size + 1) V2 wr))
    case atStart => exact ⟨0, ⟨rs, nw, g, bk, ks, nx⟩, Nat.zero_le _, by omega, rfl, HRD, HL2, aside_refl _ _⟩
    case round =>
      obtain ⟨k, l, hk, hg, rfl, HR, HL, HA⟩ := hrel
      by_cases hlt : k < N
      rotate_left
      · exfalso
        have h1 := HR.out.left
        have h2 := Ld.left_pos l
        omega
      have hch := HR.out.chk
      have hkN : (k : Int) < N := by omega
      have hl6 : l.ags.length ≤ 6 := lead_six hch
      have HCH : Hid (Ld.chkLeader cx l = 0) := hch
      clear hch
      obtain ⟨b4, e4, b5, e5, hG, hO⟩ := HL.out
      have kl0 := hG.cell 0
      have kl1 := hG.cell 1
      have kl2 := hG.cell 2
      have kl3 := hG.cell 3
      have kl4 := hG.cell 4
      have kl5 := hG.cell 5
      simp only [List.getElem?_toArray, List.getElem?_cons_zero, List.getElem?_cons_succ] at kl0 kl1 kl2 kl3 kl4 kl5
      have HKN : Hid (Off (w.heap.size + 1) (fun w => KnowsAt w (.slice b5 l.ags.length e5) l.ags) wr) := Keep.mono hO (fun _ h => h.2)
      clear hG hO
      obtain ⟨W0, hW0⟩ : ∃ x, x = wr := ⟨_, rfl⟩
      subst hW0
      go_upto_block 2 with fail
      clear kl0 kl1 kl2 kl3 kl4 kl5
      go_cut [] from 49 to 65 (fun wx => ∃ l1 : Ld.Leader, Hid (Ld.Round cx ⟨rs, nw, g, bk, ks, nx⟩ l1 (N - k)) ∧ Hid (∀ a ∈ l1.ags, a.st ≠ 1) ∧ Hid (LdB wx (w.heap.size + 1) l1) ∧ Hid (Aside (fun x => x = w.heap.size + 1) V2 wx))
      case first =>
        go_wp2_with fail
        go_loopg [48] l.ags.length (fun gi s48 wr => ∃ j : Nat, j ≤ l.ags.length ∧ l.ags.length - j ≤ gi ∧ s48 = .int .i64 j ∧ Hid (Ld.chkLeader cx (Ld.hear j l) = 0) ∧ Hid (LdB wr (w.heap.size + 1) (Ld.hear j l)) ∧ Hid (Aside (fun x => x = w.heap.size + 1) V2 wr) ∧ Hid (Aside (fun x => x = w.heap.size + 1) W0 wr))
        case atStart => exact ⟨0, Nat.zero_le _, by omega, rfl, (by show _ = _; rw [Ld.hear_zero]; exact HCH.out), (by show LdB _ _ _; rw [Ld.hear_zero]; exact HL.out), HA, aside_refl _ _⟩
        case round =>
          obtain ⟨j, hj, hgj, rfl, HCj, HLj, HAj, HWj⟩ := hrel
          clear HL HA
          by_cases hjl : j < l.ags.length
          rotate_left
          · have hj' : j = l.ags.length := by omega
            have HRj : Hid (Ld.Round cx ⟨rs, nw, g, bk, ks, nx⟩ (Ld.hear j l) (N - k)) := HR.out.heard j HCj.out
            have HTj : Hid (∀ a ∈ (Ld.hear j l).ags, a.st ≠ 1) := Ld.hear_told (by omega)
            clear HTN HOV HCL HKN HCH HCj HWj HR
            generalize Ld.hear j l = lj at *
            subst hj'
            clear hjl
            go_wp2_with fail
            go_meet
            case rel => exact ⟨lj, HRj, HTj, HLj, HAj⟩
          obtain ⟨kb, ko, rfl, hkb, q1, q2, q3⟩ := knows_at (Keep.aside HKN.out HWj.out).here hjl
          have HHN : Hid ((l.ags.getD j ⟨0, 0, false⟩).st = 1 → Ld.nextL cx (Ld.hear j l) (Ld.gotR j (l.ags.getD j ⟨0, 0, false⟩).tr) = (Ld.hear (j + 1) l, 0)) := fun h => Ld.hear_next hjl h HCj.out
          have HSK : Hid ((l.ags.getD j ⟨0, 0, false⟩).st ≠ 1 → Ld.hear (j + 1) l = Ld.hear j l) := fun h => Ld.hear_skip hjl h
          generalize l.ags.getD j ⟨0, 0, false⟩ = kn at q1 q2 q3 HHN HSK
          obtain ⟨st, tr, bb⟩ := kn
          simp only at q1 q2 q3 HHN HSK
          have hbx := box1 wr #[.int .i64 st, .int .i64 tr, .bool bb] 56
          have HBk : Hid (Below wr.heap.size wr (wr.alloc (.cells #[.int .i64 st, .int .i64 tr, .bool bb] 56))) := hbx.1
          have hjn : (j : Int) < l.ags.length := by omega
          have hlm : (l.ags.length : Int) ≤ 6 := by omega
          by_cases s1 : st = 1
          rotate_left
          · have s1' : (st == 1) = false := by simpa using s1
            have he := HSK.out s1
            have HC2 : Hid (Ld.chkLeader cx (Ld.hear (j + 1) l) = 0) := by show _ = _; rw [he]; exact HCj.out
            have HL2' : Hid (LdB (wr.alloc (.cells #[.int .i64 st, .int .i64 tr, .bool bb] 56)) (w.heap.size + 1) (Ld.hear (j + 1) l)) := by
              show LdB _ _ _
              rw [he]; exact LdB.below HLj.out HBk.out
            have HA2 : Hid (Aside (fun x => x = w.heap.size + 1) V2 (wr.alloc (.cells #[.int .i64 st, .int .i64 tr, .bool bb] 56))) := aside_trans HAj.out (aside_of_below HBk.out)
            have HW2' : Hid (Aside (fun x => x = w.heap.size + 1) W0 (wr.alloc (.cells #[.int .i64 st, .int .i64 tr, .bool bb] 56))) := aside_trans HWj.out (aside_of_below HBk.out)
            clear he s1 HTN HOV HCL HHN HSK HR HCj HLj HAj HWj
            go_wp2
            go_roundg (l.ags.length - (j + 1))
            case measure => omega
            case rel => exact ⟨j + 1, by omega, by omega, by go_num, HC2, HL2', HA2, HW2'⟩
          · have hx := HHN.out s1
            subst s1
            have HC2 : Hid (Ld.chkLeader cx (Ld.hear (j + 1) l) = 0) := by
              have := (Ld.next_chk (c := cx) (l := Ld.hear j l) (r := Ld.gotR j tr) (by rw [hx])).2.2
              rw [hx] at this
              exact this
            have hAk : Aside (fun x => x = w.heap.size + 1) V2 (wr.alloc (.cells #[.int .i64 1, .int .i64 tr, .bool bb] 56)) := aside_trans HAj.out (aside_of_below HBk.out)
            have HX : Hid (Calls Try.prog 27 #[.agg #[.int .i64 7, .int .i64 j, .int .i64 tr, .int .i64 0, .bool true, .int .i64 0, .slice none 0 0], .pointer (some ⟨w.heap.size, 0, none⟩), .pointer (some ⟨w.heap.size + 1, 0, none⟩)] (wr.alloc (.cells #[.int .i64 1, .int .i64 tr, .bool bb] 56)) fun e w'' => ovC (wr.alloc (.cells #[.int .i64 1, .int .i64 tr, .bool bb] 56)) (w.heap.size + 1) (Ld.hear (j + 1) l) w'' e) := HCL.out (Ld.hear j l) (Ld.hear (j + 1) l) (Ld.gotR j tr) _ rfl (HB2.out.trans (below_aside hAk HB2.out.size HSL.out)) (HK2.out.aside hAk HNE.out) (LdB.below HLj.out HBk.out) hx
            have HAk : Hid (Aside (fun x => x = w.heap.size + 1) V2 (wr.alloc (.cells #[.int .i64 1, .int .i64 tr, .bool bb] 56))) := hAk
            have HWk : Hid (Aside (fun x => x = w.heap.size + 1) W0 (wr.alloc (.cells #[.int .i64 1, .int .i64 tr, .bool bb] 56))) := aside_trans HWj.out (aside_of_below HBk.out)
            clear hx hAk HTN HOV HCL HHN HSK HR HCj HLj HAj HWj
            go_wp2_with fail
            refine HX.out.mono ?_
            rintro e w3 ⟨rfl, hL3, hA3⟩
            have HL3 : Hid (LdB w3 (w.heap.size + 1) (Ld.hear (j + 1) l)) := hL3
            have HA3 : Hid (Aside (fun x => x = w.heap.size + 1) V2 w3) := aside_trans HAk.out hA3
            have HW3 : Hid (Aside (fun x => x = w.heap.size + 1) W0 w3) := aside_trans HWk.out hA3
            clear hL3 hA3 HX HAk HWk q1 q2 q3 hbx HBk
            go_wp2
            go_roundg (l.ags.length - (j + 1))
            case measure => omega
            case rel => exact ⟨j + 1, by omega, by omega, by go_num, HC2, HL3, HA3, HW3⟩
      case rest =>
      obtain ⟨l1, HR1, HT1, HL1, HA1⟩ := hcut
      clear HR HCH HKN HL HA hl6
      have HG1 : Hid (l1.goal ≠ 0) := by show _ ≠ _; rw [HR1.out.goal]; exact HGN.out
      have hl6 : l1.ags.length ≤ 6 := lead_six HR1.out.chk
      obtain ⟨b4, e4, b5, e5, hG, hO⟩ := HL1.out
      have kl0 := hG.cell 0
      have kl1 := hG.cell 1
      have kl2 := hG.cell 2
      have kl3 := hG.cell 3
      have kl4 := hG.cell 4
      have kl5 := hG.cell 5
      simp only [List.getElem?_toArray, List.getElem?_cons_zero, List.getElem?_cons_succ] at kl0 kl1 kl2 kl3 kl4 kl5
      clear hG hO
      go_upto_block 4 with fail
      clear kl0 kl1 kl2 kl3 kl4 kl5
      go_cut [9] from 70 to 113 (fun s9 wx => ∃ (mv : Bool) (l2 : Ld.Leader), s9 = .bool mv ∧ Hid (Ld.Mid cx l1 l2 l1.ags.length mv) ∧ Hid (LdB wx (w.heap.size + 1) l2) ∧ Hid (Aside (fun x => x = w.heap.size + 1) V2 wx))
      case first =>
        go_wp2_with fail
        go_loopg [9, 69] l1.ags.length (fun gi s9 s69 wr => ∃ (j : Nat) (mv : Bool) (l2 : Ld.Leader), j ≤ l1.ags.length ∧ l1.ags.length - j ≤ gi ∧ s9 = .bool mv ∧ s69 = .int .i64 j ∧ Hid (Ld.Mid cx l1 l2 j mv) ∧ Hid (LdB wr (w.heap.size + 1) l2) ∧ Hid (Aside (fun x => x = w.heap.size + 1) V2 wr))
        case atStart => exact ⟨0, false, l1, Nat.zero_le _, by omega, rfl, rfl, HR1.out.mid, HL1, HA1⟩
        case round =>
          obtain ⟨j, mv, l2, hj, hgj, rfl, rfl, HMj, HLj, HAj⟩ := hrel
          clear HL1 HA1 HT1
          by_cases hjl : j < l1.ags.length
          rotate_left
          · have hj' : j = l1.ags.length := by omega
            subst hj'
            clear hjl HTN HOV HCL
            go_wp2_with fail
            go_meet
            case rel => exact ⟨mv, l2, rfl, HMj, HLj, HAj⟩
          have hjl2 : j < l2.ags.length := by rw [HMj.out.len]; exact hjl
          have hg2 : l2.goal ≠ 0 := by rw [HMj.out.goal]; exact HG1.out
          have hid := Ld.goal_id HMj.out.chk hg2
          have hgn : l2.goal ≠ l2.now := ((Ld.lead_iff cx l2).1 HMj.out.chk).2.2.2.2.2.2.1.1
          have htk := turn_ok HMj.out.chk hg2 hjl2
          have HSn : Hid (Ld.isTurn cx l2 j = true → Ld.nextL cx l2 (Ld.sendR j l2.next) = (Ld.sent l2 j, 0) ∧ Ld.Mid cx l1 (Ld.sent l2 j) (j + 1) true) := fun h => HMj.out.send hjl2 hg2 h
          have HSk : Hid (Ld.isTurn cx l2 j = false → Ld.Mid cx l1 l2 (j + 1) mv) := fun h => HMj.out.skip h
          have HBr : Hid (Below w.heap.size w wr) := HB2.out.trans (below_aside HAj.out HB2.out.size HSL.out)
          have HKr : Hid (Blk wr w.heap.size #[.int .i64 f, .slice a1 n1 c1, .slice a2 n2 c2, .slice a3 n3 c3, .int .i64 d] 28) := HK2.out.aside HAj.out HNE.out
          have hKr := HKr.out
          obtain ⟨rs2, nw2, g2, bk2, ks2, nx2⟩ := l2
          obtain ⟨b4, e4, b5, e5, hG, hO⟩ := HLj.out
          have kl0 := hG.cell 0
          have kl1 := hG.cell 1
          have kl2 := hG.cell 2
          have kl3 := hG.cell 3
          have kl4 := hG.cell 4
          have kl5 := hG.cell 5
          simp only [List.getElem?_toArray, List.getElem?_cons_zero, List.getElem?_cons_succ] at kl0 kl1 kl2 kl3 kl4 kl5
          have kc0 := hKr.cell 0
          have kc1 := hKr.cell 1
          have kc2 := hKr.cell 2
          have kc3 := hKr.cell 3
          have kc4 := hKr.cell 4
          simp only [List.getElem?_toArray, List.getElem?_cons_zero, List.getElem?_cons_succ] at kc0 kc1 kc2 kc3 kc4
          have HT := HTN.out _ _ _ (j : Int) wr HBr.out hO.here
          rw [htk] at HT
          simp only [leV, leC, leT] at HT
          simp only at hg2 hid hgn
          have HGNn : Hid (g2 ≠ nw2) := hgn
          have HID : Hid ((Ld.goalOf ⟨rs2, nw2, g2, bk2, ks2, nx2⟩).1 = if bk2 = true then nw2 else g2) := hid
          have hjn : (j : Int) < l1.ags.length := by omega
          have hlm : (l1.ags.length : Int) ≤ 6 := by omega
          clear hG hO htk hg2 hid hgn hjl2 hKr HMj HTN HOV
          generalize Ld.isTurn cx ⟨rs2, nw2, g2, bk2, ks2, nx2⟩ j = tn at HT HSn HSk
          generalize Ld.goalOf ⟨rs2, nw2, g2, bk2, ks2, nx2⟩ = go2 at HT HID
          obtain ⟨gid, gl2⟩ := go2
          simp only at HT HID
          go_wp2_with fail
          refine HT.mono ?_
          rintro e w3 ⟨⟨y, rfl, hp⟩, hb3⟩
          obtain ⟨ya, yc, rfl⟩ := pins_slice hp
          clear hp HT kl0 kl1 kl2 kl3 kl4 kl5 kc0 kc1 kc2 kc3 kc4
          generalize gl2.length = ny
          have hbx := box1 w3 #[.int .i64 gid, .slice ya ny yc] 24
          have hb5 := hb3.trans (hbx.1.mono hb3.size)
          have HL5 : Hid (LdB (w3.alloc (.cells #[.int .i64 gid, .slice ya ny yc] 24)) (w.heap.size + 1) ⟨rs2, nw2, g2, bk2, ks2, nx2⟩) := LdB.below HLj.out hb5
          have HA5 : Hid (Aside (fun x => x = w.heap.size + 1) V2 (w3.alloc (.cells #[.int .i64 gid, .slice ya ny yc] 24))) := aside_trans HAj.out (aside_of_below hb5)
          have HR5 : Hid (Blk (w3.alloc (.cells #[.int .i64 gid, .slice ya ny yc] 24)) w3.heap.size #[.int .i64 gid, .slice ya ny yc] 24) := hbx.2
          have HB5 : Hid (Below w.heap.size w (w3.alloc (.cells #[.int .i64 gid, .slice ya ny yc] 24))) := HBr.out.trans (hb5.mono HBr.out.size)
          have HK5 : Hid (Blk (w3.alloc (.cells #[.int .i64 gid, .slice ya ny yc] 24)) w.heap.size #[.int .i64 f, .slice a1 n1 c1, .slice a2 n2 c2, .slice a3 n3 c3, .int .i64 d] 28) := HKr.out.below hb5
          clear hbx hb5 hb3 HLj HAj HBr HKr
          go_upto_region 18 with fail
          generalize (w3.alloc (.cells #[.int .i64 gid, .slice ya ny yc] 24)) = V5 at HL5 HA5 HR5 HB5 HK5 ⊢
          generalize w3.heap.size = gr at HR5 ⊢
          go_cut [104] from 80 to 104 (fun s104 wx => s104 = .bool false ∧ V5 = wx)
          case first =>
            obtain ⟨b4, e4, b5, e5, hG, hO⟩ := HL5.out
            have kl0 := hG.cell 0
            have kl1 := hG.cell 1
            have kl2 := hG.cell 2
            have kl3 := hG.cell 3
            have kl4 := hG.cell 4
            have kl5 := hG.cell 5
            simp only [List.getElem?_toArray, List.getElem?_cons_zero, List.getElem?_cons_succ] at kl0 kl1 kl2 kl3 kl4 kl5
            have kr0 := HR5.out.cell 0
            simp only [List.getElem?_toArray, List.getElem?_cons_zero] at kr0
            clear hG hO HSn HSk HCL HL5 HA5 HR5 HB5 HK5
            cases bk2
            · have e1 : gid = g2 := HID.out
              subst e1
              have e2 : (gid != nw2) = true := by rw [bne_iff_ne]; exact HGNn.out
              go_wp2_with fail
              go_meet
              case rel => exact ⟨rfl, rfl⟩
            · have e1 : gid = nw2 := HID.out
              subst e1
              have e2 : (gid != g2) = true := by rw [bne_iff_ne]; exact fun h => HGNn.out h.symm
              go_wp2_with fail
              go_meet
              case rel => exact ⟨rfl, rfl⟩
          case rest =>
          obtain ⟨rfl, rfl⟩ := hcut
          cases tn
          · have HM2 : Hid (Ld.Mid cx l1 ⟨rs2, nw2, g2, bk2, ks2, nx2⟩ (j + 1) mv) := HSk.out rfl
            clear HSn HSk HCL HID HGNn
            go_wp2
            go_roundg (l1.ags.length - (j + 1))
            case measure => omega
            case rel => exact ⟨j + 1, mv, ⟨rs2, nw2, g2, bk2, ks2, nx2⟩, by omega, by omega, rfl, by go_num, HM2, HL5, HA5⟩
          · obtain ⟨hx, hm2⟩ := HSn.out rfl
            have HM2 : Hid (Ld.Mid cx l1 (Ld.sent ⟨rs2, nw2, g2, bk2, ks2, nx2⟩ j) (j + 1) true) := hm2
            have HX : Hid (Calls Try.prog 27 #[.agg #[.int .i64 6, .int .i64 j, .int .i64 nx2, .int .i64 0, .bool false, .int .i64 0, .slice none 0 0], .pointer (some ⟨w.heap.size, 0, none⟩), .pointer (some ⟨w.heap.size + 1, 0, none⟩)] V5 fun e w'' => ovC V5 (w.heap.size + 1) (Ld.sent ⟨rs2, nw2, g2, bk2, ks2, nx2⟩ j) w'' e) := HCL.out _ _ (Ld.sendR j nx2) _ rfl HB5.out HK5.out HL5.out hx
            obtain ⟨b4, e4, b5, e5, hG, hO⟩ := HL5.out
            have kl0 := hG.cell 0
            have kl1 := hG.cell 1
            have kl2 := hG.cell 2
            have kl3 := hG.cell 3
            have kl4 := hG.cell 4
            have kl5 := hG.cell 5
            simp only [List.getElem?_toArray, List.getElem?_cons_zero, List.getElem?_cons_succ] at kl0 kl1 kl2 kl3 kl4 kl5
            clear hx hm2 HSn HSk HCL HID HGNn hG hO
            go_wp2_with fail
            refine HX.out.mono ?_
            rintro e w6 ⟨rfl, hL6, hA6⟩
            have HL6 : Hid (LdB w6 (w.heap.size + 1) (Ld.sent ⟨rs2, nw2, g2, bk2, ks2, nx2⟩ j)) := hL6
            have HA6 : Hid (Aside (fun x => x = w.heap.size + 1) V2 w6) := aside_trans HA5.out hA6
            clear hL6 hA6 HX kl0 kl1 kl2 kl3 kl4 kl5 HL5 HA5 HB5 HK5 HR5
            generalize Ld.sent ⟨rs2, nw2, g2, bk2, ks2, nx2⟩ j = ls at HM2 HL6
            go_wp2
            go_roundg (l1.ags.length - (j + 1))
            case measure => omega
            case rel => exact ⟨j + 1, true, ls, by omega, by omega, rfl, by go_num, HM2, HL6, HA6⟩
      case rest =>
      obtain ⟨mv, l2, rfl, HM, HLm, HAm⟩ := hcut
      have hg2 : l2.goal ≠ 0 := by rw [HM.out.goal]; exact HG1.out
      have hov := over_ok HM.out.chk hg2
      have HBm : Hid (Below w.heap.size w wc) := HB2.out.trans (below_aside HAm.out HB2.out.size HSL.out)
      have FO1 : Hid (Ld.isOver cx l2 = true → mv = false) := fun h => by
        cases mv
        · rfl
        · rw [(Ld.Mid.moved HM.out).1] at h; cases h
      have FO2 : Hid (Ld.isOver cx l2 = true → Ld.chkLeader cx l2 = 0 ∧ l2.goal ≠ 0 ∧ Ld.isOver cx l2 = true ∧ l2.now = nw ∧ l2.goal = g) := fun h => ⟨HM.out.chk, hg2, h, HM.out.now.trans HR1.out.now, HM.out.goal.trans HR1.out.goal⟩
      have FO3 : Hid (Ld.isOver cx l2 = false → mv = false → l2.back = false) := fun h hm => by
        subst hm
        cases hb : l2.back with
        | false => rfl
        | true => rw [Ld.Mid.still HM.out HT1.out hb] at h; cases h
      have FO4 : Hid (mv = true → Ld.Round cx ⟨rs, nw, g, bk, ks, nx⟩ l2 (N - k - 1)) := fun h => by subst h; exact HR1.out.next HM.out
      have FO5 : Hid (mv = false → l2.back = false → (l2.ags.any fun a => a.st == 1) = false ∧ Ld.nextL cx l2 Ld.backR = ({ l2 with back := true }, 0) ∧ Ld.Round cx ⟨rs, nw, g, bk, ks, nx⟩ { l2 with back := true } (N - k - 1)) := fun h hb => by
        subst h
        have e := HM.out.same rfl
        subst e
        refine ⟨?_, Ld.back_next HM.out.chk hg2 hb, HR1.out.turned hg2 hb⟩
        rw [List.any_eq_false]
        intro a ha
        simpa using HT1.out a ha
      obtain ⟨rs2, nw2, g2, bk2, ks2, nx2⟩ := l2
      have hKm := HK2.out.aside HAm.out HNE.out
      obtain ⟨b4, e4, b5, e5, hG, hO⟩ := HLm.out
      have kl0 := hG.cell 0
      have kl1 := hG.cell 1
      have kl2 := hG.cell 2
      have kl3 := hG.cell 3
      have kl4 := hG.cell 4
      have kl5 := hG.cell 5
      simp only [List.getElem?_toArray, List.getElem?_cons_zero, List.getElem?_cons_succ] at kl0 kl1 kl2 kl3 kl4 kl5
      have kc0 := hKm.cell 0
      have kc1 := hKm.cell 1
      have kc2 := hKm.cell 2
      have kc3 := hKm.cell 3
      have kc4 := hKm.cell 4
      simp only [List.getElem?_toArray, List.getElem?_cons_zero, List.getElem?_cons_succ] at kc0 kc1 kc2 kc3 kc4
      have HO := HOV.out _ _ _ wc HBm.out hO.here
      rw [hov] at HO
      simp only [leV, leC] at HO
      simp only at FO2 FO3 FO5
      have hkm : (k : Int) ≤ 15 := by omega
      clear hov hg2 hG hO HTN HOV HG1 HT1 HL1 HA1 HR1 HM
      generalize hio : Ld.isOver cx ⟨rs2, nw2, g2, bk2, ks2, nx2⟩ = ov at HO FO1 FO2 FO3
      go_wp2_with fail
      refine HO.mono ?_
      rintro e w3 ⟨rfl, hb3⟩
      have HL3 : Hid (LdB w3 (w.heap.size + 1) ⟨rs2, nw2, g2, bk2, ks2, nx2⟩) := LdB.below HLm.out hb3
      have HA3 : Hid (Aside (fun x => x = w.heap.size + 1) V2 w3) := aside_trans HAm.out (aside_of_below hb3)
      clear HO hb3 HLm HAm HBm hKm kl0 kl1 kl2 kl3 kl4 kl5 kc0 kc1 kc2 kc3 kc4
      cases ov
      rotate_left
      · have hm := FO1.out rfl
        subst hm
        have HF2 : Hid (Ld.chkLeader cx ⟨rs2, nw2, g2, bk2, ks2, nx2⟩ = 0 ∧ g2 ≠ 0 ∧ Ld.isOver cx ⟨rs2, nw2, g2, bk2, ks2, nx2⟩ = true ∧ nw2 = nw ∧ g2 = g) := by rw [hio]; exact FO2.out rfl
        clear hio FO1 FO2 FO3 FO4 FO5 HCL
        go_wp2_with fail
        go_meet
        case rel => exact ⟨⟨rs2, nw2, g2, bk2, ks2, nx2⟩, HF2, HL3, HA3⟩
      clear hio FO1 FO2
      have hmz : N - k - 1 = N - (k + 1) := by omega
      cases mv
      rotate_left
      · have HRn : Hid (Ld.Round cx ⟨rs, nw, g, bk, ks, nx⟩ ⟨rs2, nw2, g2, bk2, ks2, nx2⟩ (N - (k + 1))) := hmz ▸ FO4.out rfl
        clear FO3 FO4 FO5 HCL hmz
        go_wp2
        go_roundg (N - (k + 1))
        case measure => omega
        case rel => exact ⟨k + 1, ⟨rs2, nw2, g2, bk2, ks2, nx2⟩, by omega, by omega, by go_num, HRn, HL3, HA3⟩
      have hb2 := FO3.out rfl rfl
      subst hb2
      obtain ⟨ha2, hx, hr2⟩ := FO5.out rfl rfl
      have HRn : Hid (Ld.Round cx ⟨rs, nw, g, bk, ks, nx⟩ ⟨rs2, nw2, g2, true, ks2, nx2⟩ (N - (k + 1))) := hmz ▸ hr2
      have HNX : Hid (Ld.nextL cx ⟨rs2, nw2, g2, false, ks2, nx2⟩ Ld.backR = (⟨rs2, nw2, g2, true, ks2, nx2⟩, 0)) := hx
      obtain ⟨b4, e4, b5, e5, hG, hO⟩ := HL3.out
      have kl0 := hG.cell 0
      have kl1 := hG.cell 1
      have kl2 := hG.cell 2
      have kl3 := hG.cell 3
      have kl4 := hG.cell 4
      have kl5 := hG.cell 5
      simp only [List.getElem?_toArray, List.getElem?_cons_zero, List.getElem?_cons_succ] at kl0 kl1 kl2 kl3 kl4 kl5
      have HCT := containsK_any _ ks2 29 (fun a => a.st == 1) w3 hO.here.2 (fun _ _ => by simp [go_sem]) (fun a w' => told_any a.st a.tr a.back w')
      rw [ha2] at HCT
      clear ha2 hx hr2 FO3 FO4 FO5 hmz hG hO
      go_wp2_with fail
      refine HCT.mono ?_
      rintro e w4 ⟨rfl, hb4⟩
      have hA4 := aside_trans HA3.out (aside_of_below hb4)
      have HX : Hid (Calls Try.prog 27 #[.agg #[.int .i64 8, .int .i64 0, .int .i64 0, .int .i64 0, .bool false, .int .i64 0, .slice none 0 0], .pointer (some ⟨w.heap.size, 0, none⟩), .pointer (some ⟨w.heap.size + 1, 0, none⟩)] w4 fun e w'' => ovC w4 (w.heap.size + 1) ⟨rs2, nw2, g2, true, ks2, nx2⟩ w'' e) := HCL.out _ _ Ld.backR _ rfl (HB2.out.trans (below_aside hA4 HB2.out.size HSL.out)) (HK2.out.aside hA4 HNE.out) (LdB.below HL3.out hb4) HNX.out
      have HA4 : Hid (Aside (fun x => x = w.heap.size + 1) V2 w4) := hA4
      clear HCT hb4 hA4 HL3 HA3 HNX HCL kl0 kl1 kl2 kl3 kl4 kl5
      go_wp2_with fail
      refine HX.out.mono ?_
      rintro e w5 ⟨rfl, hL5, hA5⟩
      have HL5 : Hid (LdB w5 (w.heap.size + 1) ⟨rs2, nw2, g2, true, ks2, nx2⟩) := hL5
      have HA5 : Hid (Aside (fun x => x = w.heap.size + 1) V2 w5) := aside_trans HA4.out hA5
      clear hL5 hA5 HA4 HX
      go_wp2
      go_roundg (N - (k + 1))
      case measure => omega
      case rel => exact ⟨k + 1, ⟨rs2, nw2, g2, true, ks2, nx2⟩, by omega, by omega, by go_num, HRn, HL5, HA5⟩
  case rest =>
  obtain ⟨l, HF, HLf, HAf⟩ := hcut
  obtain ⟨rs1, nw1, g1, bk1, ks1, nx1⟩ := l
  obtain ⟨hc, hg, ho, hn, hgg⟩ := HF.out
  simp only at hg hn hgg
  subst hn hgg
  have hx := Ld.end_next hc hg ho
  simp only at hx
  have HX : Hid (Calls Try.prog 27 #[.agg #[.int .i64 9, .int .i64 0, .int .i64 0, .int .i64 0, .bool false, .int .i64 0, .slice none 0 0], .pointer (some ⟨w.heap.size, 0, none⟩), .pointer (some ⟨w.heap.size + 1, 0, none⟩)] wc fun e w'' => ovC wc (w.heap.size + 1) _ w'' e) := HCL.out _ _ Ld.endR _ rfl (HB2.out.trans (below_aside HAf.out HB2.out.size HSL.out)) (HK2.out.aside HAf.out HNE.out) HLf.out hx
  obtain ⟨b4, e4, b5, e5, hG, hO⟩ := HLf.out
  have kl0 := hG.cell 0
  have kl1 := hG.cell 1
  have kl2 := hG.cell 2
  have kl3 := hG.cell 3
  have kl4 := hG.cell 4
  have kl5 := hG.cell 5
  simp only [List.getElem?_toArray, List.getElem?_cons_zero, List.getElem?_cons_succ] at kl0 kl1 kl2 kl3 kl4 kl5
  clear hx hc hg ho hG hO HF HLf HTN HOV HCL HRD HL2
  cases bk1
  · go_wp2_with fail
    refine HX.out.mono ?_
    rintro e w3 ⟨rfl, hL3, hA3⟩
    have hA4 := aside_trans HAf.out hA3
    have hW3 := HW2.out.aside hA4 (show ¬ gw = w.heap.size + 1 by omega)
    have HB3 : Hid (Below w.heap.size w w3) := HB2.out.trans (below_aside hA4 HB2.out.size HSL.out)
    obtain ⟨x4, y4, x5, y5, hG3, -⟩ := hL3
    simp only [Bool.false_eq_true, if_false, List.length_map] at hG3
    have jg0 := hG3.cell 0
    have jg1 := hG3.cell 1
    have jg2 := hG3.cell 2
    have jg3 := hG3.cell 3
    have jg4 := hG3.cell 4
    have jg5 := hG3.cell 5
    simp only [List.getElem?_toArray, List.getElem?_cons_zero, List.getElem?_cons_succ] at jg0 jg1 jg2 jg3 jg4 jg5
    have jw0 := hW3.cell 0
    have jw1 := hW3.cell 1
    have jw2 := hW3.cell 2
    have jw3 := hW3.cell 3
    have jw4 := hW3.cell 4
    have jw5 := hW3.cell 5
    simp only [List.getElem?_toArray, List.getElem?_cons_zero, List.getElem?_cons_succ] at jw0 jw1 jw2 jw3 jw4 jw5
    clear hG3 hW3 hA4 hA3 HX HAf
    go_wp2
    go_ret
    exact ⟨rfl, HB3.out⟩
  · go_wp2_with fail
    refine HX.out.mono ?_
    rintro e w3 ⟨rfl, hL3, hA3⟩
    have hA4 := aside_trans HAf.out hA3
    have hW3 := HW2.out.aside hA4 (show ¬ gw = w.heap.size + 1 by omega)
    have HB3 : Hid (Below w.heap.size w w3) := HB2.out.trans (below_aside hA4 HB2.out.size HSL.out)
    obtain ⟨x4, y4, x5, y5, hG3, -⟩ := hL3
    simp only [if_true, List.length_map] at hG3
    have jg0 := hG3.cell 0
    have jg1 := hG3.cell 1
    have jg2 := hG3.cell 2
    have jg3 := hG3.cell 3
    have jg4 := hG3.cell 4
    have jg5 := hG3.cell 5
    simp only [List.getElem?_toArray, List.getElem?_cons_zero, List.getElem?_cons_succ] at jg0 jg1 jg2 jg3 jg4 jg5
    have jw0 := hW3.cell 0
    have jw1 := hW3.cell 1
    have jw2 := hW3.cell 2
    have jw3 := hW3.cell 3
    have jw4 := hW3.cell 4
    have jw5 := hW3.cell 5
    simp only [List.getElem?_toArray, List.getElem?_cons_zero, List.getElem?_cons_succ] at jw0 jw1 jw2 jw3 jw4 jw5
    clear hG3 hW3 hA4 hA3 HX HAf
    go_wp2
    go_ret
    exact ⟨rfl, HB3.out⟩
end Go.Proofs.Ytcnnejndmafniaa
