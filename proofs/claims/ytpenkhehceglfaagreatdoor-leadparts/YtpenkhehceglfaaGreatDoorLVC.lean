/- The contracts of lead.send and lead.tellOrHear. -/
import Derived.Test.YtpenkhehceglfaaGreatDoorMN
namespace Go.Proofs.YtpenkhehceglfaaGreatDoor
open Go.RowKit
def sendL (cf : Ld.Config) (l : Ld.Leader) (k : Nat) (t : Int) : Ld.Leader × Int :=
  if l.goal ≠ 0 ∧ t = l.next ∧ Ld.isTurn cf l k = true then ({ l with ags := l.ags.set k ⟨1, l.next, l.back⟩, next := l.next + 1 }, 0) else (Ld.Leader.none, 7)
set_option maxHeartbeats 16000000 in
set_option maxRecDepth 100000 in
theorem send_any (cf : Ld.Config) (A B D : Value) (w0 : World) (b : Nat) (l : Ld.Leader) (k : Nat) (rk rt rn ri : Int) (rg : Bool) (az : Option Addr) (nz cz : Nat) (w : World) (hC : CfAt w0 cf A B D) (hb0 : Below w0.heap.size w0 w) (h : LdW w w0.heap.size b l) (hk : k < l.ags.length) (hc : Ld.chkLeader cf l = 0) :
    Calls Tryz.prog 98 #[cfV cf A B D, .pointer (some ⟨b, 0, none⟩), .agg #[.int .i64 rk, .int .i64 k, .int .i64 rt, .int .i64 rn, .bool rg, .int .i64 ri, .slice az nz cz]] w fun e w' => leD w' w0.heap.size b (sendL cf l k rt) e ∧ Below w0.heap.size w w' := by
  have hnx := ((Ld.lead_iff cf l).1 hc).2.2.2.2.2.1
  obtain ⟨f, L, R, W, d⟩ := cf
  obtain ⟨a1, c1, rfl⟩ := pins_slice hC.1
  obtain ⟨a2, c2, rfl⟩ := rules_slice hC.2.1
  obtain ⟨a3, c3, rfl⟩ := waves_slice hC.2.2
  have HE : Hid (sendL ⟨f, L, R, W, d⟩ l k rt = if l.goal ≠ 0 ∧ rt = l.next ∧ Ld.isTurn ⟨f, L, R, W, d⟩ l k = true then ({ l with ags := l.ags.set k ⟨1, l.next, l.back⟩, next := l.next + 1 }, 0) else (Ld.Leader.none, 7)) := rfl
  obtain ⟨hB0, hK0, hK1⟩ := box2 w #[.int .i64 f, .slice a1 L.length c1, .slice a2 R.length c2, .slice a3 W.length c3, .int .i64 d] #[.int .i64 rk, .int .i64 k, .int .i64 rt, .int .i64 rn, .bool rg, .int .i64 ri, .slice az nz cz] 45 34
  have hV := h.below hB0
  have HW : Hid (LdW ((w.alloc (.cells #[.int .i64 f, .slice a1 L.length c1, .slice a2 R.length c2, .slice a3 W.length c3, .int .i64 d] 45)).alloc (.cells #[.int .i64 rk, .int .i64 k, .int .i64 rt, .int .i64 rn, .bool rg, .int .i64 ri, .slice az nz cz] 34)) w0.heap.size b l) := hV
  obtain ⟨g4, k4, g5, k5, hblk, hld⟩ := hV.ld
  have HT : Hid (∀ w', Below ((w.alloc (.cells #[.int .i64 f, .slice a1 L.length c1, .slice a2 R.length c2, .slice a3 W.length c3, .int .i64 d] 45)).alloc (.cells #[.int .i64 rk, .int .i64 k, .int .i64 rt, .int .i64 rn, .bool rg, .int .i64 ri, .slice az nz cz] 34)).heap.size ((w.alloc (.cells #[.int .i64 f, .slice a1 L.length c1, .slice a2 R.length c2, .slice a3 W.length c3, .int .i64 d] 45)).alloc (.cells #[.int .i64 rk, .int .i64 k, .int .i64 rt, .int .i64 rn, .bool rg, .int .i64 ri, .slice az nz cz] 34)) w' → Calls Tryz.prog 64 #[.agg #[.int .i64 f, .slice a1 L.length c1, .slice a2 R.length c2, .slice a3 W.length c3, .int .i64 d], .agg #[.slice (some ⟨g4, 0, none⟩) l.rels.length k4, .int .i64 l.now, .int .i64 l.goal, .bool l.back, .slice (some ⟨g5, 0, none⟩) l.ags.length k5, .int .i64 l.next], .int .i64 k] w' fun e w'' => e = .returned (.bool (Ld.isTurn ⟨f, L, R, W, d⟩ l k)) ∧ Below w'.heap.size w' w'') := fun w' hb => isTurn_any ⟨f, L, R, W, d⟩ _ _ _ l _ _ k w' (hC.below ((hb0.trans (hB0.mono hb0.size)).trans (hb.mono (Nat.le_trans hb0.size hB0.size)))) (hld.below hb) hk hc
  have HBV : Hid (Below w0.heap.size w ((w.alloc (.cells #[.int .i64 f, .slice a1 L.length c1, .slice a2 R.length c2, .slice a3 W.length c3, .int .i64 d] 45)).alloc (.cells #[.int .i64 rk, .int .i64 k, .int .i64 rt, .int .i64 rn, .bool rg, .int .i64 ri, .slice az nz cz] 34))) := hB0.mono hb0.size
  have hsz0 : w0.heap.size ≤ w.heap.size := hb0.size
  clear h hV hld hC hc hB0 hb0
  unfold cfV cfC
  simp only
  generalize sendL ⟨f, L, R, W, d⟩ l k rt = Q at HE ⊢
  generalize Ld.isTurn ⟨f, L, R, W, d⟩ l k = TT at HE HT
  generalize L.length = n1 at *
  generalize R.length = n2 at *
  generalize W.length = n3 at *
  obtain ⟨rs, nw, g, bk, ks, nx⟩ := l
  simp only at HE HT hblk hnx hk
  have hkn : (k : Int) < ks.length := by omega
  by_cases e1 : g = 0
  · have HQ : Hid (Q = (Ld.Leader.none, 7)) := by rw [HE.out, if_neg (fun e => e.1 e1)]; rfl
    subst e1
    clear HE HT
    go_enter Tryz.func98, Tryz.ntmps98
    go_wp2_with fail
    generalize ((w.alloc (.cells #[.int .i64 f, .slice a1 n1 c1, .slice a2 n2 c2, .slice a3 n3 c3, .int .i64 d] 45)).alloc (.cells #[.int .i64 rk, .int .i64 k, .int .i64 rt, .int .i64 rn, .bool rg, .int .i64 ri, .slice az nz cz] 34)) = V at HBV HW hK0 hK1 hblk ⊢
    have kc0 := cell_regrown (show _ = some _ from hK0.cell 0)
    have kc1 := cell_regrown (show _ = some _ from hK0.cell 1)
    have kc2 := cell_regrown (show _ = some _ from hK0.cell 2)
    have kc3 := cell_regrown (show _ = some _ from hK0.cell 3)
    have kc4 := cell_regrown (show _ = some _ from hK0.cell 4)
    have kr0 := cell_regrown (show _ = some _ from hK1.cell 0)
    have kr1 := cell_regrown (show _ = some _ from hK1.cell 1)
    have kr2 := cell_regrown (show _ = some _ from hK1.cell 2)
    have kr3 := cell_regrown (show _ = some _ from hK1.cell 3)
    have kr4 := cell_regrown (show _ = some _ from hK1.cell 4)
    have kr5 := cell_regrown (show _ = some _ from hK1.cell 5)
    have kr6 := cell_regrown (show _ = some _ from hK1.cell 6)
    have kb0 := cell_regrown (show _ = some _ from hblk.cell 0)
    have kb1 := cell_regrown (show _ = some _ from hblk.cell 1)
    have kb2 := cell_regrown (show _ = some _ from hblk.cell 2)
    have kb3 := cell_regrown (show _ = some _ from hblk.cell 3)
    have kb4 := cell_regrown (show _ = some _ from hblk.cell 4)
    have kb5 := cell_regrown (show _ = some _ from hblk.cell 5)
    clear hK0 hK1 hblk
    refine wp_region_quiet_below (by kernel_rfl) (by kernel_rfl) ?_
    repeat (go_big_quiet_step (first | fail))
    refine wpQuiet_nil ?_
    intro _ hw'
    obtain ⟨⟨dq, osq⟩, hw''⟩ := hw'
    subst hw''
    have hbq := below_regrown V dq osq
    have HBX : Hid (Below V.heap.size V (Sort.grow (redrawn V dq) osq)) := hbq
    clear hbq
    go_wp2
    go_ret
    exact ⟨leD_bad HQ.out (by decide), HBV.out.trans (HBX.out.mono (Nat.le_trans hsz0 HBV.out.size))⟩
  have e1' : (g == 0) = false := by simpa using e1
  by_cases e2 : rt = nx
  rotate_left
  · have HQ : Hid (Q = (Ld.Leader.none, 7)) := by rw [HE.out, if_neg (fun e => e2 e.2.1)]; rfl
    have e2' : (rt != nx) = true := by rw [bne_iff_ne]; exact e2
    clear HE HT e1
    go_enter Tryz.func98, Tryz.ntmps98
    go_wp2_with fail
    generalize ((w.alloc (.cells #[.int .i64 f, .slice a1 n1 c1, .slice a2 n2 c2, .slice a3 n3 c3, .int .i64 d] 45)).alloc (.cells #[.int .i64 rk, .int .i64 k, .int .i64 rt, .int .i64 rn, .bool rg, .int .i64 ri, .slice az nz cz] 34)) = V at HBV HW hK0 hK1 hblk ⊢
    have kc0 := cell_regrown (show _ = some _ from hK0.cell 0)
    have kc1 := cell_regrown (show _ = some _ from hK0.cell 1)
    have kc2 := cell_regrown (show _ = some _ from hK0.cell 2)
    have kc3 := cell_regrown (show _ = some _ from hK0.cell 3)
    have kc4 := cell_regrown (show _ = some _ from hK0.cell 4)
    have kr0 := cell_regrown (show _ = some _ from hK1.cell 0)
    have kr1 := cell_regrown (show _ = some _ from hK1.cell 1)
    have kr2 := cell_regrown (show _ = some _ from hK1.cell 2)
    have kr3 := cell_regrown (show _ = some _ from hK1.cell 3)
    have kr4 := cell_regrown (show _ = some _ from hK1.cell 4)
    have kr5 := cell_regrown (show _ = some _ from hK1.cell 5)
    have kr6 := cell_regrown (show _ = some _ from hK1.cell 6)
    have kb0 := cell_regrown (show _ = some _ from hblk.cell 0)
    have kb1 := cell_regrown (show _ = some _ from hblk.cell 1)
    have kb2 := cell_regrown (show _ = some _ from hblk.cell 2)
    have kb3 := cell_regrown (show _ = some _ from hblk.cell 3)
    have kb4 := cell_regrown (show _ = some _ from hblk.cell 4)
    have kb5 := cell_regrown (show _ = some _ from hblk.cell 5)
    clear hK0 hK1 hblk
    refine wp_region_quiet_below (by kernel_rfl) (by kernel_rfl) ?_
    repeat (go_big_quiet_step (first | fail))
    refine wpQuiet_nil ?_
    intro _ hw'
    obtain ⟨⟨dq, osq⟩, hw''⟩ := hw'
    subst hw''
    have hbq := below_regrown V dq osq
    have HBX : Hid (Below V.heap.size V (Sort.grow (redrawn V dq) osq)) := hbq
    clear hbq
    go_wp2
    go_ret
    exact ⟨leD_bad HQ.out (by decide), HBV.out.trans (HBX.out.mono (Nat.le_trans hsz0 HBV.out.size))⟩
  subst e2
  cases TT
  · have HQ : Hid (Q = (Ld.Leader.none, 7)) := by rw [HE.out, if_neg (fun e => by cases e.2.2)]; rfl
    clear HE e1
    go_enter Tryz.func98, Tryz.ntmps98
    go_wp2_with fail
    generalize ((w.alloc (.cells #[.int .i64 f, .slice a1 n1 c1, .slice a2 n2 c2, .slice a3 n3 c3, .int .i64 d] 45)).alloc (.cells #[.int .i64 rk, .int .i64 k, .int .i64 rt, .int .i64 rn, .bool rg, .int .i64 ri, .slice az nz cz] 34)) = V at HBV HW hK0 hK1 hblk HT ⊢
    have kc0 := cell_regrown (show _ = some _ from hK0.cell 0)
    have kc1 := cell_regrown (show _ = some _ from hK0.cell 1)
    have kc2 := cell_regrown (show _ = some _ from hK0.cell 2)
    have kc3 := cell_regrown (show _ = some _ from hK0.cell 3)
    have kc4 := cell_regrown (show _ = some _ from hK0.cell 4)
    have kr0 := cell_regrown (show _ = some _ from hK1.cell 0)
    have kr1 := cell_regrown (show _ = some _ from hK1.cell 1)
    have kr2 := cell_regrown (show _ = some _ from hK1.cell 2)
    have kr3 := cell_regrown (show _ = some _ from hK1.cell 3)
    have kr4 := cell_regrown (show _ = some _ from hK1.cell 4)
    have kr5 := cell_regrown (show _ = some _ from hK1.cell 5)
    have kr6 := cell_regrown (show _ = some _ from hK1.cell 6)
    have kb0 := cell_regrown (show _ = some _ from hblk.cell 0)
    have kb1 := cell_regrown (show _ = some _ from hblk.cell 1)
    have kb2 := cell_regrown (show _ = some _ from hblk.cell 2)
    have kb3 := cell_regrown (show _ = some _ from hblk.cell 3)
    have kb4 := cell_regrown (show _ = some _ from hblk.cell 4)
    have kb5 := cell_regrown (show _ = some _ from hblk.cell 5)
    have c1q := fun (d' : Nat) (os : Array Obj) => Calls.regrown_of (HT.out (Sort.grow (redrawn V d') os) (below_regrown V d' os))
    clear hK0 hK1 hblk
    refine wp_region_quiet_below (by kernel_rfl) (by kernel_rfl) ?_
    repeat (go_big_quiet_step (first | exact c1q _ _))
    refine wpQuiet_nil ?_
    intro _ hw'
    obtain ⟨⟨dq, osq⟩, hw''⟩ := hw'
    subst hw''
    have hbq := below_regrown V dq osq
    have HBX : Hid (Below V.heap.size V (Sort.grow (redrawn V dq) osq)) := hbq
    clear hbq
    go_wp2
    go_ret
    exact ⟨leD_bad HQ.out (by decide), HBV.out.trans (HBX.out.mono (Nat.le_trans hsz0 HBV.out.size))⟩
  have HQ : Hid (Q = (⟨rs, nw, g, bk, ks.set k ⟨1, rt, bk⟩, rt + 1⟩, 0)) := by rw [HE.out, if_pos ⟨e1, rfl, rfl⟩]; rfl
  clear HE e1
  go_enter Tryz.func98, Tryz.ntmps98
  go_wp2_with fail
  generalize ((w.alloc (.cells #[.int .i64 f, .slice a1 n1 c1, .slice a2 n2 c2, .slice a3 n3 c3, .int .i64 d] 45)).alloc (.cells #[.int .i64 rk, .int .i64 k, .int .i64 rt, .int .i64 rn, .bool rg, .int .i64 ri, .slice az nz cz] 34)) = V at HBV HW hK0 hK1 hblk HT ⊢
  have kc0 := cell_regrown (show _ = some _ from hK0.cell 0)
  have kc1 := cell_regrown (show _ = some _ from hK0.cell 1)
  have kc2 := cell_regrown (show _ = some _ from hK0.cell 2)
  have kc3 := cell_regrown (show _ = some _ from hK0.cell 3)
  have kc4 := cell_regrown (show _ = some _ from hK0.cell 4)
  have kr0 := cell_regrown (show _ = some _ from hK1.cell 0)
  have kr1 := cell_regrown (show _ = some _ from hK1.cell 1)
  have kr2 := cell_regrown (show _ = some _ from hK1.cell 2)
  have kr3 := cell_regrown (show _ = some _ from hK1.cell 3)
  have kr4 := cell_regrown (show _ = some _ from hK1.cell 4)
  have kr5 := cell_regrown (show _ = some _ from hK1.cell 5)
  have kr6 := cell_regrown (show _ = some _ from hK1.cell 6)
  have kb0 := cell_regrown (show _ = some _ from hblk.cell 0)
  have kb1 := cell_regrown (show _ = some _ from hblk.cell 1)
  have kb2 := cell_regrown (show _ = some _ from hblk.cell 2)
  have kb3 := cell_regrown (show _ = some _ from hblk.cell 3)
  have kb4 := cell_regrown (show _ = some _ from hblk.cell 4)
  have kb5 := cell_regrown (show _ = some _ from hblk.cell 5)
  have c1q := fun (d' : Nat) (os : Array Obj) => Calls.regrown_of (HT.out (Sort.grow (redrawn V d') os) (below_regrown V d' os))
  clear hK0 hK1 hblk
  refine wp_region_quiet_below (by kernel_rfl) (by kernel_rfl) ?_
  repeat (go_big_quiet_step (first | exact c1q _ _))
  refine wpQuiet_nil ?_
  intro _ hw'
  obtain ⟨⟨dq, osq⟩, hw''⟩ := hw'
  subst hw''
  have hbq := below_regrown V dq osq
  have HBX : Hid (Below V.heap.size V (Sort.grow (redrawn V dq) osq)) := hbq
  clear hbq
  have HWX : Hid (LdW (Sort.grow (redrawn V dq) osq) w0.heap.size b ⟨rs, nw, g, bk, ks, rt⟩) := HW.out.below HBX.out
  have xr := fun i => kr1 i
  generalize hXX : Sort.grow (redrawn V dq) osq = X at HBX HWX ⊢
  have ya1 := kr1 dq osq
  have ya2 := kr2 dq osq
  have yb0 := kb0 dq osq
  have yb3 := kb3 dq osq
  have yb4 := kb4 dq osq
  have yb5 := kb5 dq osq
  rw [hXX] at ya1 ya2 yb0 yb3 yb4 yb5
  clear kc0 kc1 kc2 kc3 kc4 kr0 kr1 kr2 kr3 kr4 kr5 kr6 kb0 kb1 kb2 kb3 kb4 kb5 xr c1q HT hXX
  obtain ⟨h2, h3, h4, h5, h6, h7, h8, h9, -⟩ := HWX.out.agentAt (k := k) hk yb4
  have hf0 := h8 (k * 3)
  have hf1 := h8 (k * 3 + 1)
  have hf2 := h8 (k * 3 + 2)
  have HF : Hid (LdW ((((X.setCell ⟨g5, k * 3, none⟩ (.int .i64 1)).setCell ⟨g5, k * 3 + 1, none⟩ (.int .i64 rt)).setCell ⟨g5, k * 3 + 2, none⟩ (.bool bk)).setCell ⟨b, 5, none⟩ (.int .i64 (rt + 1))) w0.heap.size b ⟨rs, nw, g, bk, ks.set k ⟨1, rt, bk⟩, rt + 1⟩) := (h9 ⟨1, rt, bk⟩).field rfl rfl (fun _ _ => rfl)
  have hbf5 : X.frozen? ⟨b, 5, none⟩ = false := by
    obtain ⟨_, _, _, _, hbx, _⟩ := HWX.out.ld
    exact hbx.free 5
  have HBF : Hid (Below w0.heap.size w ((((X.setCell ⟨g5, k * 3, none⟩ (.int .i64 1)).setCell ⟨g5, k * 3 + 1, none⟩ (.int .i64 rt)).setCell ⟨g5, k * 3 + 2, none⟩ (.bool bk)).setCell ⟨b, 5, none⟩ (.int .i64 (rt + 1)))) := ((((HBV.out.trans (HBX.out.mono (Nat.le_trans hsz0 HBV.out.size))).setCell h3 _).setCell h3 _).setCell h3 _).setCell h2 _
  have h4' : ¬ b = g5 := h4
  have h4'' : ¬ g5 = b := fun e => h4 e.symm
  generalize ks.getD k ⟨0, 0, false⟩ = pp at h5 h6 h7
  clear h8 h9 h2 h3 HBV HBX HWX HW
  go_wp2_with fail
  go_region
  all_goals
    go_wp2
    go_ret
    refine ⟨by rw [HQ.out]; refine ⟨rfl, fun _ => ?_⟩; first | exact HF.out | exact HF.out.below ((Below.refl _ _).drew), ?_⟩
    first | exact HBF.out | exact HBF.out.drew
end Go.Proofs.YtpenkhehceglfaaGreatDoor
