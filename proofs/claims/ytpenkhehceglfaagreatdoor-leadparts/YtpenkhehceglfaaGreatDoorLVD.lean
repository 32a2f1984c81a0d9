/- The contracts of lead.tellOrHear and lead.end. -/
import Derived.Test.YtpenkhehceglfaaGreatDoorLVC
namespace Go.Proofs.YtpenkhehceglfaaGreatDoor
open Go.RowKit
def tellL (cf : Ld.Config) (l : Ld.Leader) (rk ra rt : Int) (rg : Bool) : Ld.Leader × Int :=
  if ra < l.ags.length then (if rk = 6 then sendL cf l ra.toNat rt else gotL l ra.toNat rt rg) else (Ld.Leader.none, 5)
set_option maxHeartbeats 16000000 in
set_option maxRecDepth 100000 in
theorem tell_any (cf : Ld.Config) (A B D : Value) (w0 : World) (b : Nat) (l : Ld.Leader) (rk ra rt rn ri : Int) (rg : Bool) (az : Option Addr) (nz cz : Nat) (w : World) (hC : CfAt w0 cf A B D) (hb0 : Below w0.heap.size w0 w) (h : LdW w w0.heap.size b l) (hra : 0 ≤ ra) (hc : Ld.chkLeader cf l = 0) :
    Calls Tryz.prog 74 #[cfV cf A B D, .pointer (some ⟨b, 0, none⟩), .agg #[.int .i64 rk, .int .i64 ra, .int .i64 rt, .int .i64 rn, .bool rg, .int .i64 ri, .slice az nz cz]] w fun e w' => leD w' w0.heap.size b (tellL cf l rk ra rt rg) e ∧ Below w0.heap.size w w' := by
  have HE : Hid (tellL cf l rk ra rt rg = if ra < l.ags.length then (if rk = 6 then sendL cf l ra.toNat rt else gotL l ra.toNat rt rg) else (Ld.Leader.none, 5)) := rfl
  have HSN : Hid (∀ (k : Nat) (w' : World), k < l.ags.length → Below w.heap.size w w' → Calls Tryz.prog 98 #[cfV cf A B D, .pointer (some ⟨b, 0, none⟩), .agg #[.int .i64 rk, .int .i64 k, .int .i64 rt, .int .i64 rn, .bool rg, .int .i64 ri, .slice az nz cz]] w' fun e w'' => leD w'' w0.heap.size b (sendL cf l k rt) e ∧ Below w0.heap.size w' w'') := fun k w' hk hb => send_any cf A B D w0 b l k rk rt rn ri rg az nz cz w' hC (hb0.trans (hb.mono hb0.size)) (h.below hb) hk hc
  have HGT : Hid (∀ (k g5 n k5 : Nat) (w' : World), k < l.ags.length → Below w.heap.size w w' → w'.cell? ⟨b, 4, none⟩ = some (.slice (some ⟨g5, 0, none⟩) n k5) → Calls Tryz.prog 99 #[.pointer (some ⟨g5, k * 3, none⟩), .agg #[.int .i64 rk, .int .i64 k, .int .i64 rt, .int .i64 rn, .bool rg, .int .i64 ri, .slice az nz cz]] w' fun e w'' => leD w'' w0.heap.size b (gotL l k rt rg) e ∧ Below w0.heap.size w' w'') := fun k g5 n k5 w' hk hb hB => got_any w0.heap.size b l k g5 n k5 rk k rt rn ri rg az nz cz w' (h.below hb) hk hB (Nat.le_trans hb0.size hb.size)
  have hlen := (Ld.lead_few hc).2.1
  obtain ⟨f, L, R, W, d⟩ := cf
  obtain ⟨a1, c1, rfl⟩ := pins_slice hC.1
  obtain ⟨a2, c2, rfl⟩ := rules_slice hC.2.1
  obtain ⟨a3, c3, rfl⟩ := waves_slice hC.2.2
  obtain ⟨hB0, hK0, hK1⟩ := box2 w #[.int .i64 f, .slice a1 L.length c1, .slice a2 R.length c2, .slice a3 W.length c3, .int .i64 d] #[.int .i64 rk, .int .i64 ra, .int .i64 rt, .int .i64 rn, .bool rg, .int .i64 ri, .slice az nz cz] 45 34
  obtain ⟨g4, k4, g5, k5, hblk, -⟩ := (h.below hB0).ld
  have hsz0 : w0.heap.size ≤ w.heap.size := hb0.size
  clear h hC hc hb0
  unfold cfV cfC at HSN
  unfold cfV cfC
  simp only at HSN
  simp only
  generalize tellL ⟨f, L, R, W, d⟩ l rk ra rt rg = Q at HE ⊢
  generalize sendL ⟨f, L, R, W, d⟩ l = SL at HE HSN
  generalize L.length = n1 at *
  generalize R.length = n2 at *
  generalize W.length = n3 at *
  obtain ⟨rs, nw, g, bk, ks, nx⟩ := l
  simp only at HE HSN HGT hblk hlen
  have HHA : Hid (∀ w', Calls Tryz.prog 63 #[.agg #[.slice (some ⟨g4, 0, none⟩) rs.length k4, .int .i64 nw, .int .i64 g, .bool bk, .slice (some ⟨g5, 0, none⟩) ks.length k5, .int .i64 nx], .int .i64 ra] w' fun e w'' => e = .returned (.bool (decide (0 ≤ ra ∧ ra < (ks.length : Int)))) ∧ Below w'.heap.size w' w'') := fun w' => hasAgent_any nw g nx ra bk _ _ _ _ _ _ w' (by omega)
  by_cases e1 : ra < ks.length
  rotate_left
  · have HQ : Hid (Q = (Ld.Leader.none, 5)) := by rw [HE.out, if_neg e1]; rfl
    have hd : decide (0 ≤ ra ∧ ra < (ks.length : Int)) = false := decide_eq_false (fun e => e1 e.2)
    rw [hd] at HHA
    clear HE HSN HGT hd
    go_enter Tryz.func74, Tryz.ntmps74
    go_wp2_with fail
    generalize ((w.alloc (.cells #[.int .i64 f, .slice a1 n1 c1, .slice a2 n2 c2, .slice a3 n3 c3, .int .i64 d] 45)).alloc (.cells #[.int .i64 rk, .int .i64 ra, .int .i64 rt, .int .i64 rn, .bool rg, .int .i64 ri, .slice az nz cz] 34)) = V at hB0 hK0 hK1 hblk ⊢
    have kc0 := cell_regrown (show _ = some _ from hK0.cell 0)
    have kc1 := cell_regrown (show _ = some _ from hK0.cell 1)
    have kc2 := cell_regrown (show _ = some _ from hK0.cell 2)
    have kc3 := cell_regrown (show _ = some _ from hK0.cell 3)
    have kc4 := cell_regrown (show _ = some _ from hK0.cell 4)
    have kr0 := cell_regrown (show _ = some _ from hK1.cell 0)
    have kr1 := cell_regrown (show _ = some _ from hK1.cell 1)
    have kr2 := cell_regrown (show _ = some _ from hK1.cell 2)
    have kr3 := cell_regrown (show _ = some _ from hK1.cell 3)
    have kr4 := cell_regrown (show _ = some _ from hK1.cell 4)
    have kr5 := cell_regrown (show _ = some _ from hK1.cell 5)
    have kr6 := cell_regrown (show _ = some _ from hK1.cell 6)
    have kb0 := cell_regrown (show _ = some _ from hblk.cell 0)
    have kb1 := cell_regrown (show _ = some _ from hblk.cell 1)
    have kb2 := cell_regrown (show _ = some _ from hblk.cell 2)
    have kb3 := cell_regrown (show _ = some _ from hblk.cell 3)
    have kb4 := cell_regrown (show _ = some _ from hblk.cell 4)
    have kb5 := cell_regrown (show _ = some _ from hblk.cell 5)
    have c1q := fun (d' : Nat) (os : Array Obj) => Calls.regrown_of (HHA.out (Sort.grow (redrawn V d') os))
    have HB0 : Hid (Below w.heap.size w V) := hB0
    clear hK0 hK1 hblk hB0
    refine wp_region_quiet_below (by kernel_rfl) (by kernel_rfl) ?_
    repeat (go_big_quiet_step (first | exact c1q _ _))
    refine wpQuiet_nil ?_
    intro _ hw'
    obtain ⟨⟨dq, osq⟩, hw''⟩ := hw'
    subst hw''
    have hbq := below_regrown V dq osq
    have HBW : Hid (Below w.heap.size w (Sort.grow (redrawn V dq) osq)) := HB0.out.trans (hbq.mono HB0.out.size)
    have HBX : Hid (Below w0.heap.size w (Sort.grow (redrawn V dq) osq)) := HBW.out.mono hsz0
    clear hbq HB0
    go_wp2
    go_ret
    exact ⟨leD_bad HQ.out (by decide), HBX.out⟩
  have hd : decide (0 ≤ ra ∧ ra < (ks.length : Int)) = true := decide_eq_true ⟨hra, e1⟩
  rw [hd] at HHA
  obtain ⟨k, rfl⟩ : ∃ k : Nat, ra = k := ⟨ra.toNat, by omega⟩
  have hk : k < ks.length := by omega
  clear hd hra
  by_cases e2 : rk = 6
  · subst e2
    have HQ : Hid (Q = SL k rt) := by rw [HE.out, if_pos e1, if_pos rfl, Int.toNat_natCast]; rfl
    have HS2 := HSN.out k
    have HSS : Hid (∀ w', k < ks.length → Below w.heap.size w w' → Calls Tryz.prog 98 #[.agg #[.int .i64 f, .slice a1 n1 c1, .slice a2 n2 c2, .slice a3 n3 c3, .int .i64 d], .pointer (some ⟨b, 0, none⟩), .agg #[.int .i64 6, .int .i64 k, .int .i64 rt, .int .i64 rn, .bool rg, .int .i64 ri, .slice az nz cz]] w' fun e w'' => leD w'' w0.heap.size b (SL k rt) e ∧ Below w0.heap.size w' w'') := HS2
    clear HE HSN HGT HS2
    go_enter Tryz.func74, Tryz.ntmps74
    go_wp2_with fail
    generalize ((w.alloc (.cells #[.int .i64 f, .slice a1 n1 c1, .slice a2 n2 c2, .slice a3 n3 c3, .int .i64 d] 45)).alloc (.cells #[.int .i64 6, .int .i64 k, .int .i64 rt, .int .i64 rn, .bool rg, .int .i64 ri, .slice az nz cz] 34)) = V at hB0 hK0 hK1 hblk ⊢
    have kc0 := cell_regrown (show _ = some _ from hK0.cell 0)
    have kc1 := cell_regrown (show _ = some _ from hK0.cell 1)
    have kc2 := cell_regrown (show _ = some _ from hK0.cell 2)
    have kc3 := cell_regrown (show _ = some _ from hK0.cell 3)
    have kc4 := cell_regrown (show _ = some _ from hK0.cell 4)
    have kr0 := cell_regrown (show _ = some _ from hK1.cell 0)
    have kr1 := cell_regrown (show _ = some _ from hK1.cell 1)
    have kr2 := cell_regrown (show _ = some _ from hK1.cell 2)
    have kr3 := cell_regrown (show _ = some _ from hK1.cell 3)
    have kr4 := cell_regrown (show _ = some _ from hK1.cell 4)
    have kr5 := cell_regrown (show _ = some _ from hK1.cell 5)
    have kr6 := cell_regrown (show _ = some _ from hK1.cell 6)
    have kb0 := cell_regrown (show _ = some _ from hblk.cell 0)
    have kb1 := cell_regrown (show _ = some _ from hblk.cell 1)
    have kb2 := cell_regrown (show _ = some _ from hblk.cell 2)
    have kb3 := cell_regrown (show _ = some _ from hblk.cell 3)
    have kb4 := cell_regrown (show _ = some _ from hblk.cell 4)
    have kb5 := cell_regrown (show _ = some _ from hblk.cell 5)
    have c1q := fun (d' : Nat) (os : Array Obj) => Calls.regrown_of (HHA.out (Sort.grow (redrawn V d') os))
    have HB0 : Hid (Below w.heap.size w V) := hB0
    clear hK0 hK1 hblk hB0
    refine wp_region_quiet_below (by kernel_rfl) (by kernel_rfl) ?_
    repeat (go_big_quiet_step (first | exact c1q _ _))
    refine wpQuiet_nil ?_
    intro _ hw'
    obtain ⟨⟨dq, osq⟩, hw''⟩ := hw'
    subst hw''
    have hbq := below_regrown V dq osq
    have HBW : Hid (Below w.heap.size w (Sort.grow (redrawn V dq) osq)) := HB0.out.trans (hbq.mono HB0.out.size)
    have HBX : Hid (Below w0.heap.size w (Sort.grow (redrawn V dq) osq)) := HBW.out.mono hsz0
    clear hbq HB0
    have yc0 := kc0 dq osq
    have yc1 := kc1 dq osq
    have yc2 := kc2 dq osq
    have yc3 := kc3 dq osq
    have yc4 := kc4 dq osq
    have yr0 := kr0 dq osq
    have yr1 := kr1 dq osq
    have yr2 := kr2 dq osq
    have yr3 := kr3 dq osq
    have yr4 := kr4 dq osq
    have yr5 := kr5 dq osq
    have yr6 := kr6 dq osq
    generalize hXX : Sort.grow (redrawn V dq) osq = X at *
    clear kc0 kc1 kc2 kc3 kc4 kr0 kr1 kr2 kr3 kr4 kr5 kr6 kb0 kb1 kb2 kb3 kb4 kb5 c1q hXX HHA
    go_wp2_with fail
    refine (HSS.out _ hk HBW.out).mono ?_
    rintro e w2 ⟨⟨rfl, hq2⟩, hb2⟩
    have HB2 : Hid (Below w0.heap.size w w2) := HBX.out.trans hb2
    have HQ2 : Hid ((SL k rt).2 = 0 → LdW w2 w0.heap.size b (SL k rt).1) := hq2
    clear hb2 hq2 HSS
    go_wp2
    go_ret
    exact ⟨by rw [HQ.out]; exact ⟨rfl, HQ2.out⟩, HB2.out⟩
  · have e2' : (rk == 6) = false := by simpa using e2
    have HQ : Hid (Q = gotL ⟨rs, nw, g, bk, ks, nx⟩ k rt rg) := by rw [HE.out, if_pos e1, if_neg e2, Int.toNat_natCast]; rfl
    have HSS := HGT.out k g5 ks.length k5
    have HGG : Hid (∀ w', k < ks.length → Below w.heap.size w w' → w'.cell? ⟨b, 4, none⟩ = some (.slice (some ⟨g5, 0, none⟩) ks.length k5) → Calls Tryz.prog 99 #[.pointer (some ⟨g5, k * 3, none⟩), .agg #[.int .i64 rk, .int .i64 k, .int .i64 rt, .int .i64 rn, .bool rg, .int .i64 ri, .slice az nz cz]] w' fun e w'' => leD w'' w0.heap.size b (gotL ⟨rs, nw, g, bk, ks, nx⟩ k rt rg) e ∧ Below w0.heap.size w' w'') := HSS
    generalize gotL ⟨rs, nw, g, bk, ks, nx⟩ k rt rg = GL at HQ HGG
    clear HE HSN HGT HSS e2
    go_enter Tryz.func74, Tryz.ntmps74
    go_wp2_with fail
    generalize ((w.alloc (.cells #[.int .i64 f, .slice a1 n1 c1, .slice a2 n2 c2, .slice a3 n3 c3, .int .i64 d] 45)).alloc (.cells #[.int .i64 rk, .int .i64 k, .int .i64 rt, .int .i64 rn, .bool rg, .int .i64 ri, .slice az nz cz] 34)) = V at hB0 hK0 hK1 hblk ⊢
    have kc0 := cell_regrown (show _ = some _ from hK0.cell 0)
    have kc1 := cell_regrown (show _ = some _ from hK0.cell 1)
    have kc2 := cell_regrown (show _ = some _ from hK0.cell 2)
    have kc3 := cell_regrown (show _ = some _ from hK0.cell 3)
    have kc4 := cell_regrown (show _ = some _ from hK0.cell 4)
    have kr0 := cell_regrown (show _ = some _ from hK1.cell 0)
    have kr1 := cell_regrown (show _ = some _ from hK1.cell 1)
    have kr2 := cell_regrown (show _ = some _ from hK1.cell 2)
    have kr3 := cell_regrown (show _ = some _ from hK1.cell 3)
    have kr4 := cell_regrown (show _ = some _ from hK1.cell 4)
    have kr5 := cell_regrown (show _ = some _ from hK1.cell 5)
    have kr6 := cell_regrown (show _ = some _ from hK1.cell 6)
    have kb0 := cell_regrown (show _ = some _ from hblk.cell 0)
    have kb1 := cell_regrown (show _ = some _ from hblk.cell 1)
    have kb2 := cell_regrown (show _ = some _ from hblk.cell 2)
    have kb3 := cell_regrown (show _ = some _ from hblk.cell 3)
    have kb4 := cell_regrown (show _ = some _ from hblk.cell 4)
    have kb5 := cell_regrown (show _ = some _ from hblk.cell 5)
    have c1q := fun (d' : Nat) (os : Array Obj) => Calls.regrown_of (HHA.out (Sort.grow (redrawn V d') os))
    have HB0 : Hid (Below w.heap.size w V) := hB0
    clear hK0 hK1 hblk hB0
    refine wp_region_quiet_below (by kernel_rfl) (by kernel_rfl) ?_
    repeat (go_big_quiet_step (first | exact c1q _ _))
    refine wpQuiet_nil ?_
    intro _ hw'
    obtain ⟨⟨dq, osq⟩, hw''⟩ := hw'
    subst hw''
    have hbq := below_regrown V dq osq
    have HBW : Hid (Below w.heap.size w (Sort.grow (redrawn V dq) osq)) := HB0.out.trans (hbq.mono HB0.out.size)
    have HBX : Hid (Below w0.heap.size w (Sort.grow (redrawn V dq) osq)) := HBW.out.mono hsz0
    clear hbq HB0
    have yr0 := kr0 dq osq
    have yr1 := kr1 dq osq
    have yr2 := kr2 dq osq
    have yr3 := kr3 dq osq
    have yr4 := kr4 dq osq
    have yr5 := kr5 dq osq
    have yr6 := kr6 dq osq
    have yb4 := kb4 dq osq
    generalize hXX : Sort.grow (redrawn V dq) osq = X at *
    have HGX : Hid (Calls Tryz.prog 99 #[.pointer (some ⟨g5, k * 3, none⟩), .agg #[.int .i64 rk, .int .i64 k, .int .i64 rt, .int .i64 rn, .bool rg, .int .i64 ri, .slice az nz cz]] X.drew fun e w'' => leD w'' w0.heap.size b GL e ∧ Below w0.heap.size X.drew w'') := HGG.out X.drew hk HBW.out.drew (by exact yb4)
    clear kc0 kc1 kc2 kc3 kc4 kr0 kr1 kr2 kr3 kr4 kr5 kr6 kb0 kb1 kb2 kb3 kb4 kb5 c1q hXX HHA HGG
    go_wp2_with fail
    go_region_with (go_at_call 99; refine HGX.out.mono ?_; rintro e w2 ⟨⟨rfl, hq2⟩, hb2⟩; have HB2 : Hid (Below w0.heap.size w w2) := HBX.out.drew.trans hb2; have HQ2 : Hid (GL.2 = 0 → LdW w2 w0.heap.size b GL.1) := hq2; clear hb2 hq2)
    all_goals
      go_wp2
      go_ret
      exact ⟨by rw [HQ.out]; exact ⟨rfl, HQ2.out⟩, HB2.out⟩
def endZ (a : Ld.Known) : Ld.Known := ⟨0, a.tr, false⟩
def endL (cf : Ld.Config) (l : Ld.Leader) : Ld.Leader × Int :=
  if l.goal = 0 ∨ Ld.isOver cf l = false then (Ld.Leader.none, 7) else (⟨l.rels, if l.back = true then l.now else l.goal, 0, false, l.ags.map endZ, l.next⟩, 0)
theorem end_step {ks : List Ld.Known} {k : Nat} (h : k < ks.length) : ((ks.take k).map endZ ++ ks.drop k).set k ⟨0, (ks.getD k ⟨0, 0, false⟩).tr, false⟩ = (ks.take (k + 1)).map endZ ++ ks.drop (k + 1) := by
  have hl : ((ks.take k).map endZ).length = k := by simp; omega
  rw [List.set_append_right _ _ (by omega), hl, Nat.sub_self, List.drop_eq_getElem_cons h, List.set_cons_zero, List.take_succ_eq_append_getElem h, List.map_append, List.append_assoc]
  simp [List.getD_eq_getElem?_getD, List.getElem?_eq_getElem h, endZ]
theorem end_at {ks : List Ld.Known} {k : Nat} (h : k < ks.length) : ((ks.take k).map endZ ++ ks.drop k).getD k ⟨0, 0, false⟩ = ks.getD k ⟨0, 0, false⟩ := by
  rw [List.getD_eq_getElem?_getD, List.getElem?_append_right (by simp; omega)]
  simp [Nat.min_eq_left (Nat.le_of_lt h), List.getD_eq_getElem?_getD]
set_option maxHeartbeats 16000000 in
set_option maxRecDepth 100000 in
theorem end_any (cf : Ld.Config) (A B D : Value) (w0 : World) (b : Nat) (l : Ld.Leader) (w : World) (hC : CfAt w0 cf A B D) (hb0 : Below w0.heap.size w0 w) (h : LdW w w0.heap.size b l) (hc : Ld.chkLeader cf l = 0) :
    Calls Tryz.prog 76 #[cfV cf A B D, .pointer (some ⟨b, 0, none⟩)] w fun e w' => leD w' w0.heap.size b (endL cf l) e ∧ Below w0.heap.size w w' := by
  have HE : Hid (endL cf l = if l.goal = 0 ∨ Ld.isOver cf l = false then (Ld.Leader.none, 7) else (⟨l.rels, if l.back = true then l.now else l.goal, 0, false, l.ags.map endZ, l.next⟩, 0)) := rfl
  have hlen := (Ld.lead_few hc).2.1
  obtain ⟨f, L, R, W, d⟩ := cf
  obtain ⟨a1, c1, rfl⟩ := pins_slice hC.1
  obtain ⟨a2, c2, rfl⟩ := rules_slice hC.2.1
  obtain ⟨a3, c3, rfl⟩ := waves_slice hC.2.2
  obtain ⟨hB0, hK0⟩ := box1 w #[.int .i64 f, .slice a1 L.length c1, .slice a2 R.length c2, .slice a3 W.length c3, .int .i64 d] 45
  have hV := h.below hB0
  obtain ⟨g4, k4, g5, k5, hblk, hld⟩ := hV.ld
  have HO : Hid (∀ w', Below (w.alloc (.cells #[.int .i64 f, .slice a1 L.length c1, .slice a2 R.length c2, .slice a3 W.length c3, .int .i64 d] 45)).heap.size (w.alloc (.cells #[.int .i64 f, .slice a1 L.length c1, .slice a2 R.length c2, .slice a3 W.length c3, .int .i64 d] 45)) w' → Calls Tryz.prog 65 #[.agg #[.int .i64 f, .slice a1 L.length c1, .slice a2 R.length c2, .slice a3 W.length c3, .int .i64 d], .agg #[.slice (some ⟨g4, 0, none⟩) l.rels.length k4, .int .i64 l.now, .int .i64 l.goal, .bool l.back, .slice (some ⟨g5, 0, none⟩) l.ags.length k5, .int .i64 l.next]] w' fun e w'' => e = .returned (.bool (Ld.isOver ⟨f, L, R, W, d⟩ l)) ∧ Below w'.heap.size w' w'') := fun w' hb => isOver_any ⟨f, L, R, W, d⟩ _ _ _ l _ _ w' (hC.below ((hb0.trans (hB0.mono hb0.size)).trans (hb.mono (Nat.le_trans hb0.size hB0.size)))) (hld.below hb) hc
  have HW : Hid (LdW (w.alloc (.cells #[.int .i64 f, .slice a1 L.length c1, .slice a2 R.length c2, .slice a3 W.length c3, .int .i64 d] 45)) w0.heap.size b l) := hV
  have HBV : Hid (Below w0.heap.size w (w.alloc (.cells #[.int .i64 f, .slice a1 L.length c1, .slice a2 R.length c2, .slice a3 W.length c3, .int .i64 d] 45))) := hB0.mono hb0.size
  have hsz0 : w0.heap.size ≤ w.heap.size := hb0.size
  clear h hV hld hC hc hB0 hb0
  unfold cfV cfC
  simp only
  generalize endL ⟨f, L, R, W, d⟩ l = Q at HE ⊢
  generalize Ld.isOver ⟨f, L, R, W, d⟩ l = OV at HE HO
  generalize L.length = n1 at *
  generalize R.length = n2 at *
  generalize W.length = n3 at *
  obtain ⟨rs, nw, g, bk, ks, nx⟩ := l
  simp only at HE HO hblk hlen
  by_cases e1 : g = 0
  · have HQ : Hid (Q = (Ld.Leader.none, 7)) := by rw [HE.out, if_pos (.inl e1)]; rfl
    subst e1
    clear HE HO
    go_enter Tryz.func76, Tryz.ntmps76
    go_wp2_with fail
    generalize (w.alloc (.cells #[.int .i64 f, .slice a1 n1 c1, .slice a2 n2 c2, .slice a3 n3 c3, .int .i64 d] 45)) = V at HBV HW hK0 hblk ⊢
    have kc0 := cell_regrown (show _ = some _ from hK0.cell 0)
    have kc1 := cell_regrown (show _ = some _ from hK0.cell 1)
    have kc2 := cell_regrown (show _ = some _ from hK0.cell 2)
    have kc3 := cell_regrown (show _ = some _ from hK0.cell 3)
    have kc4 := cell_regrown (show _ = some _ from hK0.cell 4)
    have kb0 := cell_regrown (show _ = some _ from hblk.cell 0)
    have kb1 := cell_regrown (show _ = some _ from hblk.cell 1)
    have kb2 := cell_regrown (show _ = some _ from hblk.cell 2)
    have kb3 := cell_regrown (show _ = some _ from hblk.cell 3)
    have kb4 := cell_regrown (show _ = some _ from hblk.cell 4)
    have kb5 := cell_regrown (show _ = some _ from hblk.cell 5)
    clear hK0 hblk
    refine wp_region_quiet_below (by kernel_rfl) (by kernel_rfl) ?_
    repeat (go_big_quiet_step (first | fail))
    refine wpQuiet_nil ?_
    intro _ hw'
    obtain ⟨⟨dq, osq⟩, hw''⟩ := hw'
    subst hw''
    have hbq := below_regrown V dq osq
    have HBVX : Hid (Below V.heap.size V (Sort.grow (redrawn V dq) osq)) := hbq
    have HBX : Hid (Below w0.heap.size w (Sort.grow (redrawn V dq) osq)) := HBV.out.trans (hbq.mono (Nat.le_trans hsz0 HBV.out.size))
    clear hbq
    go_wp2
    go_ret
    exact ⟨leD_bad HQ.out (by decide), HBX.out⟩
  have e1' : (g == 0) = false := by simpa using e1
  cases OV
  · have HQ : Hid (Q = (Ld.Leader.none, 7)) := by rw [HE.out, if_pos (.inr rfl)]; rfl
    clear HE e1
    go_enter Tryz.func76, Tryz.ntmps76
    go_wp2_with fail
    generalize (w.alloc (.cells #[.int .i64 f, .slice a1 n1 c1, .slice a2 n2 c2, .slice a3 n3 c3, .int .i64 d] 45)) = V at HBV HW hK0 hblk HO ⊢
    have kc0 := cell_regrown (show _ = some _ from hK0.cell 0)
    have kc1 := cell_regrown (show _ = some _ from hK0.cell 1)
    have kc2 := cell_regrown (show _ = some _ from hK0.cell 2)
    have kc3 := cell_regrown (show _ = some _ from hK0.cell 3)
    have kc4 := cell_regrown (show _ = some _ from hK0.cell 4)
    have kb0 := cell_regrown (show _ = some _ from hblk.cell 0)
    have kb1 := cell_regrown (show _ = some _ from hblk.cell 1)
    have kb2 := cell_regrown (show _ = some _ from hblk.cell 2)
    have kb3 := cell_regrown (show _ = some _ from hblk.cell 3)
    have kb4 := cell_regrown (show _ = some _ from hblk.cell 4)
    have kb5 := cell_regrown (show _ = some _ from hblk.cell 5)
    have c1q := fun (d' : Nat) (os : Array Obj) => Calls.regrown_of (HO.out (Sort.grow (redrawn V d') os) (below_regrown V d' os))
    clear hK0 hblk
    refine wp_region_quiet_below (by kernel_rfl) (by kernel_rfl) ?_
    repeat (go_big_quiet_step (first | exact c1q _ _))
    refine wpQuiet_nil ?_
    intro _ hw'
    obtain ⟨⟨dq, osq⟩, hw''⟩ := hw'
    subst hw''
    have hbq := below_regrown V dq osq
    have HBVX : Hid (Below V.heap.size V (Sort.grow (redrawn V dq) osq)) := hbq
    have HBX : Hid (Below w0.heap.size w (Sort.grow (redrawn V dq) osq)) := HBV.out.trans (hbq.mono (Nat.le_trans hsz0 HBV.out.size))
    clear hbq
    go_wp2
    go_ret
    exact ⟨leD_bad HQ.out (by decide), HBX.out⟩
  have HQ : Hid (Q = (⟨rs, if bk = true then nw else g, 0, false, ks.map endZ, nx⟩, 0)) := by rw [HE.out, if_neg (fun e => by rcases e with e | e; exact e1 e; cases e)]; rfl
  clear HE e1
  go_enter Tryz.func76, Tryz.ntmps76
  go_wp2_with fail
  generalize (w.alloc (.cells #[.int .i64 f, .slice a1 n1 c1, .slice a2 n2 c2, .slice a3 n3 c3, .int .i64 d] 45)) = V at HBV HW hK0 hblk HO ⊢
  have kc0 := cell_regrown (show _ = some _ from hK0.cell 0)
  have kc1 := cell_regrown (show _ = some _ from hK0.cell 1)
  have kc2 := cell_regrown (show _ = some _ from hK0.cell 2)
  have kc3 := cell_regrown (show _ = some _ from hK0.cell 3)
  have kc4 := cell_regrown (show _ = some _ from hK0.cell 4)
  have kb0 := cell_regrown (show _ = some _ from hblk.cell 0)
  have kb1 := cell_regrown (show _ = some _ from hblk.cell 1)
  have kb2 := cell_regrown (show _ = some _ from hblk.cell 2)
  have kb3 := cell_regrown (show _ = some _ from hblk.cell 3)
  have kb4 := cell_regrown (show _ = some _ from hblk.cell 4)
  have kb5 := cell_regrown (show _ = some _ from hblk.cell 5)
  have c1q := fun (d' : Nat) (os : Array Obj) => Calls.regrown_of (HO.out (Sort.grow (redrawn V d') os) (below_regrown V d' os))
  clear hK0 hblk
  refine wp_region_quiet_below (by kernel_rfl) (by kernel_rfl) ?_
  repeat (go_big_quiet_step (first | exact c1q _ _))
  refine wpQuiet_nil ?_
  intro _ hw'
  obtain ⟨⟨dq, osq⟩, hw''⟩ := hw'
  subst hw''
  have hbq := below_regrown V dq osq
  have HBVX : Hid (Below V.heap.size V (Sort.grow (redrawn V dq) osq)) := hbq
  have HBX : Hid (Below w0.heap.size w (Sort.grow (redrawn V dq) osq)) := HBV.out.trans (hbq.mono (Nat.le_trans hsz0 HBV.out.size))
  clear hbq
  have HWX : Hid (LdW (Sort.grow (redrawn V dq) osq) w0.heap.size b ⟨rs, nw, g, bk, ks, nx⟩) := HW.out.below HBVX.out
  have yb0 := kb0 dq osq
  have yb1 := kb1 dq osq
  have yb2 := kb2 dq osq
  have yb3 := kb3 dq osq
  have yb4 := kb4 dq osq
  have yb5 := kb5 dq osq
  generalize hXX : Sort.grow (redrawn V dq) osq = X at *
  obtain ⟨_, _, _, _, hbx, _⟩ := HWX.out.ld
  have yf1 := hbx.free 1
  have yf2 := hbx.free 2
  have yf3 := hbx.free 3
  have hbw : w0.heap.size ≤ b := by obtain ⟨_, _, _, _, _, _, h2, _⟩ := HWX.out; exact h2
  clear hbx kc0 kc1 kc2 kc3 kc4 kb0 kb1 kb2 kb3 kb4 kb5 hXX HO HW HBVX c1q
  have HWE : Hid (∃ Y, LdW Y w0.heap.size b ⟨rs, if bk = true then nw else g, 0, false, ks, nx⟩ ∧ Below w0.heap.size w Y ∧ Y.cell? ⟨b, 4, none⟩ = some (.slice (some ⟨g5, 0, none⟩) ks.length k5) ∧ Y = (if bk = true then ((X.setCell ⟨b, 2, none⟩ (.int .i64 0)).setCell ⟨b, 3, none⟩ (.bool false)) else (((X.setCell ⟨b, 1, none⟩ (.int .i64 g)).setCell ⟨b, 2, none⟩ (.int .i64 0)).setCell ⟨b, 3, none⟩ (.bool false)))) := by
    cases bk
    · refine ⟨_, ((HWX.out.field (l' := ⟨rs, g, g, false, ks, nx⟩) (i := 1) rfl rfl (fun _ _ => rfl)).field (l' := ⟨rs, g, 0, false, ks, nx⟩) (i := 2) (u := .int .i64 0) rfl rfl (fun _ _ => rfl)).field (i := 3) (u := .bool false) rfl rfl (fun _ _ => rfl), ((HBX.out.setCell hbw _).setCell hbw _).setCell hbw _, ?_, rfl⟩
      simp [go_sem, yb4]
    · refine ⟨_, (HWX.out.field (l' := ⟨rs, nw, 0, true, ks, nx⟩) (i := 2) (u := .int .i64 0) rfl rfl (fun _ _ => rfl)).field (i := 3) (u := .bool false) rfl rfl (fun _ _ => rfl), (HBX.out.setCell hbw _).setCell hbw _, ?_, rfl⟩
      simp [go_sem, yb4]
  obtain ⟨Y, hY1, hY2, hY4, hY5⟩ := HWE.out
  clear HWE HWX
  have HY1 : Hid (LdW Y w0.heap.size b ⟨rs, if bk = true then nw else g, 0, false, ks, nx⟩) := hY1
  have HY2 : Hid (Below w0.heap.size w Y) := hY2
  clear hY1 hY2
  generalize (if bk = true then nw else g) = nw' at *
  have hcase : (bk = true ∧ Y = ((X.setCell ⟨b, 2, none⟩ (.int .i64 0)).setCell ⟨b, 3, none⟩ (.bool false))) ∨ (bk = false ∧ Y = (((X.setCell ⟨b, 1, none⟩ (.int .i64 g)).setCell ⟨b, 2, none⟩ (.int .i64 0)).setCell ⟨b, 3, none⟩ (.bool false))) := by
    cases bk
    · exact .inr ⟨rfl, by simpa using hY5⟩
    · exact .inl ⟨rfl, by simpa using hY5⟩
  clear hY5
  rcases hcase with ⟨rfl, hYe⟩ | ⟨rfl, hYe⟩
  all_goals
    go_wp2_with fail
    rw [← hYe]
    clear hYe yb0 yb1 yb2 yb3 yb4 yb5 yf1 yf2 yf3 HBX
    go_loopg [43] ks.length (fun g' s43 wr => ∃ k : Nat, k ≤ ks.length ∧ ks.length - k ≤ g' ∧ s43 = .int .i64 k ∧ wr.cell? ⟨b, 4, none⟩ = some (.slice (some ⟨g5, 0, none⟩) ks.length k5) ∧ Hid (LdW wr w0.heap.size b ⟨rs, nw', 0, false, (ks.take k).map endZ ++ ks.drop k, nx⟩) ∧ Hid (Below w0.heap.size w wr))
    case atStart => exact ⟨0, Nat.zero_le _, by omega, rfl, hY4, HY1, HY2⟩
    case round =>
      obtain ⟨k, hk, hgk, rfl, hc4, HWk, HBk⟩ := hrel
      clear hY4 HY1 HY2
      by_cases hlt : k < ks.length
      · have hkl : k < ((ks.take k).map endZ ++ ks.drop k).length := by simp; omega
        obtain ⟨h2, h3, h4, h5, h6, h7, h8, h9, -⟩ := HWk.out.agentAt (k := k) hkl hc4
        rw [end_at hlt] at h5 h6 h7
        have hst := end_step hlt
        have HL : Hid (LdW (((wr.setCell ⟨g5, k * 3, none⟩ (.int .i64 0)).setCell ⟨g5, k * 3 + 1, none⟩ (.int .i64 (ks.getD k ⟨0, 0, false⟩).tr)).setCell ⟨g5, k * 3 + 2, none⟩ (.bool false)) w0.heap.size b ⟨rs, nw', 0, false, (ks.take (k + 1)).map endZ ++ ks.drop (k + 1), nx⟩) := by
          have := h9 ⟨0, (ks.getD k ⟨0, 0, false⟩).tr, false⟩
          simp only at this
          rw [hst] at this
          exact this
        have HBL : Hid (Below w0.heap.size w (((wr.setCell ⟨g5, k * 3, none⟩ (.int .i64 0)).setCell ⟨g5, k * 3 + 1, none⟩ (.int .i64 (ks.getD k ⟨0, 0, false⟩).tr)).setCell ⟨g5, k * 3 + 2, none⟩ (.bool false))) := ((HBk.out.setCell h3 _).setCell h3 _).setCell h3 _
        have hc4' : (((wr.setCell ⟨g5, k * 3, none⟩ (.int .i64 0)).setCell ⟨g5, k * 3 + 1, none⟩ (.int .i64 (ks.getD k ⟨0, 0, false⟩).tr)).setCell ⟨g5, k * 3 + 2, none⟩ (.bool false)).cell? ⟨b, 4, none⟩ = some (.slice (some ⟨g5, 0, none⟩) ks.length k5) := by
          rw [World.cell?_setCell_other _ _ _ _ (fun e => by injection e with e1; exact h4 e1.symm), World.cell?_setCell_other _ _ _ _ (fun e => by injection e with e1; exact h4 e1.symm), World.cell?_setCell_other _ _ _ _ (fun e => by injection e with e1; exact h4 e1.symm)]
          exact hc4
        have HC4 : Hid (_ = _) := hc4'
        have hf0 := h8 (k * 3)
        have hf1 := h8 (k * 3 + 1)
        have hf2 := h8 (k * 3 + 2)
        have hg5w : g5 < wr.heap.size := World.block_lt_of_cell? wr _ h5
        have hbw' : b < wr.heap.size := World.block_lt_of_cell? wr _ hc4
        have hne1 : ¬ g5 = wr.heap.size := by omega
        have hne2 : ¬ b = wr.heap.size := by omega
        have hne3 : ¬ wr.heap.size = g5 := by omega
        have h4' : ¬ b = g5 := h4
        have h4'' : ¬ g5 = b := fun e => h4 e.symm
        have hklt : (k : Int) < ks.length := by omega
        clear h8 h9 hst hkl hc4'
        generalize ks.getD k ⟨0, 0, false⟩ = p at h5 h6 h7 HL HBL HC4
        obtain ⟨s, t, bb⟩ := p
        simp only at h5 h6 h7 HL HBL HC4
        go_wp2_with fail
        go_region
        all_goals
          go_wp2
          go_roundg (ks.length - (k + 1))
          case measure => omega
          case rel =>
            refine ⟨k + 1, by omega, by omega, by go_num, ?_, ?_, ?_⟩
            · first
                | exact (((Below.refl _ _).alloc (Nat.le_refl _) _).cell (p := ⟨b, 4, none⟩) (by simpa using hbw')).trans HC4.out
                | exact ((((Below.refl _ _).alloc (Nat.le_refl _) _).drew).cell (p := ⟨b, 4, none⟩) (by simpa using hbw')).trans HC4.out
            · first | exact HL.out.below ((Below.refl _ _).alloc (Nat.le_refl _) _) | exact HL.out.below (((Below.refl _ _).alloc (Nat.le_refl _) _).drew)
            · first | exact HBL.out.alloc (Nat.le_trans hsz0 HBL.out.size) _ | exact (HBL.out.alloc (Nat.le_trans hsz0 HBL.out.size) _).drew
      · have hk' : k = ks.length := by omega
        have HLE : Hid (LdW wr w0.heap.size b ⟨rs, nw', 0, false, ks.map endZ, nx⟩) := by
          have := HWk.out
          rw [hk', List.take_of_length_le (Nat.le_refl _), List.drop_length, List.append_nil] at this
          exact this
        subst hk'
        clear hk hlt HWk hc4
        go_wp2
        go_ret
        exact ⟨by rw [HQ.out]; exact ⟨rfl, fun _ => HLE.out⟩, HBk.out⟩
end Go.Proofs.YtpenkhehceglfaaGreatDoor
