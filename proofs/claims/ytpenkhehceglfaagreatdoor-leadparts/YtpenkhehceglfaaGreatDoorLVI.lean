/- The contract of lead.Turn. -/
import Derived.Test.YtpenkhehceglfaaGreatDoorLVF
import Derived.Test.YtpenkhehceglfaaGreatDoorWL
import Derived.Test.YtpenkhehceglfaaGreatDoorMO
namespace Go.Proofs.YtpenkhehceglfaaGreatDoor
open Go.RowKit
theorem turn_at {cf : Ld.Config} {l : Ld.Leader} (hc : Ld.chkLeader cf l = 0) (hg : ¬ l.goal = 0) : ∃ j : Nat, j < l.rels.length ∧ (if l.back = true then l.now else l.goal) - 1 = (j : Int) ∧ Ld.goalOf l = l.rels.getD j (0, []) ∧ (Ld.goalOf l).2.length ≤ 12 ∧ l.rels.length ≤ 6 := by
  obtain ⟨_, g2, g3, g4, g5, _⟩ := (Ld.lead_iff cf l).1 hc
  have key : ∀ j : Nat, j < l.rels.length → (l.rels.getD j (0, [])).2.length ≤ 12 := fun j hj => rels_few g3 _ (by rw [List.getD_eq_getElem?_getD, List.getElem?_eq_getElem hj]; exact List.getElem_mem hj)
  unfold Ld.goalOf
  by_cases hb : l.back = true
  · simp only [hb, if_true]
    exact ⟨(l.now - 1).toNat, by omega, by omega, rfl, key _ (by omega), g2.2⟩
  · simp only [hb, Bool.false_eq_true, if_false]
    exact ⟨(l.goal - 1).toNat, by omega, by omega, rfl, key _ (by omega), g2.2⟩
theorem turn_w1 (j : Nat) (h : j ≤ 1000) : wrap64 ((j : Int) + 1 - 1) = j := by unfold wrap64; omega
theorem turn_w2 (j : Nat) (h : j ≤ 1000) : IntKind.i64.wrap ((j : Int) + 1 - 1) = j := by rw [IntKind.wrap_i64]; omega
theorem turn_w4 (j : Nat) (h : j ≤ 1000) : wrap64 (j : Int) = j := by unfold wrap64; omega
theorem turn_w5 (j : Nat) (h : j ≤ 1000) : IntKind.i64.wrap (j : Int) = j := by rw [IntKind.wrap_i64]; omega
theorem turn_cs {bk : Bool} {nw g : Int} {j : Nat} (h : (if bk = true then nw else g) - 1 = (j : Int)) : (bk = false ∧ g = (j : Int) + 1) ∨ (bk = true ∧ nw = (j : Int) + 1) := by
  cases bk
  · exact .inl ⟨rfl, by simp only [Bool.false_eq_true, if_false] at h; omega⟩
  · exact .inr ⟨rfl, by simp only [if_true] at h; omega⟩
def leT (w : World) (q : Bool × (Int × List (Int × Int)) × Int) (e : Ending) : Prop := ∃ y, e = .returned (.tuple #[.bool q.1, .agg #[.int .i64 q.2.1.1, y], .int .i64 q.2.2]) ∧ PinsAt w y q.2.1.2
theorem leT_none (w : World) {q : Bool × (Int × List (Int × Int)) × Int} {x : Int} (h : q = (false, (0, []), x)) : leT w q (.returned (.tuple #[.bool false, .agg #[.int .i64 0, .slice none 0 0], .int .i64 x])) := by
  subst h; exact ⟨_, rfl, pins_none _⟩
set_option maxHeartbeats 16000000 in
set_option maxRecDepth 100000 in
theorem ldTurn_any (cf : Ld.Config) (A B D : Value) (ld : Ld.Leader) (Y Z : Value) (k : Int) (w : World) (hC : CfAt w cf A B D) (hL : LdAt w ld Y Z) :
    Calls Tryz.prog 34 #[cfV cf A B D, leV ld Y Z, .int .i64 k] w fun e w' => leT w' (Ld.turnL cf ld k) e ∧ Below w.heap.size w w' := by
  have HCK : Hid (∀ w', Below w.heap.size w w' → Calls Tryz.prog 37 #[cfV cf A B D, leV ld Y Z] w' fun e w'' => e = .returned (.int .i64 (Ld.chkLeader cf ld)) ∧ Below w'.heap.size w' w'') := fun w' hb => ldCheck_any cf A B D ld Y Z w' (hC.below hb) (hL.below hb)
  have HTN : Hid (Ld.chkLeader cf ld = 0 → ∀ (j : Nat) (w' : World), j < ld.ags.length → Below w.heap.size w w' → Calls Tryz.prog 64 #[cfV cf A B D, leV ld Y Z, .int .i64 j] w' fun e w'' => e = .returned (.bool (Ld.isTurn cf ld j)) ∧ Below w'.heap.size w' w'') := fun hc j w' hj hb => isTurn_any cf A B D ld Y Z j w' (hC.below hb) (hL.below hb) hj hc
  have F1 : Hid (¬ Ld.chkLeader cf ld = 0 → Ld.turnL cf ld k = (false, (0, []), Ld.chkLeader cf ld)) := fun h => by unfold Ld.turnL; rw [if_neg h]
  have F2 : Hid (Ld.chkLeader cf ld = 0 → ¬ (0 ≤ k ∧ k < ld.ags.length) → Ld.turnL cf ld k = (false, (0, []), 5)) := fun h h2 => by unfold Ld.turnL; rw [if_pos h, if_neg h2]
  have F3 : Hid (Ld.chkLeader cf ld = 0 → 0 ≤ k ∧ k < ld.ags.length → ld.goal = 0 → Ld.turnL cf ld k = (false, (0, []), 7)) := fun h h2 h3 => by unfold Ld.turnL; rw [if_pos h, if_pos h2, if_pos h3]
  have F4 : Hid (Ld.chkLeader cf ld = 0 → 0 ≤ k ∧ k < ld.ags.length → ¬ ld.goal = 0 → Ld.turnL cf ld k = (Ld.isTurn cf ld k.toNat, Ld.goalOf ld, 0)) := fun h h2 h3 => by unfold Ld.turnL; rw [if_pos h, if_pos h2, if_neg h3]
  have F5 : Hid (Ld.chkLeader cf ld = 0 → ¬ ld.goal = 0 → _) := fun h h' => turn_at h h'
  have HRL : Hid (RelAt w Y ld.rels) := hL.1
  have hlen5 := hL.2.1
  obtain ⟨f, L, R, W, d⟩ := cf
  obtain ⟨a1, c1, rfl⟩ := pins_slice hC.1
  obtain ⟨a2, c2, rfl⟩ := rules_slice hC.2.1
  obtain ⟨a3, c3, rfl⟩ := waves_slice hC.2.2
  obtain ⟨rs, nw, g, bk, ks, nx⟩ := ld
  obtain ⟨a4, c4, rfl⟩ := relA_slice hL.1
  obtain ⟨a5, c5, rfl⟩ := knows_slice hL.2
  clear hC hL
  unfold cfV cfC leV leC at HCK HTN ⊢
  simp only at HCK HTN F2 F3 F4 F5 HRL hlen5 ⊢
  generalize Ld.turnL ⟨f, L, R, W, d⟩ ⟨rs, nw, g, bk, ks, nx⟩ k = Q at F1 F2 F3 F4 ⊢
  generalize Ld.isTurn ⟨f, L, R, W, d⟩ ⟨rs, nw, g, bk, ks, nx⟩ = TT at F4 HTN
  generalize Ld.goalOf ⟨rs, nw, g, bk, ks, nx⟩ = GO at F4 F5
  generalize Ld.chkLeader ⟨f, L, R, W, d⟩ ⟨rs, nw, g, bk, ks, nx⟩ = CK at F1 F2 F3 F4 F5 HCK HTN
  have HRS : Hid (∀ j : Nat, j < rs.length → ∃ rb ro v, a4 = some ⟨rb, ro, none⟩ ∧ rb < w.heap.size ∧ w.cell? ⟨rb, ro + j * 2, none⟩ = some (.int .i64 (rs.getD j (0, [])).1) ∧ w.cell? ⟨rb, ro + j * 2 + 1, none⟩ = some v ∧ PinsAt w v (rs.getD j (0, [])).2) := fun j hj => relA_at HRL.out hj
  have HHA : Hid (∀ w', Calls Tryz.prog 63 #[.agg #[.slice a4 rs.length c4, .int .i64 nw, .int .i64 g, .bool bk, .slice a5 ks.length c5, .int .i64 nx], .int .i64 k] w' fun e w'' => e = .returned (.bool (decide (0 ≤ k ∧ k < (ks.length : Int)))) ∧ Below w'.heap.size w' w'') := fun w' => hasAgent_any nw g nx k bk _ _ _ _ _ _ w' hlen5
  clear HRL
  generalize hn4 : rs.length = n4 at *
  generalize hn5 : ks.length = n5 at *
  generalize L.length = n1 at *
  generalize R.length = n2 at *
  generalize W.length = n3 at *
  obtain ⟨hB0, hK0, hL0, hZ0⟩ := box3 w #[.int .i64 f, .slice a1 n1 c1, .slice a2 n2 c2, .slice a3 n3 c3, .int .i64 d] #[.slice a4 n4 c4, .int .i64 nw, .int .i64 g, .bool bk, .slice a5 n5 c5, .int .i64 nx] #[.int .i64 0, .slice none 0 0] 45 49 24
  have vc0 := hK0.cell 0
  have vc1 := hK0.cell 1
  have vc2 := hK0.cell 2
  have vc3 := hK0.cell 3
  have vc4 := hK0.cell 4
  simp only [List.getElem?_toArray, List.getElem?_cons_zero, List.getElem?_cons_succ] at vc0 vc1 vc2 vc3 vc4
  have vl0 := hL0.cell 0
  have vl1 := hL0.cell 1
  have vl2 := hL0.cell 2
  have vl3 := hL0.cell 3
  have vl4 := hL0.cell 4
  have vl5 := hL0.cell 5
  simp only [List.getElem?_toArray, List.getElem?_cons_zero, List.getElem?_cons_succ] at vl0 vl1 vl2 vl3 vl4 vl5
  go_enter Tryz.func34, Tryz.ntmps34
  go_wp2_with fail
  generalize (((w.alloc (.cells #[.int .i64 f, .slice a1 n1 c1, .slice a2 n2 c2, .slice a3 n3 c3, .int .i64 d] 45)).alloc (.cells #[.slice a4 n4 c4, .int .i64 nw, .int .i64 g, .bool bk, .slice a5 n5 c5, .int .i64 nx] 49)).alloc (.cells #[.int .i64 0, .slice none 0 0] 24)) = V at *
  refine (HCK.out _ hB0).mono ?_
  rintro e w1 ⟨rfl, hb1⟩
  have HB1 : Hid (Below w.heap.size w w1) := hB0.trans (hb1.mono hB0.size)
  have HK1 : Hid (Blk w1 w.heap.size #[.int .i64 f, .slice a1 n1 c1, .slice a2 n2 c2, .slice a3 n3 c3, .int .i64 d] 45) := hK0.below hb1
  have HL1 : Hid (Blk w1 (w.heap.size + 1) #[.slice a4 n4 c4, .int .i64 nw, .int .i64 g, .bool bk, .slice a5 n5 c5, .int .i64 nx] 49) := hL0.below hb1
  have HZ1 : Hid (Blk w1 (w.heap.size + 1 + 1) #[.int .i64 0, .slice none 0 0] 24) := hZ0.below hb1
  have hlz : w.heap.size + 1 + 1 < w1.heap.size := HZ1.out.lt
  have hle : w.heap.size ≤ w.heap.size + 1 + 1 := by omega
  clear hb1 hB0 hK0 hL0 hZ0 HCK vc0 vc1 vc2 vc3 vc4 vl0 vl1 vl2 vl3 vl4 vl5
  have xl0 := HL1.out.cell 0
  have xl1 := HL1.out.cell 1
  have xl2 := HL1.out.cell 2
  have xl3 := HL1.out.cell 3
  have xl4 := HL1.out.cell 4
  have xl5 := HL1.out.cell 5
  simp only [List.getElem?_toArray, List.getElem?_cons_zero, List.getElem?_cons_succ] at xl0 xl1 xl2 xl3 xl4 xl5
  have xz0 := HZ1.out.cell 0
  have xz1 := HZ1.out.cell 1
  simp only [List.getElem?_toArray, List.getElem?_cons_zero, List.getElem?_cons_succ] at xz0 xz1
  have xzf0 := HZ1.out.free 0
  have xzf1 := HZ1.out.free 1
  by_cases h1 : CK = 0
  rotate_left
  · have HQ : Hid (Q = (false, (0, []), CK)) := F1.out h1
    have h1b : (CK != 0) = true := by rw [bne_iff_ne]; exact h1
    clear F1 F2 F3 F4 F5 h1 HTN HRS HHA HK1 HL1 HZ1 xl0 xl1 xl2 xl3 xl4 xl5
    go_wp2
    refine bodyPost_ret (v := .tuple #[.bool false, .agg #[.int .i64 0, .slice none 0 0], .int .i64 CK]) (by simp [results, Tryz.results34, go_sem, xz0, xz1]) rfl ⟨leT_none _ HQ.out, (HB1.out.setCell hle _).setCell hle _⟩
  have FF2 := F2.out h1
  have FF3 := F3.out h1
  have FF4 := F4.out h1
  have FF5 := F5.out h1
  have HTT := HTN.out h1
  subst h1
  clear F1 F2 F3 F4 F5 HTN
  by_cases h2 : 0 ≤ k ∧ k < n5
  rotate_left
  · have HQ : Hid (Q = (false, (0, []), 5)) := FF2 h2
    rw [decide_eq_false h2] at HHA
    clear FF2 FF3 FF4 FF5 HTT HRS h2
    go_wp2_with fail
    refine (HHA.out _).mono ?_
    rintro e w2 ⟨rfl, hb2⟩
    have hz2 := HZ1.out.below hb2
    have yz0 := hz2.cell 0
    have yz1 := hz2.cell 1
    simp only [List.getElem?_toArray, List.getElem?_cons_zero, List.getElem?_cons_succ] at yz0 yz1
    have yzf0 := hz2.free 0
    have yzf1 := hz2.free 1
    have HB2 : Hid (Below w.heap.size w w2) := HB1.out.trans (hb2.mono HB1.out.size)
    clear hb2 hz2 HHA
    go_wp2
    refine bodyPost_ret (v := .tuple #[.bool false, .agg #[.int .i64 0, .slice none 0 0], .int .i64 5]) (by simp [results, Tryz.results34, go_sem, yz0, yz1]) rfl ⟨leT_none _ HQ.out, (HB2.out.setCell hle _).setCell hle _⟩
  rw [decide_eq_true h2] at HHA
  go_wp2_with fail
  refine (HHA.out _).mono ?_
  rintro e w2 ⟨rfl, hb2⟩
  have HB2' : Hid (Below w.heap.size w w2) := HB1.out.trans (hb2.mono HB1.out.size)
  have HK2' : Hid (Blk w2 w.heap.size #[.int .i64 f, .slice a1 n1 c1, .slice a2 n2 c2, .slice a3 n3 c3, .int .i64 d] 45) := HK1.out.below hb2
  have HL2' : Hid (Blk w2 (w.heap.size + 1) #[.slice a4 n4 c4, .int .i64 nw, .int .i64 g, .bool bk, .slice a5 n5 c5, .int .i64 nx] 49) := HL1.out.below hb2
  have HZ2' : Hid (Blk w2 (w.heap.size + 1 + 1) #[.int .i64 0, .slice none 0 0] 24) := HZ1.out.below hb2
  clear hb2 HHA HB1 HK1 HL1 HZ1 xl0 xl1 xl2 xl3 xl4 xl5 xz0 xz1 xzf0 xzf1 hlz w1
  generalize w2 = w1 at *
  have HB1 := HB2'
  have HK1 := HK2'
  have HL1 := HL2'
  have HZ1 := HZ2'
  clear HB2' HK2' HL2' HZ2'
  have hlz : w.heap.size + 1 + 1 < w1.heap.size := HZ1.out.lt
  have xl0 := HL1.out.cell 0
  have xl1 := HL1.out.cell 1
  have xl2 := HL1.out.cell 2
  have xl3 := HL1.out.cell 3
  have xl4 := HL1.out.cell 4
  have xl5 := HL1.out.cell 5
  simp only [List.getElem?_toArray, List.getElem?_cons_zero, List.getElem?_cons_succ] at xl0 xl1 xl2 xl3 xl4 xl5
  have xz0 := HZ1.out.cell 0
  have xz1 := HZ1.out.cell 1
  simp only [List.getElem?_toArray, List.getElem?_cons_zero, List.getElem?_cons_succ] at xz0 xz1
  have xzf0 := HZ1.out.free 0
  have xzf1 := HZ1.out.free 1
  by_cases h3 : g = 0
  · have HQ : Hid (Q = (false, (0, []), 7)) := FF3 h2 h3
    subst h3
    clear FF2 FF3 FF4 FF5 HTT HRS h2 HK1 HL1 HZ1
    go_wp2
    refine bodyPost_ret (v := .tuple #[.bool false, .agg #[.int .i64 0, .slice none 0 0], .int .i64 7]) (by simp [results, Tryz.results34, go_sem, xz0, xz1]) rfl ⟨leT_none _ HQ.out, (HB1.out.setCell hle _).setCell hle _⟩
  have h3' : (g == 0) = false := by simpa using h3
  obtain ⟨kk, rfl⟩ : ∃ kk : Nat, k = kk := ⟨k.toNat, by omega⟩
  have hkk : kk < n5 := by omega
  have hq := FF4 h2 h3
  rw [Int.toNat_natCast] at hq
  obtain ⟨j, hj, hje, hgo, hg12, hn6⟩ := FF5 h3
  obtain ⟨rb, ro, v, rfl, hrb0, r0', r1', hP⟩ := HRS.out j hj
  rw [← hgo] at r0' hP
  obtain ⟨i, lk⟩ := GO
  simp only at r0' r1' hP hg12
  obtain ⟨az, cz, rfl⟩ := pins_slice hP
  have HQ : Hid (Q = (TT kk, (i, lk), 0)) := hq
  have hrb : rb < w1.heap.size := Nat.lt_of_lt_of_le hrb0 HB1.out.size
  have r0 := (HB1.out.cell (p := ⟨rb, ro + j * 2, none⟩) hrb0).trans r0'
  have r1 := (HB1.out.cell (p := ⟨rb, ro + j * 2 + 1, none⟩) hrb0).trans r1'
  have H3' : Hid (∀ w', Below w1.heap.size w1 w' → Calls Tryz.prog 64 #[.agg #[.int .i64 f, .slice a1 n1 c1, .slice a2 n2 c2, .slice a3 n3 c3, .int .i64 d], .agg #[.slice (some ⟨rb, ro, none⟩) n4 c4, .int .i64 nw, .int .i64 g, .bool bk, .slice a5 n5 c5, .int .i64 nx], .int .i64 kk] w' fun e w'' => e = .returned (.bool (TT kk)) ∧ Below w'.heap.size w' w'') := fun w' hb => HTT kk w' hkk (HB1.out.trans (hb.mono HB1.out.size))
  have H2' : Hid (∀ w', Below w1.heap.size w1 w' → Calls Tryz.prog 24 #[.agg #[.int .i64 i, .slice az lk.length cz]] w' fun e w'' => (∃ y, e = .returned (.agg #[.int .i64 i, y]) ∧ PinsNew w'' w'.heap.size y lk) ∧ Below w'.heap.size w' w'') := fun w' hb => wRel_any i _ lk w' (hP.below (HB1.out.trans (hb.mono HB1.out.size))) hg12
  have hjn : (j : Int) < n4 := Int.ofNat_lt.2 hj
  generalize hnz : lk.length = nz at *
  generalize TT kk = TK at *
  clear FF2 FF3 FF4 FF5 HTT HRS h2 hq hP r0' r1' hgo hg12 h3 hrb0
  have hj9 : j ≤ 1000 := Nat.le_trans (Nat.le_of_lt hj) (Nat.le_trans hn6 (by decide))
  have hw1 := turn_w1 j hj9
  have hw2 := turn_w2 j hj9
  have hw4 := turn_w4 j hj9
  have hw5 := turn_w5 j hj9
  have hjd : decide ((j : Int) < n4) = true := decide_eq_true hjn
  have hj0 : (0 : Int) ≤ j := Int.natCast_nonneg j
  have hcs := turn_cs hje
  clear hje
  go_upto_if 32 with fail
  go_cut [10] from 11 (fun s10 wx => s10 = .int .i64 ((j : Int) + 1) ∧ w1 = wx)
  case first =>
    rcases hcs with ⟨rfl, rfl⟩ | ⟨rfl, rfl⟩
    · go_wp2_with fail
      go_meet
      case rel => exact ⟨rfl, rfl⟩
    · go_wp2_with fail
      go_meet
      case rel => exact ⟨rfl, rfl⟩
  case rest =>
    obtain ⟨rfl, hwc⟩ := hcut
    subst hwc
    clear hcs
    have HB1d : Hid (Below w1.heap.size w1 w1.drew) := (Below.refl _ w1).drew
    have hk1 := HK1.out
    have xc0 := hk1.cell 0
    have xc1 := hk1.cell 1
    have xc2 := hk1.cell 2
    have xc3 := hk1.cell 3
    have xc4 := hk1.cell 4
    simp only [List.getElem?_toArray, List.getElem?_cons_zero, List.getElem?_cons_succ] at xc0 xc1 xc2 xc3 xc4
    clear hk1
    have hltx1 : w.heap.size + 1 < w1.heap.size := by omega
    have hltw1 : w.heap.size < w1.heap.size := by omega
    go_wp2_with fail
    go_region_with (first | (go_at_call 24; refine (H2'.out _ (by first | exact HB1d.out | exact HB2.out | exact HB3.out)).mono ?_; rintro e w2 ⟨⟨y, rfl, hy⟩, hb⟩; have HC2 : Hid (Below _ _ w2) := hb; have HB2 : Hid (Below w1.heap.size w1 w2) := (by first | exact HB1d.out.trans (hb.mono HB1d.out.size) | exact HB2.out.trans (hb.mono HB2.out.size) | exact HB3.out.trans (hb.mono HB3.out.size)); obtain ⟨ya, yc, rfl⟩ := pins_slice hy.pins; rw [hnz] at hy ⊢; have HYk : Hid (Keep (fun b => b < w1.heap.size) (fun w => PinsAt w (.slice ya nz yc) lk) w2) := pinsNew_keep (hy.mono (by first | exact HB1d.out.size | exact HB3.out.size)); clear hy; have hk2 := HK1.out.below HB2.out; have pc0 := hk2.cell 0; have pc1 := hk2.cell 1; have pc2 := hk2.cell 2; have pc3 := hk2.cell 3; have pc4 := hk2.cell 4; simp only [List.getElem?_toArray, List.getElem?_cons_zero, List.getElem?_cons_succ] at pc0 pc1 pc2 pc3 pc4; clear hk2; have hl2 := HL1.out.below HB2.out; have pl0 := hl2.cell 0; have pl1 := hl2.cell 1; have pl2 := hl2.cell 2; have pl3 := hl2.cell 3; have pl4 := hl2.cell 4; have pl5 := hl2.cell 5; simp only [List.getElem?_toArray, List.getElem?_cons_zero, List.getElem?_cons_succ] at pl0 pl1 pl2 pl3 pl4 pl5; clear hl2; have hz2 := HZ1.out.below HB2.out; have pz0 := hz2.cell 0; have pz1 := hz2.cell 1; simp only [List.getElem?_toArray, List.getElem?_cons_zero, List.getElem?_cons_succ] at pz0 pz1; have pzf0 := hz2.free 0; have pzf1 := hz2.free 1; have hlty2 : w.heap.size + 1 + 1 < w2.heap.size := hz2.lt; clear hz2; clear hb) | (go_at_call 64; refine (H3'.out _ (by first | exact HB1d.out | exact HB2.out | exact HB3.out)).mono ?_; rintro e w3 ⟨rfl, hb⟩; have HC3 : Hid (Below _ _ w3) := hb; have HB3 : Hid (Below w1.heap.size w1 w3) := (by first | exact HB1d.out.trans (hb.mono HB1d.out.size) | exact HB2.out.trans (hb.mono HB2.out.size) | exact HB3.out.trans (hb.mono HB3.out.size)); have hl3 := HL1.out.below HB3.out; have ql0 := hl3.cell 0; simp only [List.getElem?_toArray, List.getElem?_cons_zero] at ql0; clear hl3; have hz3 := HZ1.out.below HB3.out; have qz0 := hz3.cell 0; have qz1 := hz3.cell 1; simp only [List.getElem?_toArray, List.getElem?_cons_zero, List.getElem?_cons_succ] at qz0 qz1; have qzf0 := hz3.free 0; have qzf1 := hz3.free 1; have hlty3 : w.heap.size + 1 + 1 < w3.heap.size := hz3.lt; clear hz3; have qr0 := (HB3.out.cell (p := ⟨rb, ro + j * 2, none⟩) hrb).trans r0; have qr1 := (HB3.out.cell (p := ⟨rb, ro + j * 2 + 1, none⟩) hrb).trans r1; clear hb))
    all_goals
      go_wp2
      refine bodyPost_ret (v := .tuple #[.bool TK, .agg #[.int .i64 i, .slice ya nz yc], .int .i64 0]) (by first | (simp [results, Tryz.results34, go_sem, pz0, pz1]; done) | (simp [results, Tryz.results34, go_sem, qz0, qz1]; done)) rfl ⟨?_, ?_⟩
      · rw [HQ.out]
        refine ⟨_, rfl, ?_⟩
        first
          | with_reducible exact ((HYk.out.set (a := ⟨w.heap.size + 1 + 1, 0, none⟩) hlz _).set (a := ⟨w.heap.size + 1 + 1, 1, none⟩) hlz _).here
          | with_reducible exact (((HYk.out.below HC3.out).set (a := ⟨w.heap.size + 1 + 1, 0, none⟩) hlz _).set (a := ⟨w.heap.size + 1 + 1, 1, none⟩) hlz _).here
      · first
          | with_reducible exact ((HB1.out.trans (HB2.out.mono HB1.out.size)).setCell hle _).setCell hle _
          | with_reducible exact ((HB1.out.trans (HB3.out.mono HB1.out.size)).setCell hle _).setCell hle _
end Go.Proofs.YtpenkhehceglfaaGreatDoor
