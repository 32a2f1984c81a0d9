/- The contract of the document's FreshLeader. -/
import Derived.Test.YtmlhipdfjnamiaaGreatME
import Derived.Test.YtmlhipdfjnamiaaGreatLV8
namespace Go.Proofs.YtmlhipdfjnamiaaGreat
open Go.RowKit
set_option maxHeartbeats 8000000 in
set_option maxRecDepth 100000 in
theorem freshR_any (cf : Ld.Config) (A B D : Value) (w0 w : World) (hC0 : CfAt w0 cf A B D) (h0 : Below w0.heap.size w0 w) (hc : Ld.chkConfig cf = 0) :
    Calls Tryz.prog 32 #[cfV cf A B D] w fun e w' => (∃ gR gK, e = .returned (leV (Ld.freshL cf) (.slice (some ⟨gR, 0, none⟩) 1 1) (.slice (some ⟨gK, 0, none⟩) (Ld.many cf) (Ld.many cf))) ∧ w.heap.size ≤ gR ∧ w.heap.size ≤ gK ∧ Keep (fun x => w0.heap.size ≤ x ∧ x ≠ gR ∧ x ≠ gK) (fun w => LdAt w (Ld.freshL cf) (.slice (some ⟨gR, 0, none⟩) 1 1) (.slice (some ⟨gK, 0, none⟩) (Ld.many cf) (Ld.many cf))) w') ∧ Below w.heap.size w w' := by
  obtain ⟨i0, hi, hz0, hz1, hz2⟩ := info_parts infoK
  have hC := hC0.below h0
  have H3 : Hid (∀ w', Below w.heap.size w w' → Calls Tryz.prog 52 #[cfV cf A B D] w' fun e w'' => e = .returned (.int .i64 (Ld.many cf)) ∧ Below w'.heap.size w' w'') := fun w' hb => by
    have := agR_any cf A B D w' (hC.below hb)
    rw [agR_ok hc] at this
    exact this
  have hM := (Ld.agents_ok hc).2.1
  obtain ⟨f, L, R, W, d⟩ := cf
  obtain ⟨a1, c1, rfl⟩ := pins_slice hC.1
  obtain ⟨a2, c2, rfl⟩ := rules_slice hC.2.1
  obtain ⟨a3, c3, rfl⟩ := waves_slice hC.2.2
  have HPN : Hid (PinsAt w0 (.slice a1 L.length c1) L) := hC0.1
  have HW0 : Hid (Below w0.heap.size w0 w) := h0
  have HQ : Hid (Ld.freshL ⟨f, L, R, W, d⟩ = ⟨[(f, L)], 1, 0, false, List.replicate (Ld.many ⟨f, L, R, W, d⟩) ⟨0, 0, false⟩, 1⟩) := rfl
  clear hC hC0 h0 hc
  unfold cfV cfC at H3
  unfold cfV cfC leV leC
  simp only at H3 ⊢
  generalize Ld.freshL ⟨f, L, R, W, d⟩ = Q at HQ ⊢
  generalize Ld.many ⟨f, L, R, W, d⟩ = M at H3 HQ hM ⊢
  generalize hn1 : L.length = n1 at *
  generalize R.length = n2 at *
  generalize W.length = n3 at *
  have hmk := fun w' => run_make (P := Tryz.prog) w' 30 54 _ _ Tryz.underlying30 hi hz0 .i64 .i64 (M : Int) (M : Int) (by omega) (Int.le_refl _) (by rw [hz2]; omega) (by omega)
  simp only [hz1, Int.toNat_natCast] at hmk
  have hcl : (Value.agg #[.int .i64 0, .int .i64 0, .bool false]).cells = #[.int .i64 0, .int .i64 0, .bool false] := rfl
  rw [hcl, made_knows M hM] at hmk
  obtain ⟨hB0, hK0, hZ0⟩ := box2 w #[.int .i64 f, .slice a1 n1 c1, .slice a2 n2 c2, .slice a3 n3 c3, .int .i64 d] #[.slice none 0 0, .int .i64 0, .int .i64 0, .bool false, .slice none 0 0, .int .i64 0] 28 32
  go_enter Tryz.func32, Tryz.ntmps32
  go_upto_region 1 with fail
  generalize ((w.alloc (.cells #[.int .i64 f, .slice a1 n1 c1, .slice a2 n2 c2, .slice a3 n3 c3, .int .i64 d] 28)).alloc (.cells #[.slice none 0 0, .int .i64 0, .int .i64 0, .bool false, .slice none 0 0, .int .i64 0] 32)) = V at *
  have H3' : Hid (∀ w', Below V.heap.size V w' → Calls Tryz.prog 52 #[.agg #[.int .i64 f, .slice a1 n1 c1, .slice a2 n2 c2, .slice a3 n3 c3, .int .i64 d]] w' fun e w'' => e = .returned (.int .i64 (M : Int)) ∧ Below w'.heap.size w' w'') := fun w' hb => H3.out w' (hB0.trans (hb.mono hB0.size))
  have HB0 : Hid (Below w.heap.size w V) := hB0
  have HZ0 : Hid (Blk V (w.heap.size + 1) #[.slice none 0 0, .int .i64 0, .int .i64 0, .bool false, .slice none 0 0, .int .i64 0] 32) := hZ0
  have HK0 : Hid (Blk V w.heap.size #[.int .i64 f, .slice a1 n1 c1, .slice a2 n2 c2, .slice a3 n3 c3, .int .i64 d] 28) := hK0
  have hlt1 : w.heap.size + 1 < V.heap.size := hZ0.lt
  have hlt0 : w.heap.size < V.heap.size := hK0.lt
  clear hB0 hZ0 hK0 H3
  go_cut [] from 3 (fun wx => ∃ gR gK : Nat, V.heap.size ≤ gR ∧ V.heap.size ≤ gK ∧ Blk wx gR #[.int .i64 f, .slice a1 n1 c1] 24 ∧ Blk wx gK (flatK (List.replicate M ⟨0, 0, false⟩)).toArray 54 ∧ Below w.heap.size w wx ∧ Blk wx (w.heap.size + 1) #[.slice (some ⟨gR, 0, none⟩) 1 1, .int .i64 1, .int .i64 0, .bool false, .slice (some ⟨gK, 0, none⟩) M M, .int .i64 1] 32)
  case first =>
    have HB1d : Hid (Below V.heap.size V V.drew) := (Below.refl _ V).drew
    have hlt0d : w.heap.size < V.drew.heap.size := hlt0
    have hlt1d : w.heap.size + 1 < V.drew.heap.size := hlt1
    have hz1 := (show Blk V.drew (w.heap.size + 1) _ _ from HZ0.out)
    have zf0 := hz1.free 0
    have zf1 := hz1.free 1
    have zf2 := hz1.free 2
    have zf3 := hz1.free 3
    have zf4 := hz1.free 4
    have zf5 := hz1.free 5
    clear hz1
    have hk1 := (show Blk V.drew w.heap.size _ _ from HK0.out)
    have kc0 := hk1.cell 0
    have kc1 := hk1.cell 1
    have kc2 := hk1.cell 2
    have kc3 := hk1.cell 3
    have kc4 := hk1.cell 4
    simp only [List.getElem?_toArray, List.getElem?_cons_zero, List.getElem?_cons_succ] at kc0 kc1 kc2 kc3 kc4
    have kb0 : ∀ O, ((V.alloc O).drew).cell? ⟨w.heap.size, 0, none⟩ = some (.int .i64 f) := fun O => (show Blk ((V.alloc O).drew) _ _ _ from HK0.out.al O).cell 0
    have kq0 : ∀ O, (V.alloc O).cell? ⟨w.heap.size, 0, none⟩ = some (.int .i64 f) := fun O => (HK0.out.al O).cell 0
    have kb1 : ∀ O, ((V.alloc O).drew).cell? ⟨w.heap.size, 1, none⟩ = some (.slice a1 n1 c1) := fun O => (show Blk ((V.alloc O).drew) _ _ _ from HK0.out.al O).cell 1
    have kq1 : ∀ O, (V.alloc O).cell? ⟨w.heap.size, 1, none⟩ = some (.slice a1 n1 c1) := fun O => (HK0.out.al O).cell 1
    have kb2 : ∀ O, ((V.alloc O).drew).cell? ⟨w.heap.size, 2, none⟩ = some (.slice a2 n2 c2) := fun O => (show Blk ((V.alloc O).drew) _ _ _ from HK0.out.al O).cell 2
    have kq2 : ∀ O, (V.alloc O).cell? ⟨w.heap.size, 2, none⟩ = some (.slice a2 n2 c2) := fun O => (HK0.out.al O).cell 2
    have kb3 : ∀ O, ((V.alloc O).drew).cell? ⟨w.heap.size, 3, none⟩ = some (.slice a3 n3 c3) := fun O => (show Blk ((V.alloc O).drew) _ _ _ from HK0.out.al O).cell 3
    have kq3 : ∀ O, (V.alloc O).cell? ⟨w.heap.size, 3, none⟩ = some (.slice a3 n3 c3) := fun O => (HK0.out.al O).cell 3
    have kb4 : ∀ O, ((V.alloc O).drew).cell? ⟨w.heap.size, 4, none⟩ = some (.int .i64 d) := fun O => (show Blk ((V.alloc O).drew) _ _ _ from HK0.out.al O).cell 4
    have kq4 : ∀ O, (V.alloc O).cell? ⟨w.heap.size, 4, none⟩ = some (.int .i64 d) := fun O => (HK0.out.al O).cell 4
    clear hk1
    have HZP : Hid (∀ X : World, Below V.heap.size V X → ∀ v0 v1 v2 v3 v4 v5, Blk ((((((X.setCell ⟨w.heap.size + 1, 0, none⟩ v0).setCell ⟨w.heap.size + 1, 1, none⟩ v1).setCell ⟨w.heap.size + 1, 2, none⟩ v2).setCell ⟨w.heap.size + 1, 3, none⟩ v3).setCell ⟨w.heap.size + 1, 4, none⟩ v4).setCell ⟨w.heap.size + 1, 5, none⟩ v5) (w.heap.size + 1) #[v0, v1, v2, v3, v4, v5] 32) := fun X h v0 v1 v2 v3 v4 v5 => (HZ0.out.below h).six6 v0 v1 v2 v3 v4 v5
    have B1 : Hid (∀ X : World, Below V.heap.size V X → ∀ (O : Obj) v0 v1 v2 v3 v4 v5, Below w.heap.size w (((((((X.setCell ⟨w.heap.size + 1, 0, none⟩ v0).setCell ⟨w.heap.size + 1, 1, none⟩ v1).setCell ⟨w.heap.size + 1, 2, none⟩ v2).setCell ⟨w.heap.size + 1, 3, none⟩ v3).setCell ⟨w.heap.size + 1, 4, none⟩ v4).setCell ⟨w.heap.size + 1, 5, none⟩ v5).alloc O)) := fun X h O v0 v1 v2 v3 v4 v5 => (below_six (HB0.out.trans (h.mono HB0.out.size)) (Nat.le_succ _) v0 v1 v2 v3 v4 v5).alloc (below_six (HB0.out.trans (h.mono HB0.out.size)) (Nat.le_succ _) v0 v1 v2 v3 v4 v5).size O
    have B2 : Hid (∀ X : World, Below V.heap.size V X → ∀ (O O' : Obj) v0 v1 v2 v3 v4 v5, Below w.heap.size w ((((((((X.setCell ⟨w.heap.size + 1, 0, none⟩ v0).setCell ⟨w.heap.size + 1, 1, none⟩ v1).setCell ⟨w.heap.size + 1, 2, none⟩ v2).setCell ⟨w.heap.size + 1, 3, none⟩ v3).setCell ⟨w.heap.size + 1, 4, none⟩ v4).setCell ⟨w.heap.size + 1, 5, none⟩ v5).alloc O).alloc O')) := fun X h O O' v0 v1 v2 v3 v4 v5 => (B1.out X h O v0 v1 v2 v3 v4 v5).alloc (B1.out X h O v0 v1 v2 v3 v4 v5).size O'
    have BA : Hid (∀ cs t, Blk ((V.alloc (.cells cs t)).drew) V.heap.size cs t) := fun cs t => (show Blk ((V.alloc (.cells cs t)).drew) _ _ _ from blk_alloc V cs t)
    go_wp2_with fail
    go_region_with (go_at_call 52; refine (H3'.out _ (by first | exact HB1d.out | exact ((Below.refl _ V).alloc (Nat.le_refl _) _).drew)).mono ?_; rintro e w3 ⟨rfl, hb⟩; have HC3 : Hid (Below _ _ w3) := hb; have HB3 : Hid (Below V.heap.size V w3) := (by first | exact HB1d.out.trans (hb.mono HB1d.out.size) | exact (((Below.refl _ V).alloc (Nat.le_refl _) _).drew).trans (hb.mono (((Below.refl _ V).alloc (Nat.le_refl _) _).drew).size)); have hz3 := HZ0.out.below HB3.out; have kdf0 := hz3.free 0; have kdf1 := hz3.free 1; have kdf2 := hz3.free 2; have kdf3 := hz3.free 3; have kdf4 := hz3.free 4; have kdf5 := hz3.free 5; have ze0 := hz3.cell 0; have ze1 := hz3.cell 1; have ze2 := hz3.cell 2; have ze3 := hz3.cell 3; have ze4 := hz3.cell 4; have ze5 := hz3.cell 5; simp only [List.getElem?_toArray, List.getElem?_cons_zero, List.getElem?_cons_succ] at ze0 ze1 ze2 ze3 ze4 ze5; have hltw : w.heap.size < w3.heap.size := Nat.lt_trans (Nat.lt_succ_self _) hz3.lt; have hk3 := HK0.out.below HB3.out; have kd0 := hk3.cell 0; have kd1 := hk3.cell 1; have kd2 := hk3.cell 2; have kd3 := hk3.cell 3; have kd4 := hk3.cell 4; simp only [List.getElem?_toArray, List.getElem?_cons_zero, List.getElem?_cons_succ] at kd0 kd1 kd2 kd3 kd4; have hltz : w.heap.size + 1 < w3.heap.size := hz3.lt; clear hb hz3 hk3)
    all_goals
      go_wp2_with fail
      go_meet
      case rel =>
        clear kc0 kc1 kc2 kc3 kc4 hmk H3'
        first
          | with_reducible exact ⟨V.heap.size, w3.heap.size, Nat.le_refl _, HB3.out.size, (((BA.out _ _).below HC3.out).six (Nat.ne_of_lt hlt1) _ _ _ _ _ _).al _, (blk_six_alloc w3 _ _ _ _ _ _ _ _ _), (B1.out _ HB3.out _ _ _ _ _ _ _), ((HZP.out _ HB3.out _ _ _ _ _ _).al _)⟩
          | with_reducible exact ⟨w3.heap.size, w3.heap.size + 1, HB3.out.size, (Nat.le_succ_of_le HB3.out.size), ((blk_six_alloc w3 _ _ _ _ _ _ _ _ _).al _), (blk_six_alloc2 w3 _ _ _ _ _ _ _ _ _ _), (B2.out _ HB3.out _ _ _ _ _ _ _ _), (((HZP.out _ HB3.out _ _ _ _ _ _).al _).al _)⟩
          | with_reducible exact ⟨w3.heap.size + 1, w3.heap.size, (Nat.le_succ_of_le HB3.out.size), HB3.out.size, (blk_six_alloc2 w3 _ _ _ _ _ _ _ _ _ _), ((blk_six_alloc w3 _ _ _ _ _ _ _ _ _).al _), (B2.out _ HB3.out _ _ _ _ _ _ _ _), (((HZP.out _ HB3.out _ _ _ _ _ _).al _).al _)⟩
  case rest =>
  obtain ⟨gR, gK, hgR, hgK, hR, hKb, hB, hz⟩ := hcut
  have HR : Hid (Blk wc gR #[.int .i64 f, .slice a1 n1 c1] 24) := hR
  have HKB : Hid (Blk wc gK (flatK (List.replicate M ⟨0, 0, false⟩)).toArray 54) := hKb
  have HB : Hid (Below w.heap.size w wc) := hB
  clear hmk H3' hR hKb hB
  have d0 := hz.cell 0
  have d1 := hz.cell 1
  have d2 := hz.cell 2
  have d3 := hz.cell 3
  have d4 := hz.cell 4
  have d5 := hz.cell 5
  simp only [List.getElem?_toArray, List.getElem?_cons_zero, List.getElem?_cons_succ] at d0 d1 d2 d3 d4 d5
  clear hz
  go_wp2
  refine bodyPost_ret (v := .agg #[.slice (some ⟨gR, 0, none⟩) 1 1, .int .i64 1, .int .i64 0, .bool false, .slice (some ⟨gK, 0, none⟩) M M, .int .i64 1]) (by simp [results, Tryz.results32, go_sem, d0, d1, d2, d3, d4, d5]) rfl ⟨⟨gR, gK, by rw [HQ.out], ?_, ?_, ?_⟩, HB.out⟩
  · exact Nat.le_trans HB0.out.size hgR
  · exact Nat.le_trans HB0.out.size hgK
  rw [HQ.out]
  have HPK : Keep (fun x => w0.heap.size ≤ x ∧ x ≠ gR ∧ x ≠ gK) (fun w => PinsAt w (.slice a1 n1 c1) L) wc := Keep.older HPN.out (pins_stab _ _) (fun b h => h.1) (HW0.out.trans (HB.out.mono HW0.out.size))
  exact keep_fresh HR.out HKB.out HPK (fun h => h.2.1 rfl) (fun h => h.2.2 rfl) hM
end Go.Proofs.YtmlhipdfjnamiaaGreat
