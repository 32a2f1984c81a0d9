import Derived.Test.YtpenkhehceglfaaGreatDoorMM
/- What New, Next and Replay answer; six cells set. -/
namespace Go.Proofs.YtpenkhehceglfaaGreatDoor
open Go.RowKit
/-- what New, Next and Replay answer: all of it is their own -/
def leN (w : World) (base : Nat) (q : Ld.Leader × Int) (e : Ending) : Prop := ∃ Y Z, e = .returned (.tuple #[leV q.1 Y Z, .int .i64 q.2]) ∧ New base (fun w => LdAt w q.1 Y Z) w
theorem leN_none (w : World) (base : Nat) {q : Ld.Leader × Int} {x : Int} (h : q = (Ld.Leader.none, x)) : leN w base q (.returned (.tuple #[.agg #[.slice none 0 0, .int .i64 0, .int .i64 0, .bool false, .slice none 0 0, .int .i64 0], .int .i64 x])) := by
  subst h; exact ⟨_, _, rfl, fun w' _ => ld_none w'⟩
theorem made_k0 : madeCells #[.int .i64 0, .int .i64 0, .bool false] (0 * 3) = (flatK (List.replicate 0 ⟨0, 0, false⟩)).toArray := by kernel_rfl
theorem made_k1 : madeCells #[.int .i64 0, .int .i64 0, .bool false] (1 * 3) = (flatK (List.replicate 1 ⟨0, 0, false⟩)).toArray := by kernel_rfl
theorem made_k2 : madeCells #[.int .i64 0, .int .i64 0, .bool false] (2 * 3) = (flatK (List.replicate 2 ⟨0, 0, false⟩)).toArray := by kernel_rfl
theorem made_k3 : madeCells #[.int .i64 0, .int .i64 0, .bool false] (3 * 3) = (flatK (List.replicate 3 ⟨0, 0, false⟩)).toArray := by kernel_rfl
theorem made_k4 : madeCells #[.int .i64 0, .int .i64 0, .bool false] (4 * 3) = (flatK (List.replicate 4 ⟨0, 0, false⟩)).toArray := by kernel_rfl
theorem made_k5 : madeCells #[.int .i64 0, .int .i64 0, .bool false] (5 * 3) = (flatK (List.replicate 5 ⟨0, 0, false⟩)).toArray := by kernel_rfl
theorem made_k6 : madeCells #[.int .i64 0, .int .i64 0, .bool false] (6 * 3) = (flatK (List.replicate 6 ⟨0, 0, false⟩)).toArray := by kernel_rfl
theorem Blk.al {w : World} {b : Nat} {cs : Array Value} {t : TypeId} (h : Blk w b cs t) (O : Obj) : Blk (w.alloc O) b cs t := h.below ((Below.refl _ _).alloc (Nat.le_refl _) _)
theorem Keep.al {S : Nat → Prop} {Q : World → Prop} {w : World} (h : Keep S Q w) (O : Obj) : Keep S Q (w.alloc O) := h.below ((Below.refl _ _).alloc (Nat.le_refl _) _)
theorem Blk.six {w : World} {b g : Nat} {cs : Array Value} {t : TypeId} (h : Blk w g cs t) (hne : b ≠ g) (v0 v1 v2 v3 v4 v5 : Value) : Blk ((((((w.setCell ⟨b, 0, none⟩ v0).setCell ⟨b, 1, none⟩ v1).setCell ⟨b, 2, none⟩ v2).setCell ⟨b, 3, none⟩ v3).setCell ⟨b, 4, none⟩ v4).setCell ⟨b, 5, none⟩ v5) g cs t := (((((h.off hne).off hne).off hne).off hne).off hne).off hne
theorem Blk.six6 {w : World} {b : Nat} {t : TypeId} (h : Blk w b #[.slice none 0 0, .int .i64 0, .int .i64 0, .bool false, .slice none 0 0, .int .i64 0] t) (v0 v1 v2 v3 v4 v5 : Value) : Blk ((((((w.setCell ⟨b, 0, none⟩ v0).setCell ⟨b, 1, none⟩ v1).setCell ⟨b, 2, none⟩ v2).setCell ⟨b, 3, none⟩ v3).setCell ⟨b, 4, none⟩ v4).setCell ⟨b, 5, none⟩ v5) b #[v0, v1, v2, v3, v4, v5] t := (((((h.put 0 v0).put 1 v1).put 2 v2).put 3 v3).put 4 v4).put 5 v5
theorem Keep.six {S : Nat → Prop} {Q : World → Prop} {w : World} {b : Nat} (h : Keep S Q w) (hb : S b) (v0 v1 v2 v3 v4 v5 : Value) : Keep S Q ((((((w.setCell ⟨b, 0, none⟩ v0).setCell ⟨b, 1, none⟩ v1).setCell ⟨b, 2, none⟩ v2).setCell ⟨b, 3, none⟩ v3).setCell ⟨b, 4, none⟩ v4).setCell ⟨b, 5, none⟩ v5) := (((((Keep.set h (a := ⟨b, 0, none⟩) hb v0).set (a := ⟨b, 1, none⟩) hb v1).set (a := ⟨b, 2, none⟩) hb v2).set (a := ⟨b, 3, none⟩) hb v3).set (a := ⟨b, 4, none⟩) hb v4).set (a := ⟨b, 5, none⟩) hb v5
theorem below_six {B b : Nat} {a w : World} (h : Below B a w) (hb : B ≤ b) (v0 v1 v2 v3 v4 v5 : Value) : Below B a ((((((w.setCell ⟨b, 0, none⟩ v0).setCell ⟨b, 1, none⟩ v1).setCell ⟨b, 2, none⟩ v2).setCell ⟨b, 3, none⟩ v3).setCell ⟨b, 4, none⟩ v4).setCell ⟨b, 5, none⟩ v5) := (((((h.setCell (p := ⟨b, 0, none⟩) hb v0).setCell (p := ⟨b, 1, none⟩) hb v1).setCell (p := ⟨b, 2, none⟩) hb v2).setCell (p := ⟨b, 3, none⟩) hb v3).setCell (p := ⟨b, 4, none⟩) hb v4).setCell (p := ⟨b, 5, none⟩) hb v5
theorem size_six (w : World) (b : Nat) (v0 v1 v2 v3 v4 v5 : Value) : ((((((w.setCell ⟨b, 0, none⟩ v0).setCell ⟨b, 1, none⟩ v1).setCell ⟨b, 2, none⟩ v2).setCell ⟨b, 3, none⟩ v3).setCell ⟨b, 4, none⟩ v4).setCell ⟨b, 5, none⟩ v5).heap.size = w.heap.size := by simp only [World.size_setCell]
theorem blk_six_alloc (w : World) (b : Nat) (v0 v1 v2 v3 v4 v5 : Value) (cs : Array Value) (t : TypeId) : Blk (((((((w.setCell ⟨b, 0, none⟩ v0).setCell ⟨b, 1, none⟩ v1).setCell ⟨b, 2, none⟩ v2).setCell ⟨b, 3, none⟩ v3).setCell ⟨b, 4, none⟩ v4).setCell ⟨b, 5, none⟩ v5).alloc (.cells cs t)) w.heap.size cs t := by
  have := blk_alloc ((((((w.setCell ⟨b, 0, none⟩ v0).setCell ⟨b, 1, none⟩ v1).setCell ⟨b, 2, none⟩ v2).setCell ⟨b, 3, none⟩ v3).setCell ⟨b, 4, none⟩ v4).setCell ⟨b, 5, none⟩ v5) cs t
  rwa [size_six] at this
theorem blk_six_alloc2 (w : World) (b : Nat) (v0 v1 v2 v3 v4 v5 : Value) (O : Obj) (cs : Array Value) (t : TypeId) : Blk ((((((((w.setCell ⟨b, 0, none⟩ v0).setCell ⟨b, 1, none⟩ v1).setCell ⟨b, 2, none⟩ v2).setCell ⟨b, 3, none⟩ v3).setCell ⟨b, 4, none⟩ v4).setCell ⟨b, 5, none⟩ v5).alloc O).alloc (.cells cs t)) (w.heap.size + 1) cs t := by
  have := blk_alloc (((((((w.setCell ⟨b, 0, none⟩ v0).setCell ⟨b, 1, none⟩ v1).setCell ⟨b, 2, none⟩ v2).setCell ⟨b, 3, none⟩ v3).setCell ⟨b, 4, none⟩ v4).setCell ⟨b, 5, none⟩ v5).alloc O) cs t
  rwa [World.size_alloc, size_six] at this
theorem made_knows (m : Nat) (h : m ≤ 6) : madeCells #[.int .i64 0, .int .i64 0, .bool false] (m * 3) = (flatK (List.replicate m ⟨0, 0, false⟩)).toArray := by
  match m, h with
  | 0, _ => exact made_k0
  | 1, _ => exact made_k1
  | 2, _ => exact made_k2
  | 3, _ => exact made_k3
  | 4, _ => exact made_k4
  | 5, _ => exact made_k5
  | 6, _ => exact made_k6
  | n + 7, h => omega
end Go.Proofs.YtpenkhehceglfaaGreatDoor
/- The contracts of lead.New and lead.Turn. -/
namespace Go.Proofs.YtpenkhehceglfaaGreatDoor
open Go.RowKit
theorem keep_fresh {S : Nat → Prop} {w : World} {gR gK : Nat} {i : Int} {y : Value} {l : List (Int × Int)} {m : Nat} {t t' : TypeId} (hR : Blk w gR #[.int .i64 i, y] t) (hK : Blk w gK (flatK (List.replicate m ⟨0, 0, false⟩)).toArray t') (hP : Keep S (fun w => PinsAt w y l) w) (h1 : ¬ S gR) (h2 : ¬ S gK) (hm : m ≤ 6) :
    Keep S (fun w => LdAt w ⟨[(i, l)], 1, 0, false, List.replicate m ⟨0, 0, false⟩, 1⟩ (.slice (some ⟨gR, 0, none⟩) 1 1) (.slice (some ⟨gK, 0, none⟩) m m)) w := fun w' h' => by
  have hps : Keep S (fun w => RelsAt w (.slice (some ⟨gR, 0, none⟩) 1 1) [((i, l), y)]) w := by
    refine rels_keep (rels_row (Row.blk hR) rfl (Nat.le_refl _) (by simp) (fun q hq => ?_)) (fun ad n c e _ => ?_) (fun q hq => ?_)
    · simp only [List.mem_cons, List.not_mem_nil, or_false] at hq; subst hq; exact hP.here
    · cases e; exact h1
    · simp only [List.mem_cons, List.not_mem_nil, or_false] at hq; subst hq; exact hP
  have hk : Keep S (fun w => KnowsAt w (.slice (some ⟨gK, 0, none⟩) m m) (List.replicate m ⟨0, 0, false⟩)) w := by
    refine knows_keep (knows_row (by have := Row.blk hK; simpa using this) (by simp) (Nat.le_refl _) (by simp; omega)) (fun ad n c e _ => ?_)
    cases e; exact h2
  exact ⟨⟨_, hps w' h', rfl⟩, hk w' h'⟩
theorem new_parts {cf : Ld.Config} (h : Ld.chkConfig cf = 0) : cf.fid = 1 ∧ cf.flock.length ≤ 12 ∧ Ld.newL cf = (⟨[(cf.fid, cf.flock)], 1, 0, false, List.replicate (Ld.agents cf) ⟨0, 0, false⟩, 1⟩, 0) ∧ Ld.agents cf ≤ 6 := by
  have ha := Ld.agents_ok h
  refine ⟨?_, ?_, ?_, by omega⟩
  · unfold Ld.chkConfig at h
    by_cases e1 : Lk.chkRel cf.fid cf.flock = 0
    · rw [if_pos e1] at h
      by_cases e2 : cf.fid = 1 ∧ Lk.within cf.budget 0 3 = true
      · exact e2.1
      · rw [if_neg e2] at h; exact absurd h (by decide)
    · rw [if_neg e1] at h; exact absurd h e1
  · unfold Ld.chkConfig at h
    by_cases e1 : Lk.chkRel cf.fid cf.flock = 0
    · unfold Lk.chkRel at e1
      by_cases e2 : Lk.within cf.fid 1 6 = true
      · rw [if_pos e2] at e1; exact chk_len e1
      · rw [if_neg e2] at e1; exact absurd e1 (by decide)
    · rw [if_neg e1] at h; exact absurd h e1
  · unfold Ld.newL Ld.freshL; rw [if_pos h, ha.1]
set_option maxHeartbeats 16000000 in
set_option maxRecDepth 100000 in
theorem ldNew_any (cf : Ld.Config) (A B D : Value) (w : World) (hC : CfAt w cf A B D) :
    Calls Tryz.prog 31 #[cfV cf A B D] w fun e w' => leN w' w.heap.size (Ld.newL cf) e ∧ Below w.heap.size w w' := by
  have F1 : Hid (¬ Ld.chkConfig cf = 0 → Ld.newL cf = (Ld.Leader.none, Ld.chkConfig cf)) := fun h => by unfold Ld.newL; rw [if_neg h]
  have F2 := fun h => new_parts (cf := cf) h
  obtain ⟨f, L, R, W, d⟩ := cf
  obtain ⟨a1, c1, rfl⟩ := pins_slice hC.1
  obtain ⟨a2, c2, rfl⟩ := rules_slice hC.2.1
  obtain ⟨a3, c3, rfl⟩ := waves_slice hC.2.2
  simp only at F2
  obtain ⟨i0, hi, hz0, hz1, hz2⟩ := info_parts infoK
  have H1 : Hid (∀ w', Below w.heap.size w w' → Calls Tryz.prog 62 #[.agg #[.int .i64 f, .slice a1 L.length c1, .slice a2 R.length c2, .slice a3 W.length c3, .int .i64 d]] w' fun e w'' => e = .returned (.int .i64 (Ld.chkConfig ⟨f, L, R, W, d⟩)) ∧ Below w'.heap.size w' w'') := fun w' hb => config_any ⟨f, L, R, W, d⟩ _ _ _ w' (hC.below hb)
  have H2 : Hid (L.length ≤ 12 → ∀ w', Below w.heap.size w w' → Calls Tryz.prog 24 #[.agg #[.int .i64 f, .slice a1 L.length c1]] w' fun e w'' => (∃ y, e = .returned (.agg #[.int .i64 f, y]) ∧ PinsNew w'' w'.heap.size y L) ∧ Below w'.heap.size w' w'') := fun hl w' hb => wRel_any f _ L w' (hC.1.below hb) hl
  have H3 : Hid (∀ w', Below w.heap.size w w' → Calls Tryz.prog 36 #[.agg #[.int .i64 f, .slice a1 L.length c1, .slice a2 R.length c2, .slice a3 W.length c3, .int .i64 d]] w' fun e w'' => e = .returned (.int .i64 (Ld.agents ⟨f, L, R, W, d⟩)) ∧ Below w'.heap.size w' w'') := fun w' hb => ldAgents_any ⟨f, L, R, W, d⟩ _ _ _ w' (hC.below hb)
  have HF2 : Hid (Ld.chkConfig ⟨f, L, R, W, d⟩ = 0 → f = 1 ∧ L.length ≤ 12 ∧ Ld.newL ⟨f, L, R, W, d⟩ = (⟨[(f, L)], 1, 0, false, List.replicate (Ld.agents ⟨f, L, R, W, d⟩) ⟨0, 0, false⟩, 1⟩, 0) ∧ Ld.agents ⟨f, L, R, W, d⟩ ≤ 6) := F2
  clear hC F2
  unfold cfV cfC
  simp only
  generalize Ld.newL ⟨f, L, R, W, d⟩ = Q at F1 HF2 ⊢
  generalize Ld.agents ⟨f, L, R, W, d⟩ = M at H3 HF2
  generalize Ld.chkConfig ⟨f, L, R, W, d⟩ = CK at F1 HF2 H1
  generalize hn1 : L.length = n1 at *
  generalize R.length = n2 at *
  generalize W.length = n3 at *
  obtain ⟨hB0, hK0, hZ0⟩ := box2 w #[.int .i64 f, .slice a1 n1 c1, .slice a2 n2 c2, .slice a3 n3 c3, .int .i64 d] #[.slice none 0 0, .int .i64 0, .int .i64 0, .bool false, .slice none 0 0, .int .i64 0] 45 49
  go_enter Tryz.func31, Tryz.ntmps31
  go_wp2_with fail
  generalize ((w.alloc (.cells #[.int .i64 f, .slice a1 n1 c1, .slice a2 n2 c2, .slice a3 n3 c3, .int .i64 d] 45)).alloc (.cells #[.slice none 0 0, .int .i64 0, .int .i64 0, .bool false, .slice none 0 0, .int .i64 0] 49)) = V at hB0 hK0 hZ0 ⊢
  refine (H1.out _ hB0).mono ?_
  rintro e w1 ⟨rfl, hb1⟩
  have HB1 : Hid (Below w.heap.size w w1) := hB0.trans (hb1.mono hB0.size)
  have HK1 : Hid (Blk w1 w.heap.size #[.int .i64 f, .slice a1 n1 c1, .slice a2 n2 c2, .slice a3 n3 c3, .int .i64 d] 45) := hK0.below hb1
  have HZ1 : Hid (Blk w1 (w.heap.size + 1) #[.slice none 0 0, .int .i64 0, .int .i64 0, .bool false, .slice none 0 0, .int .i64 0] 49) := hZ0.below hb1
  clear hb1 hB0 hK0 hZ0 H1
  by_cases h1 : CK = 0
  rotate_left
  · have h1b : (CK != 0) = true := by rw [bne_iff_ne]; exact h1
    have HQ : Hid (Q = (Ld.Leader.none, CK)) := F1.out h1
    clear F1 HF2 h1 H2 H3 HK1
    have d0 := HZ1.out.cell 0
    have d1 := HZ1.out.cell 1
    have d2 := HZ1.out.cell 2
    have d3 := HZ1.out.cell 3
    have d4 := HZ1.out.cell 4
    have d5 := HZ1.out.cell 5
    simp only [List.getElem?_toArray, List.getElem?_cons_zero, List.getElem?_cons_succ] at d0 d1 d2 d3 d4 d5
    have df0 := HZ1.out.free 0
    have df1 := HZ1.out.free 1
    have df2 := HZ1.out.free 2
    have df3 := HZ1.out.free 3
    have df4 := HZ1.out.free 4
    have df5 := HZ1.out.free 5
    clear HZ1
    go_wp2
    refine bodyPost_ret (v := .tuple #[.agg #[.slice none 0 0, .int .i64 0, .int .i64 0, .bool false, .slice none 0 0, .int .i64 0], .int .i64 CK]) (by simp [results, Tryz.results31, go_sem, d0, d1, d2, d3, d4, d5]) rfl ⟨leN_none _ _ HQ.out, ?_⟩
    exact ((((((HB1.out.setCell (Nat.le_succ _) _).setCell (Nat.le_succ _) _).setCell (Nat.le_succ _) _).setCell (Nat.le_succ _) _).setCell (Nat.le_succ _) _).setCell (Nat.le_succ _) _)
  subst h1
  obtain ⟨rfl, hl, hq, hM⟩ := HF2.out rfl
  have HQ : Hid (Q = (⟨[(1, L)], 1, 0, false, List.replicate M ⟨0, 0, false⟩, 1⟩, 0)) := hq
  have hmk := fun w' => run_make (P := Tryz.prog) w' 47 98 _ _ Tryz.underlying47 hi hz0 .i64 .i64 (M : Int) (M : Int) (by omega) (Int.le_refl _) (by rw [hz2]; omega) (by omega)
  simp only [hz1, Int.toNat_natCast] at hmk
  have hcl : (Value.agg #[.int .i64 0, .int .i64 0, .bool false]).cells = #[.int .i64 0, .int .i64 0, .bool false] := rfl
  rw [hcl, made_knows M hM] at hmk
  have H2' : Hid (∀ w', Below w1.heap.size w1 w' → Calls Tryz.prog 24 #[.agg #[.int .i64 1, .slice a1 n1 c1]] w' fun e w'' => (∃ y, e = .returned (.agg #[.int .i64 1, y]) ∧ PinsNew w'' w'.heap.size y L) ∧ Below w'.heap.size w' w'') := fun w' hb => H2.out hl w' (HB1.out.trans (hb.mono HB1.out.size))
  have H3' : Hid (∀ w', Below w1.heap.size w1 w' → Calls Tryz.prog 36 #[.agg #[.int .i64 1, .slice a1 n1 c1, .slice a2 n2 c2, .slice a3 n3 c3, .int .i64 d]] w' fun e w'' => e = .returned (.int .i64 M) ∧ Below w'.heap.size w' w'') := fun w' hb => H3.out w' (HB1.out.trans (hb.mono HB1.out.size))
  clear F1 HF2 H2 H3 hl hq
  have HL1 : Hid (w.heap.size + 1 < w1.heap.size) := HZ1.out.lt
  have hlt1 : w.heap.size < w1.heap.size := HK1.out.lt
  have hlt1' : w.heap.size + 1 < w1.heap.size := HZ1.out.lt
  go_upto_region 4 with fail
  go_cut [3] from 5 (fun s3 wx => ∃ (gR gK : Nat) (ya : Option Addr) (yc : Nat), s3 = .int .i64 0 ∧ w1.heap.size ≤ gR ∧ w1.heap.size ≤ gK ∧ Blk wx gR #[.int .i64 1, .slice ya n1 yc] 24 ∧ Blk wx gK (flatK (List.replicate M ⟨0, 0, false⟩)).toArray 98 ∧ Keep (fun b => b < w1.heap.size) (fun w => PinsAt w (.slice ya n1 yc) L) wx ∧ Below w.heap.size w wx ∧ Blk wx (w.heap.size + 1) #[.slice (some ⟨gR, 0, none⟩) 1 1, .int .i64 1, .int .i64 0, .bool false, .slice (some ⟨gK, 0, none⟩) M M, .int .i64 1] 49)
  case first =>
    have HB1d : Hid (Below w1.heap.size w1 w1.drew) := (Below.refl _ w1).drew
    have hk1 := (show Blk w1.drew w.heap.size _ _ from HK1.out)
    have kc0 := hk1.cell 0
    have kc1 := hk1.cell 1
    have kc2 := hk1.cell 2
    have kc3 := hk1.cell 3
    have kc4 := hk1.cell 4
    simp only [List.getElem?_toArray, List.getElem?_cons_zero, List.getElem?_cons_succ] at kc0 kc1 kc2 kc3 kc4
    clear hk1
    have HZP : Hid (∀ X : World, Below w1.heap.size w1 X → ∀ v0 v1 v2 v3 v4 v5, Blk ((((((X.setCell ⟨w.heap.size + 1, 0, none⟩ v0).setCell ⟨w.heap.size + 1, 1, none⟩ v1).setCell ⟨w.heap.size + 1, 2, none⟩ v2).setCell ⟨w.heap.size + 1, 3, none⟩ v3).setCell ⟨w.heap.size + 1, 4, none⟩ v4).setCell ⟨w.heap.size + 1, 5, none⟩ v5) (w.heap.size + 1) #[v0, v1, v2, v3, v4, v5] 49) := fun X h v0 v1 v2 v3 v4 v5 => (HZ1.out.below h).six6 v0 v1 v2 v3 v4 v5
    have B1 : Hid (∀ X : World, Below w1.heap.size w1 X → ∀ (O : Obj) v0 v1 v2 v3 v4 v5, Below w.heap.size w (((((((X.setCell ⟨w.heap.size + 1, 0, none⟩ v0).setCell ⟨w.heap.size + 1, 1, none⟩ v1).setCell ⟨w.heap.size + 1, 2, none⟩ v2).setCell ⟨w.heap.size + 1, 3, none⟩ v3).setCell ⟨w.heap.size + 1, 4, none⟩ v4).setCell ⟨w.heap.size + 1, 5, none⟩ v5).alloc O)) := fun X h O v0 v1 v2 v3 v4 v5 => (below_six (HB1.out.trans (h.mono HB1.out.size)) (Nat.le_succ _) v0 v1 v2 v3 v4 v5).alloc (below_six (HB1.out.trans (h.mono HB1.out.size)) (Nat.le_succ _) v0 v1 v2 v3 v4 v5).size O
    have B2 : Hid (∀ X : World, Below w1.heap.size w1 X → ∀ (O O' : Obj) v0 v1 v2 v3 v4 v5, Below w.heap.size w ((((((((X.setCell ⟨w.heap.size + 1, 0, none⟩ v0).setCell ⟨w.heap.size + 1, 1, none⟩ v1).setCell ⟨w.heap.size + 1, 2, none⟩ v2).setCell ⟨w.heap.size + 1, 3, none⟩ v3).setCell ⟨w.heap.size + 1, 4, none⟩ v4).setCell ⟨w.heap.size + 1, 5, none⟩ v5).alloc O).alloc O')) := fun X h O O' v0 v1 v2 v3 v4 v5 => (B1.out X h O v0 v1 v2 v3 v4 v5).alloc (B1.out X h O v0 v1 v2 v3 v4 v5).size O'
    go_wp2_with fail
    go_region_with (first | (go_at_call 24; refine (H2'.out _ (by first | exact HB1d.out | exact HB2.out | exact HB3.out | exact HB2.out.alloc HB2.out.size _ | exact HB3.out.alloc HB3.out.size _)).mono ?_; rintro e w2 ⟨⟨y, rfl, hy⟩, hb⟩; have HC2 : Hid (Below _ _ w2) := hb; have HB2 : Hid (Below w1.heap.size w1 w2) := (by first | exact HB1d.out.trans (hb.mono HB1d.out.size) | exact HB2.out.trans (hb.mono HB2.out.size) | exact HB3.out.trans (hb.mono HB3.out.size) | exact (HB2.out.alloc HB2.out.size _).trans (hb.mono (HB2.out.alloc HB2.out.size _).size) | exact (HB3.out.alloc HB3.out.size _).trans (hb.mono (HB3.out.alloc HB3.out.size _).size)); obtain ⟨ya, yc, rfl⟩ := pins_slice hy.pins; have HYk : Hid (Keep (fun b => b < w1.heap.size) (fun w => PinsAt w (.slice ya n1 yc) L) w2) := (by rw [← hn1]; exact pinsNew_keep (hy.mono (by first | exact HB1d.out.size | exact HB3.out.size | exact (HB3.out.alloc HB3.out.size _).size))); clear hy; have hk2 := HK1.out.below HB2.out; have kd0 := hk2.cell 0; have kd1 := hk2.cell 1; have kd2 := hk2.cell 2; have kd3 := hk2.cell 3; have kd4 := hk2.cell 4; simp only [List.getElem?_toArray, List.getElem?_cons_zero, List.getElem?_cons_succ] at kd0 kd1 kd2 kd3 kd4; have hlt2 : w.heap.size < w2.heap.size := hk2.lt; clear hk2; have hz2 := HZ1.out.below HB2.out; have zd0 := hz2.cell 0; have zd1 := hz2.cell 1; have zd2 := hz2.cell 2; have zd3 := hz2.cell 3; have zd4 := hz2.cell 4; have zd5 := hz2.cell 5; simp only [List.getElem?_toArray, List.getElem?_cons_zero, List.getElem?_cons_succ] at zd0 zd1 zd2 zd3 zd4 zd5; have zdf0 := hz2.free 0; have zdf1 := hz2.free 1; have zdf2 := hz2.free 2; have zdf3 := hz2.free 3; have zdf4 := hz2.free 4; have zdf5 := hz2.free 5; have hlt2' : w.heap.size + 1 < w2.heap.size := hz2.lt; clear hz2; clear hb) | (go_at_call 36; refine (H3'.out _ (by first | exact HB1d.out | exact HB2.out | exact HB3.out | exact HB2.out.alloc HB2.out.size _ | exact HB3.out.alloc HB3.out.size _)).mono ?_; rintro e w3 ⟨rfl, hb⟩; have HC3 : Hid (Below _ _ w3) := hb; have HB3 : Hid (Below w1.heap.size w1 w3) := (by first | exact HB1d.out.trans (hb.mono HB1d.out.size) | exact HB2.out.trans (hb.mono HB2.out.size) | exact HB3.out.trans (hb.mono HB3.out.size) | exact (HB2.out.alloc HB2.out.size _).trans (hb.mono (HB2.out.alloc HB2.out.size _).size) | exact (HB3.out.alloc HB3.out.size _).trans (hb.mono (HB3.out.alloc HB3.out.size _).size)); have hk3 := HK1.out.below HB3.out; have ke0 := hk3.cell 0; have ke1 := hk3.cell 1; have ke2 := hk3.cell 2; have ke3 := hk3.cell 3; have ke4 := hk3.cell 4; simp only [List.getElem?_toArray, List.getElem?_cons_zero, List.getElem?_cons_succ] at ke0 ke1 ke2 ke3 ke4; have hlt3 : w.heap.size < w3.heap.size := hk3.lt; clear hk3; have hz3 := HZ1.out.below HB3.out; have ze0 := hz3.cell 0; have ze1 := hz3.cell 1; have ze2 := hz3.cell 2; have ze3 := hz3.cell 3; have ze4 := hz3.cell 4; have ze5 := hz3.cell 5; simp only [List.getElem?_toArray, List.getElem?_cons_zero, List.getElem?_cons_succ] at ze0 ze1 ze2 ze3 ze4 ze5; have zef0 := hz3.free 0; have zef1 := hz3.free 1; have zef2 := hz3.free 2; have zef3 := hz3.free 3; have zef4 := hz3.free 4; have zef5 := hz3.free 5; have hlt3' : w.heap.size + 1 < w3.heap.size := hz3.lt; clear hz3; clear hb))
    all_goals
      go_wp2_with fail
      go_meet
      case rel =>
        clear kc0 kc1 kc2 kc3 kc4 hmk H2' H3'
        first
          | with_reducible exact ⟨w2.heap.size, w3.heap.size, ya, yc, rfl, HB2.out.size, HB3.out.size, ((((blk_alloc w2 _ _).below HC3.out).six (Nat.ne_of_lt (Nat.lt_of_lt_of_le hlt1' HB2.out.size)) _ _ _ _ _ _).al _), (blk_six_alloc w3 _ _ _ _ _ _ _ _ _), ((((HYk.out.al _).below HC3.out).six HL1.out _ _ _ _ _ _).al _), (B1.out _ HB3.out _ _ _ _ _ _ _), ((HZP.out _ HB3.out _ _ _ _ _ _).al _)⟩
          | with_reducible exact ⟨w3.heap.size, w3.heap.size + 1, ya, yc, rfl, HB3.out.size, (Nat.le_succ_of_le HB3.out.size), ((blk_six_alloc w3 _ _ _ _ _ _ _ _ _).al _), (blk_six_alloc2 w3 _ _ _ _ _ _ _ _ _ _), ((((HYk.out.below HC3.out).six HL1.out _ _ _ _ _ _).al _).al _), (B2.out _ HB3.out _ _ _ _ _ _ _ _), (((HZP.out _ HB3.out _ _ _ _ _ _).al _).al _)⟩
          | with_reducible exact ⟨w3.heap.size + 1, w3.heap.size, ya, yc, rfl, (Nat.le_succ_of_le HB3.out.size), HB3.out.size, (blk_six_alloc2 w3 _ _ _ _ _ _ _ _ _ _), ((blk_six_alloc w3 _ _ _ _ _ _ _ _ _).al _), ((((HYk.out.below HC3.out).six HL1.out _ _ _ _ _ _).al _).al _), (B2.out _ HB3.out _ _ _ _ _ _ _ _), (((HZP.out _ HB3.out _ _ _ _ _ _).al _).al _)⟩
          | with_reducible exact ⟨w2.heap.size, w3.heap.size, ya, yc, rfl, HB2.out.size, HB3.out.size, (blk_six_alloc w2 _ _ _ _ _ _ _ _ _), ((((blk_alloc w3 _ _).below HC2.out).six (Nat.ne_of_lt (Nat.lt_of_lt_of_le hlt1' HB3.out.size)) _ _ _ _ _ _).al _), ((HYk.out.six HL1.out _ _ _ _ _ _).al _), (B1.out _ HB2.out _ _ _ _ _ _ _), ((HZP.out _ HB2.out _ _ _ _ _ _).al _)⟩
          | with_reducible exact ⟨w2.heap.size, w2.heap.size + 1, ya, yc, rfl, HB2.out.size, (Nat.le_succ_of_le HB2.out.size), ((blk_six_alloc w2 _ _ _ _ _ _ _ _ _).al _), (blk_six_alloc2 w2 _ _ _ _ _ _ _ _ _ _), (((HYk.out.six HL1.out _ _ _ _ _ _).al _).al _), (B2.out _ HB2.out _ _ _ _ _ _ _ _), (((HZP.out _ HB2.out _ _ _ _ _ _).al _).al _)⟩
          | with_reducible exact ⟨w2.heap.size + 1, w2.heap.size, ya, yc, rfl, (Nat.le_succ_of_le HB2.out.size), HB2.out.size, (blk_six_alloc2 w2 _ _ _ _ _ _ _ _ _ _), ((blk_six_alloc w2 _ _ _ _ _ _ _ _ _).al _), (((HYk.out.six HL1.out _ _ _ _ _ _).al _).al _), (B2.out _ HB2.out _ _ _ _ _ _ _ _), (((HZP.out _ HB2.out _ _ _ _ _ _).al _).al _)⟩
  case rest =>
    obtain ⟨gR, gK, ya, yc, rfl, hgR, hgK, hR, hKb, hP, hB, hz⟩ := hcut
    have HR : Hid (Blk wc gR #[.int .i64 1, .slice ya n1 yc] 24) := hR
    have HKB : Hid (Blk wc gK (flatK (List.replicate M ⟨0, 0, false⟩)).toArray 98) := hKb
    have HP : Hid (Keep (fun b => b < w1.heap.size) (fun w => PinsAt w (.slice ya n1 yc) L) wc) := hP
    have HB : Hid (Below w.heap.size w wc) := hB
    clear hmk H2' H3' hR hKb hP hB
    have d0 := hz.cell 0
    have d1 := hz.cell 1
    have d2 := hz.cell 2
    have d3 := hz.cell 3
    have d4 := hz.cell 4
    have d5 := hz.cell 5
    simp only [List.getElem?_toArray, List.getElem?_cons_zero, List.getElem?_cons_succ] at d0 d1 d2 d3 d4 d5
    clear hz
    go_wp2
    refine bodyPost_ret (v := .tuple #[.agg #[.slice (some ⟨gR, 0, none⟩) 1 1, .int .i64 1, .int .i64 0, .bool false, .slice (some ⟨gK, 0, none⟩) M M, .int .i64 1], .int .i64 0]) (by simp [results, Tryz.results31, go_sem, d0, d1, d2, d3, d4, d5]) rfl ⟨?_, HB.out⟩
    rw [HQ.out]
    refine ⟨_, _, rfl, New.mono (base := w1.heap.size) ?_ HB1.out.size⟩
    exact keep_fresh HR.out HKB.out HP.out (fun e => absurd e (Nat.not_lt.2 hgR)) (fun e => absurd e (Nat.not_lt.2 hgK)) hM
end Go.Proofs.YtpenkhehceglfaaGreatDoor
