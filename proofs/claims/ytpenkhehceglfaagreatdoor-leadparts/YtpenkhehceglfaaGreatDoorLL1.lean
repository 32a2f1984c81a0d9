/- The law's closed fact led(): the first wave is told, and is ill; all go back. -/
import Derived.Test.YtpenkhehceglfaaGreatDoorLL0
import Derived.Test.YtpenkhehceglfaaGreatDoorLVI
namespace Go.Proofs.YtpenkhehceglfaaGreatDoor
open Go.RowKit
theorem HidOf {p : Prop} (h : p) : Hid p := h
def ledP (y : Addr) : List (Lk.Note × Value) := [(⟨4, 0, 0, 0, false, 2, [(1, 2), (2, 1)]⟩, .slice (some y) 2 2), (⟨5, 0, 0, 2, false, 0, []⟩, .slice none 0 0), (⟨6, 1, 1, 0, false, 0, []⟩, .slice none 0 0), (⟨7, 1, 1, 0, false, 0, []⟩, .slice none 0 0)]
theorem recs_laid (w : World) (ps : List (Lk.Note × Value)) (t : TypeId) (hl : ps.length ≤ 1000) (hp : ∀ q ∈ ps, PinsAt w q.2 q.1.lock) :
    RecsAt (w.alloc (.cells (flatR ps).toArray t)) (.slice (some ⟨w.heap.size, 0, none⟩) ps.length ps.length) ps := by
  refine ⟨by omega, some ⟨w.heap.size, 0, none⟩, ps.length, rfl, Nat.le_refl _, (fun e => by cases e), fun ad e _ => ?_, fun ad e j u hu => ?_, fun q hq => (hp q hq).below ((Below.refl _ _).alloc (Nat.le_refl _) _)⟩
  · cases e; exact ⟨rfl, by simp⟩
  · cases e
    rw [WideShapes.add_plain, Nat.zero_add, World.cell?_alloc_new]
    simpa using hu
theorem ledRecs (y : Addr) (w : World) (hP : PinsAt w (.slice (some y) 2 2) [(1, 2), (2, 1)]) : RecsAt (w.alloc (.cells #[.int .i64 4, .int .i64 0, .int .i64 0, .int .i64 0, .bool false, .int .i64 2, .slice (some y) 2 2, .int .i64 5, .int .i64 0, .int .i64 0, .int .i64 2, .bool false, .int .i64 0, .slice none 0 0, .int .i64 6, .int .i64 1, .int .i64 1, .int .i64 0, .bool false, .int .i64 0, .slice none 0 0, .int .i64 7, .int .i64 1, .int .i64 1, .int .i64 0, .bool false, .int .i64 0, .slice none 0 0] 34)) (.slice (some ⟨w.heap.size, 0, none⟩) 4 4) (ledP y) := by
  have hR := recs_laid w (ledP y) 34 (by simp [ledP]) (fun q hq => by
    simp only [ledP, List.mem_cons, List.not_mem_nil, or_false] at hq
    rcases hq with rfl | rfl | rfl | rfl
    · exact hP
    · exact pins_none _
    · exact pins_none _
    · exact pins_none _)
  exact hR
theorem ledReplay' (A B D : Value) (y : Addr) (v : Value) (w : World) (hC : CfAt w smallC A B D) (hR : RecsAt w v (ledP y)) :
    Calls Tryz.prog 13 #[cfV smallC A B D, v] w fun e w' => leN w' w.heap.size (ledL, 0) e ∧ Below w.heap.size w w' := by
  have h := ldReplay_any smallC A B D _ _ _ hC hR
  have e : Ld.replayL smallC ((ledP y).map Prod.fst) = (ledL, 0) := led_rep
  rw [e] at h
  exact h
theorem ledNext (A B D Y Z z : Value) (rk ra rt rn ri : Int) (lk : List (Int × Int)) (q : Ld.Leader × Int) (w : World) (hC : CfAt w smallC A B D) (hL : LdAt w ledL Y Z) (hP : PinsAt w z lk) (hq : Ld.nextL smallC ledL ⟨rk, ra, rt, rn, false, ri, lk⟩ = q) :
    Calls Tryz.prog 15 #[cfV smallC A B D, leV ledL Y Z, .agg #[.int .i64 rk, .int .i64 ra, .int .i64 rt, .int .i64 rn, .bool false, .int .i64 ri, z]] w fun e w' => leN w' w.heap.size q e ∧ Below w.heap.size w w' := hq ▸ ldNext_any smallC A B D ledL Y Z rk ra rt rn ri false lk z w hC hL hP
set_option maxHeartbeats 16000000 in
set_option maxRecDepth 100000 in
theorem led_any (w : World) : Calls Tryz.prog 14 #[] w fun e w' => e = .returned (.bool true) ∧ Below w.heap.size w w' := by
  go_enter Tryz.func14, Tryz.ntmps14
  go_wp2_with fail
  refine (small_any _).mono ?_
  rintro e w1 ⟨⟨A, B, D, rfl, hC⟩, hb1⟩
  obtain ⟨a1, c1, rfl⟩ := pins_slice hC.1
  obtain ⟨a2, c2, rfl⟩ := rules_slice hC.2.1
  obtain ⟨a3, c3, rfl⟩ := waves_slice hC.2.2
  have e1 : smallC.flock.length = 1 := rfl
  have e2 : smallC.rules.length = 1 := rfl
  have e3 : smallC.waves.length = 2 := rfl
  rw [e1, e2, e3] at *
  have ev : cfV smallC (.slice a1 1 c1) (.slice a2 1 c2) (.slice a3 2 c3) = .agg #[.int .i64 1, .slice a1 1 c1, .slice a2 1 c2, .slice a3 2 c3, .int .i64 0] := rfl
  rw [ev]
  obtain ⟨hx, hk⟩ := box1 w1 #[.int .i64 1, .slice a1 1 c1, .slice a2 1 c2, .slice a3 2 c3, .int .i64 0] 45
  have HBV : Hid (Below w.heap.size w (w1.alloc (.cells #[.int .i64 1, .slice a1 1 c1, .slice a2 1 c2, .slice a3 2 c3, .int .i64 0] 45))) := hb1.trans (hx.mono hb1.size)
  have HKV : Hid (Blk (w1.alloc (.cells #[.int .i64 1, .slice a1 1 c1, .slice a2 1 c2, .slice a3 2 c3, .int .i64 0] 45)) w1.heap.size #[.int .i64 1, .slice a1 1 c1, .slice a2 1 c2, .slice a3 2 c3, .int .i64 0] 45) := hk
  have HCV : Hid (CfAt (w1.alloc (.cells #[.int .i64 1, .slice a1 1 c1, .slice a2 1 c2, .slice a3 2 c3, .int .i64 0] 45)) smallC (.slice a1 1 c1) (.slice a2 1 c2) (.slice a3 2 c3)) := hC.below hx
  clear hC hb1 hx hk e1 e2 e3
  go_upto_region 2 with fail
  generalize (w1.alloc (.cells #[.int .i64 1, .slice a1 1 c1, .slice a2 1 c2, .slice a3 2 c3, .int .i64 0] 45)) = V at HBV HKV HCV ⊢
  generalize w1.heap.size = gc at HKV ⊢
  go_cut [2, 3] from 18 (fun s2 s3 wx => ∃ (g2 : Nat) (a4 a5 : Option Addr) (c4 c5 : Nat), s2 = .pointer (some ⟨g2, 0, none⟩) ∧ s3 = .int .i64 0 ∧ Hid (Blk wx g2 #[.slice a4 2 c4, .int .i64 1, .int .i64 2, .bool false, .slice a5 3 c5, .int .i64 2] 49) ∧ Hid (LdAt wx ledL (.slice a4 2 c4) (.slice a5 3 c5)) ∧ Hid (Below V.heap.size V wx))
  case first =>
    have HB1d : Hid (Below V.heap.size V V.drew) := (Below.refl _ V).drew
    have kc0 := (show Blk V.drew gc _ _ from HKV.out).cell 0
    have kc1 := (show Blk V.drew gc _ _ from HKV.out).cell 1
    have kc2 := (show Blk V.drew gc _ _ from HKV.out).cell 2
    have kc3 := (show Blk V.drew gc _ _ from HKV.out).cell 3
    have kc4 := (show Blk V.drew gc _ _ from HKV.out).cell 4
    simp only [List.getElem?_toArray, List.getElem?_cons_zero, List.getElem?_cons_succ] at kc0 kc1 kc2 kc3 kc4
    have hltc : gc < V.heap.size := HKV.out.lt
    have HRP : Hid (∀ (y : Addr) (v : Value) (w2 : World), Below V.heap.size V w2 → RecsAt w2 v (ledP y) → Calls Tryz.prog 13 #[.agg #[.int .i64 1, .slice a1 1 c1, .slice a2 1 c2, .slice a3 2 c3, .int .i64 0], v] w2 fun e w' => leN w' w2.heap.size (ledL, 0) e ∧ Below w2.heap.size w2 w') := fun y v w2 hb hR => ledReplay' _ _ _ y v w2 (HCV.out.below hb) hR
    have hkd := HKV.out.below HB1d.out
    have S0 : Hid (V.drew.cell? ⟨gc, 0, none⟩ = some (.int .i64 1) ∧ V.drew.cell? ⟨gc, 1, none⟩ = some (.slice a1 1 c1) ∧ V.drew.cell? ⟨gc, 2, none⟩ = some (.slice a2 1 c2) ∧ V.drew.cell? ⟨gc, 3, none⟩ = some (.slice a3 2 c3) ∧ V.drew.cell? ⟨gc, 4, none⟩ = some (.int .i64 0) ∧ Hid (Below V.heap.size V V.drew)) := ⟨hkd.cell 0, hkd.cell 1, hkd.cell 2, hkd.cell 3, hkd.cell 4, HB1d.out⟩
    have KP : Hid (∀ x y : World, Below x.heap.size x y → (x.cell? ⟨gc, 0, none⟩ = some (.int .i64 1) ∧ x.cell? ⟨gc, 1, none⟩ = some (.slice a1 1 c1) ∧ x.cell? ⟨gc, 2, none⟩ = some (.slice a2 1 c2) ∧ x.cell? ⟨gc, 3, none⟩ = some (.slice a3 2 c3) ∧ x.cell? ⟨gc, 4, none⟩ = some (.int .i64 0) ∧ Hid (Below V.heap.size V x)) → (y.cell? ⟨gc, 0, none⟩ = some (.int .i64 1) ∧ y.cell? ⟨gc, 1, none⟩ = some (.slice a1 1 c1) ∧ y.cell? ⟨gc, 2, none⟩ = some (.slice a2 1 c2) ∧ y.cell? ⟨gc, 3, none⟩ = some (.slice a3 2 c3) ∧ y.cell? ⟨gc, 4, none⟩ = some (.int .i64 0) ∧ Hid (Below V.heap.size V y))) := fun x y hb h => by
      obtain ⟨h1, h2, h3, h4, h5, hB⟩ := h
      have e : ∀ b o v, x.cell? ⟨b, o, none⟩ = some v → y.cell? ⟨b, o, none⟩ = some v := fun b o v hc => (hb.cell (p := ⟨b, o, none⟩) (World.block_lt_of_cell? x _ hc)).trans hc
      exact ⟨e _ _ _ h1, e _ _ _ h2, e _ _ _ h3, e _ _ _ h4, e _ _ _ h5, hB.out.trans (hb.mono hB.out.size)⟩
    have KA : Hid (∀ (x : World) O, Below x.heap.size x (x.alloc O)) := fun x O => (Below.refl _ x).alloc (Nat.le_refl _) O
    have KT : Hid (∀ (x : World) b v0 v1 v2 v3 v4 v5, (x.cell? ⟨gc, 0, none⟩ = some (.int .i64 1) ∧ x.cell? ⟨gc, 1, none⟩ = some (.slice a1 1 c1) ∧ x.cell? ⟨gc, 2, none⟩ = some (.slice a2 1 c2) ∧ x.cell? ⟨gc, 3, none⟩ = some (.slice a3 2 c3) ∧ x.cell? ⟨gc, 4, none⟩ = some (.int .i64 0) ∧ Hid (Below V.heap.size V x)) → gc ≠ b → V.heap.size ≤ b → (((((((x.setCell ⟨b, 0, none⟩ v0).setCell ⟨b, 1, none⟩ v1).setCell ⟨b, 2, none⟩ v2).setCell ⟨b, 3, none⟩ v3).setCell ⟨b, 4, none⟩ v4).setCell ⟨b, 5, none⟩ v5).cell? ⟨gc, 0, none⟩ = some (.int .i64 1) ∧ ((((((x.setCell ⟨b, 0, none⟩ v0).setCell ⟨b, 1, none⟩ v1).setCell ⟨b, 2, none⟩ v2).setCell ⟨b, 3, none⟩ v3).setCell ⟨b, 4, none⟩ v4).setCell ⟨b, 5, none⟩ v5).cell? ⟨gc, 1, none⟩ = some (.slice a1 1 c1) ∧ ((((((x.setCell ⟨b, 0, none⟩ v0).setCell ⟨b, 1, none⟩ v1).setCell ⟨b, 2, none⟩ v2).setCell ⟨b, 3, none⟩ v3).setCell ⟨b, 4, none⟩ v4).setCell ⟨b, 5, none⟩ v5).cell? ⟨gc, 2, none⟩ = some (.slice a2 1 c2) ∧ ((((((x.setCell ⟨b, 0, none⟩ v0).setCell ⟨b, 1, none⟩ v1).setCell ⟨b, 2, none⟩ v2).setCell ⟨b, 3, none⟩ v3).setCell ⟨b, 4, none⟩ v4).setCell ⟨b, 5, none⟩ v5).cell? ⟨gc, 3, none⟩ = some (.slice a3 2 c3) ∧ ((((((x.setCell ⟨b, 0, none⟩ v0).setCell ⟨b, 1, none⟩ v1).setCell ⟨b, 2, none⟩ v2).setCell ⟨b, 3, none⟩ v3).setCell ⟨b, 4, none⟩ v4).setCell ⟨b, 5, none⟩ v5).cell? ⟨gc, 4, none⟩ = some (.int .i64 0) ∧ Hid (Below V.heap.size V ((((((x.setCell ⟨b, 0, none⟩ v0).setCell ⟨b, 1, none⟩ v1).setCell ⟨b, 2, none⟩ v2).setCell ⟨b, 3, none⟩ v3).setCell ⟨b, 4, none⟩ v4).setCell ⟨b, 5, none⟩ v5)))) := fun x b v0 v1 v2 v3 v4 v5 h hg hl => by
      obtain ⟨h1, h2, h3, h4, h5, hB⟩ := h
      have e : ∀ o, ((((((x.setCell ⟨b, 0, none⟩ v0).setCell ⟨b, 1, none⟩ v1).setCell ⟨b, 2, none⟩ v2).setCell ⟨b, 3, none⟩ v3).setCell ⟨b, 4, none⟩ v4).setCell ⟨b, 5, none⟩ v5).cell? ⟨gc, o, none⟩ = x.cell? ⟨gc, o, none⟩ := fun o => by
        iterate 6 rw [World.cell?_setCell_other _ _ _ _ (fun e => hg (by injection e with e1; exact e1.symm))]
      exact ⟨(e 0).trans h1, (e 1).trans h2, (e 2).trans h3, (e 3).trans h4, (e 4).trans h5, (((((hB.out.setCell hl _).setCell hl _).setCell hl _).setCell hl _).setCell hl _).setCell hl _⟩
    have KD : Hid (∀ O, Below V.heap.size V (V.alloc O).drew) := fun O => ((Below.refl _ V).alloc (Nat.le_refl _) O).drew
    have S7 : Hid (V.cell? ⟨gc, 0, none⟩ = some (.int .i64 1) ∧ V.cell? ⟨gc, 1, none⟩ = some (.slice a1 1 c1) ∧ V.cell? ⟨gc, 2, none⟩ = some (.slice a2 1 c2) ∧ V.cell? ⟨gc, 3, none⟩ = some (.slice a3 2 c3) ∧ V.cell? ⟨gc, 4, none⟩ = some (.int .i64 0) ∧ Hid (Below V.heap.size V V)) := ⟨HKV.out.cell 0, HKV.out.cell 1, HKV.out.cell 2, HKV.out.cell 3, HKV.out.cell 4, Below.refl _ _⟩
    have SP : Hid (∀ x : World, (x.cell? ⟨gc, 0, none⟩ = some (.int .i64 1) ∧ x.cell? ⟨gc, 1, none⟩ = some (.slice a1 1 c1) ∧ x.cell? ⟨gc, 2, none⟩ = some (.slice a2 1 c2) ∧ x.cell? ⟨gc, 3, none⟩ = some (.slice a3 2 c3) ∧ x.cell? ⟨gc, 4, none⟩ = some (.int .i64 0) ∧ Hid (Below V.heap.size V x)) → Below V.heap.size V x) := fun x h => h.2.2.2.2.2.out
    have hl4 : ¬ gc = V.heap.size := Nat.ne_of_lt hltc
    have hl5 : V.heap.size ≤ V.heap.size := Nat.le_refl _
    have HZA : Hid (Blk (V.alloc (.cells #[.slice none 0 0, .int .i64 0, .int .i64 0, .bool false, .slice none 0 0, .int .i64 0] 49)).drew V.heap.size #[.slice none 0 0, .int .i64 0, .int .i64 0, .bool false, .slice none 0 0, .int .i64 0] 49) := blk_alloc V _ _
    clear hkd kc0 kc1 kc2 kc3 kc4
    go_wp2_with fail
    go_region_held3 (fun w' => w'.cell? ⟨gc, 0, none⟩ = some (.int .i64 1) ∧ w'.cell? ⟨gc, 1, none⟩ = some (.slice a1 1 c1) ∧ w'.cell? ⟨gc, 2, none⟩ = some (.slice a2 1 c2) ∧ w'.cell? ⟨gc, 3, none⟩ = some (.slice a3 2 c3) ∧ w'.cell? ⟨gc, 4, none⟩ = some (.int .i64 0) ∧ Hid (Below V.heap.size V w')) (first | with_reducible exact HSu.out | with_reducible exact HSz.out | with_reducible exact KT.out _ _ _ _ _ _ _ _ HSz.out hl4 hl5 | with_reducible exact KT.out _ _ _ _ _ _ _ _ HSz.out hl4u hl5u | with_reducible exact KT.out _ _ _ _ _ _ _ _ HSz.out hl4v hl5v | with_reducible exact KP.out _ _ (by assumption) (by assumption) | with_reducible exact S0.out | with_reducible exact KP.out _ _ (KA.out _ _) (by assumption) | with_reducible exact KP.out _ _ (KD.out _) S7.out | with_reducible exact KP.out _ _ (KA.out _ _) HSz.out)
      (first
        | (go_at_call 33; refine (second_any _).mono ?_; rintro e u ⟨⟨y, rfl, hy⟩, hby⟩; have HSu : Hid (u.cell? ⟨gc, 0, none⟩ = some (.int .i64 1) ∧ u.cell? ⟨gc, 1, none⟩ = some (.slice a1 1 c1) ∧ u.cell? ⟨gc, 2, none⟩ = some (.slice a2 1 c2) ∧ u.cell? ⟨gc, 3, none⟩ = some (.slice a3 2 c3) ∧ u.cell? ⟨gc, 4, none⟩ = some (.int .i64 0) ∧ Hid (Below V.heap.size V u)) := KP.out _ _ hby (by assumption); have hVu := SP.out _ HSu.out; have HVu : Hid (Below V.heap.size V u) := hVu; have hl5u : V.heap.size ≤ u.heap.size := hVu.size; have hl4u : ¬ gc = u.heap.size := Nat.ne_of_lt (Nat.lt_of_lt_of_le hltc hl5u); have hl5v : V.heap.size ≤ u.heap.size + 1 := Nat.le_succ_of_le hl5u; have hl4v : ¬ gc = u.heap.size + 1 := Nat.ne_of_lt (Nat.lt_succ_of_lt (Nat.lt_of_lt_of_le hltc hl5u)); have HRa : Hid (RecsAt (u.alloc (.cells #[.int .i64 4, .int .i64 0, .int .i64 0, .int .i64 0, .bool false, .int .i64 2, .slice (some y) 2 2, .int .i64 5, .int .i64 0, .int .i64 0, .int .i64 2, .bool false, .int .i64 0, .slice none 0 0, .int .i64 6, .int .i64 1, .int .i64 1, .int .i64 0, .bool false, .int .i64 0, .slice none 0 0, .int .i64 7, .int .i64 1, .int .i64 1, .int .i64 0, .bool false, .int .i64 0, .slice none 0 0] 34)) (.slice (some ⟨u.heap.size, 0, none⟩) 4 4) (ledP y)) := ledRecs y u hy; have HRb : Hid (RecsAt ((u.alloc (.cells #[.slice none 0 0, .int .i64 0, .int .i64 0, .bool false, .slice none 0 0, .int .i64 0] 49)).alloc (.cells #[.int .i64 4, .int .i64 0, .int .i64 0, .int .i64 0, .bool false, .int .i64 2, .slice (some y) 2 2, .int .i64 5, .int .i64 0, .int .i64 0, .int .i64 2, .bool false, .int .i64 0, .slice none 0 0, .int .i64 6, .int .i64 1, .int .i64 1, .int .i64 0, .bool false, .int .i64 0, .slice none 0 0, .int .i64 7, .int .i64 1, .int .i64 1, .int .i64 0, .bool false, .int .i64 0, .slice none 0 0] 34)) (.slice (some ⟨u.heap.size + 1, 0, none⟩) 4 4) (ledP y)) := (by have := ledRecs y (u.alloc (.cells #[.slice none 0 0, .int .i64 0, .int .i64 0, .bool false, .slice none 0 0, .int .i64 0] 49)) (hy.below ((Below.refl _ _).alloc (Nat.le_refl _) _)); rw [World.size_alloc] at this; exact this); have HRc : Hid (RecsAt ((u.alloc (.cells #[.int .i64 4, .int .i64 0, .int .i64 0, .int .i64 0, .bool false, .int .i64 2, .slice (some y) 2 2, .int .i64 5, .int .i64 0, .int .i64 0, .int .i64 2, .bool false, .int .i64 0, .slice none 0 0, .int .i64 6, .int .i64 1, .int .i64 1, .int .i64 0, .bool false, .int .i64 0, .slice none 0 0, .int .i64 7, .int .i64 1, .int .i64 1, .int .i64 0, .bool false, .int .i64 0, .slice none 0 0] 34)).alloc (.cells #[.slice none 0 0, .int .i64 0, .int .i64 0, .bool false, .slice none 0 0, .int .i64 0] 49)) (.slice (some ⟨u.heap.size, 0, none⟩) 4 4) (ledP y)) := (ledRecs y u hy).below ((Below.refl _ _).alloc (Nat.le_refl _) _); have HSa : Hid (Below V.heap.size V (u.alloc (.cells #[.int .i64 4, .int .i64 0, .int .i64 0, .int .i64 0, .bool false, .int .i64 2, .slice (some y) 2 2, .int .i64 5, .int .i64 0, .int .i64 0, .int .i64 2, .bool false, .int .i64 0, .slice none 0 0, .int .i64 6, .int .i64 1, .int .i64 1, .int .i64 0, .bool false, .int .i64 0, .slice none 0 0, .int .i64 7, .int .i64 1, .int .i64 1, .int .i64 0, .bool false, .int .i64 0, .slice none 0 0] 34))) := hVu.alloc hVu.size _; have HSb : Hid (Below V.heap.size V ((u.alloc (.cells #[.slice none 0 0, .int .i64 0, .int .i64 0, .bool false, .slice none 0 0, .int .i64 0] 49)).alloc (.cells #[.int .i64 4, .int .i64 0, .int .i64 0, .int .i64 0, .bool false, .int .i64 2, .slice (some y) 2 2, .int .i64 5, .int .i64 0, .int .i64 0, .int .i64 2, .bool false, .int .i64 0, .slice none 0 0, .int .i64 6, .int .i64 1, .int .i64 1, .int .i64 0, .bool false, .int .i64 0, .slice none 0 0, .int .i64 7, .int .i64 1, .int .i64 1, .int .i64 0, .bool false, .int .i64 0, .slice none 0 0] 34))) := (hVu.alloc hVu.size _).alloc (hVu.alloc hVu.size _).size _; have HSc : Hid (Below V.heap.size V ((u.alloc (.cells #[.int .i64 4, .int .i64 0, .int .i64 0, .int .i64 0, .bool false, .int .i64 2, .slice (some y) 2 2, .int .i64 5, .int .i64 0, .int .i64 0, .int .i64 2, .bool false, .int .i64 0, .slice none 0 0, .int .i64 6, .int .i64 1, .int .i64 1, .int .i64 0, .bool false, .int .i64 0, .slice none 0 0, .int .i64 7, .int .i64 1, .int .i64 1, .int .i64 0, .bool false, .int .i64 0, .slice none 0 0] 34)).alloc (.cells #[.slice none 0 0, .int .i64 0, .int .i64 0, .bool false, .slice none 0 0, .int .i64 0] 49))) := (hVu.alloc hVu.size _).alloc (hVu.alloc hVu.size _).size _; have HZb : Hid (Blk ((u.alloc (.cells #[.slice none 0 0, .int .i64 0, .int .i64 0, .bool false, .slice none 0 0, .int .i64 0] 49)).alloc (.cells #[.int .i64 4, .int .i64 0, .int .i64 0, .int .i64 0, .bool false, .int .i64 2, .slice (some y) 2 2, .int .i64 5, .int .i64 0, .int .i64 0, .int .i64 2, .bool false, .int .i64 0, .slice none 0 0, .int .i64 6, .int .i64 1, .int .i64 1, .int .i64 0, .bool false, .int .i64 0, .slice none 0 0, .int .i64 7, .int .i64 1, .int .i64 1, .int .i64 0, .bool false, .int .i64 0, .slice none 0 0] 34)) u.heap.size #[.slice none 0 0, .int .i64 0, .int .i64 0, .bool false, .slice none 0 0, .int .i64 0] 49) := (blk_alloc u _ _).al _; have HZc : Hid (Blk ((u.alloc (.cells #[.int .i64 4, .int .i64 0, .int .i64 0, .int .i64 0, .bool false, .int .i64 2, .slice (some y) 2 2, .int .i64 5, .int .i64 0, .int .i64 0, .int .i64 2, .bool false, .int .i64 0, .slice none 0 0, .int .i64 6, .int .i64 1, .int .i64 1, .int .i64 0, .bool false, .int .i64 0, .slice none 0 0, .int .i64 7, .int .i64 1, .int .i64 1, .int .i64 0, .bool false, .int .i64 0, .slice none 0 0] 34)).alloc (.cells #[.slice none 0 0, .int .i64 0, .int .i64 0, .bool false, .slice none 0 0, .int .i64 0] 49)) (u.heap.size + 1) #[.slice none 0 0, .int .i64 0, .int .i64 0, .bool false, .slice none 0 0, .int .i64 0] 49) := (blk_alloc _ _ _).at' (by rw [World.size_alloc]); try (have hza : Blk (u.alloc (.cells #[.int .i64 4, .int .i64 0, .int .i64 0, .int .i64 0, .bool false, .int .i64 2, .slice (some y) 2 2, .int .i64 5, .int .i64 0, .int .i64 0, .int .i64 2, .bool false, .int .i64 0, .slice none 0 0, .int .i64 6, .int .i64 1, .int .i64 1, .int .i64 0, .bool false, .int .i64 0, .slice none 0 0, .int .i64 7, .int .i64 1, .int .i64 1, .int .i64 0, .bool false, .int .i64 0, .slice none 0 0] 34)) V.heap.size #[.slice none 0 0, .int .i64 0, .int .i64 0, .bool false, .slice none 0 0, .int .i64 0] 49 := (by with_reducible exact Blk.al (Blk.below HZA.out hby) _); have HZaa : Hid (Blk (u.alloc (.cells #[.int .i64 4, .int .i64 0, .int .i64 0, .int .i64 0, .bool false, .int .i64 2, .slice (some y) 2 2, .int .i64 5, .int .i64 0, .int .i64 0, .int .i64 2, .bool false, .int .i64 0, .slice none 0 0, .int .i64 6, .int .i64 1, .int .i64 1, .int .i64 0, .bool false, .int .i64 0, .slice none 0 0, .int .i64 7, .int .i64 1, .int .i64 1, .int .i64 0, .bool false, .int .i64 0, .slice none 0 0] 34)) V.heap.size #[.slice none 0 0, .int .i64 0, .int .i64 0, .bool false, .slice none 0 0, .int .i64 0] 49) := hza; clear hza); clear hVu hy)
        | (go_at_call 13; refine (HRP.out y _ _ (by with_reducible first | exact HSa.out | exact HSb.out | exact HSc.out) (by with_reducible first | exact HRa.out | exact HRb.out | exact HRc.out)).mono ?_; rintro e z ⟨⟨Y, Z, rfl, hN⟩, hbz⟩; have HBZ : Hid (Below _ _ z) := hbz; have hVz : Below V.heap.size V z := (by with_reducible first | exact HSa.out.trans (hbz.mono HSa.out.size) | exact HSb.out.trans (hbz.mono HSb.out.size) | exact HSc.out.trans (hbz.mono HSc.out.size)); have HVz : Hid (Below V.heap.size V z) := hVz; have hVuz : Below u.heap.size u z := (by with_reducible first | exact ((KA.out u (.cells #[.int .i64 4, .int .i64 0, .int .i64 0, .int .i64 0, .bool false, .int .i64 2, .slice (some y) 2 2, .int .i64 5, .int .i64 0, .int .i64 0, .int .i64 2, .bool false, .int .i64 0, .slice none 0 0, .int .i64 6, .int .i64 1, .int .i64 1, .int .i64 0, .bool false, .int .i64 0, .slice none 0 0, .int .i64 7, .int .i64 1, .int .i64 1, .int .i64 0, .bool false, .int .i64 0, .slice none 0 0] 34))).trans (hbz.mono (KA.out u (.cells #[.int .i64 4, .int .i64 0, .int .i64 0, .int .i64 0, .bool false, .int .i64 2, .slice (some y) 2 2, .int .i64 5, .int .i64 0, .int .i64 0, .int .i64 2, .bool false, .int .i64 0, .slice none 0 0, .int .i64 6, .int .i64 1, .int .i64 1, .int .i64 0, .bool false, .int .i64 0, .slice none 0 0, .int .i64 7, .int .i64 1, .int .i64 1, .int .i64 0, .bool false, .int .i64 0, .slice none 0 0] 34)).size) | exact ((KA.out u (.cells #[.slice none 0 0, .int .i64 0, .int .i64 0, .bool false, .slice none 0 0, .int .i64 0] 49)).trans ((KA.out _ (.cells #[.int .i64 4, .int .i64 0, .int .i64 0, .int .i64 0, .bool false, .int .i64 2, .slice (some y) 2 2, .int .i64 5, .int .i64 0, .int .i64 0, .int .i64 2, .bool false, .int .i64 0, .slice none 0 0, .int .i64 6, .int .i64 1, .int .i64 1, .int .i64 0, .bool false, .int .i64 0, .slice none 0 0, .int .i64 7, .int .i64 1, .int .i64 1, .int .i64 0, .bool false, .int .i64 0, .slice none 0 0] 34)).mono (KA.out u (.cells #[.slice none 0 0, .int .i64 0, .int .i64 0, .bool false, .slice none 0 0, .int .i64 0] 49)).size)).trans (hbz.mono ((KA.out u (.cells #[.slice none 0 0, .int .i64 0, .int .i64 0, .bool false, .slice none 0 0, .int .i64 0] 49)).trans ((KA.out _ (.cells #[.int .i64 4, .int .i64 0, .int .i64 0, .int .i64 0, .bool false, .int .i64 2, .slice (some y) 2 2, .int .i64 5, .int .i64 0, .int .i64 0, .int .i64 2, .bool false, .int .i64 0, .slice none 0 0, .int .i64 6, .int .i64 1, .int .i64 1, .int .i64 0, .bool false, .int .i64 0, .slice none 0 0, .int .i64 7, .int .i64 1, .int .i64 1, .int .i64 0, .bool false, .int .i64 0, .slice none 0 0] 34)).mono (KA.out u (.cells #[.slice none 0 0, .int .i64 0, .int .i64 0, .bool false, .slice none 0 0, .int .i64 0] 49)).size)).size) | exact ((KA.out u (.cells #[.int .i64 4, .int .i64 0, .int .i64 0, .int .i64 0, .bool false, .int .i64 2, .slice (some y) 2 2, .int .i64 5, .int .i64 0, .int .i64 0, .int .i64 2, .bool false, .int .i64 0, .slice none 0 0, .int .i64 6, .int .i64 1, .int .i64 1, .int .i64 0, .bool false, .int .i64 0, .slice none 0 0, .int .i64 7, .int .i64 1, .int .i64 1, .int .i64 0, .bool false, .int .i64 0, .slice none 0 0] 34)).trans ((KA.out _ (.cells #[.slice none 0 0, .int .i64 0, .int .i64 0, .bool false, .slice none 0 0, .int .i64 0] 49)).mono (KA.out u (.cells #[.int .i64 4, .int .i64 0, .int .i64 0, .int .i64 0, .bool false, .int .i64 2, .slice (some y) 2 2, .int .i64 5, .int .i64 0, .int .i64 0, .int .i64 2, .bool false, .int .i64 0, .slice none 0 0, .int .i64 6, .int .i64 1, .int .i64 1, .int .i64 0, .bool false, .int .i64 0, .slice none 0 0, .int .i64 7, .int .i64 1, .int .i64 1, .int .i64 0, .bool false, .int .i64 0, .slice none 0 0] 34)).size)).trans (hbz.mono ((KA.out u (.cells #[.int .i64 4, .int .i64 0, .int .i64 0, .int .i64 0, .bool false, .int .i64 2, .slice (some y) 2 2, .int .i64 5, .int .i64 0, .int .i64 0, .int .i64 2, .bool false, .int .i64 0, .slice none 0 0, .int .i64 6, .int .i64 1, .int .i64 1, .int .i64 0, .bool false, .int .i64 0, .slice none 0 0, .int .i64 7, .int .i64 1, .int .i64 1, .int .i64 0, .bool false, .int .i64 0, .slice none 0 0] 34)).trans ((KA.out _ (.cells #[.slice none 0 0, .int .i64 0, .int .i64 0, .bool false, .slice none 0 0, .int .i64 0] 49)).mono (KA.out u (.cells #[.int .i64 4, .int .i64 0, .int .i64 0, .int .i64 0, .bool false, .int .i64 2, .slice (some y) 2 2, .int .i64 5, .int .i64 0, .int .i64 0, .int .i64 2, .bool false, .int .i64 0, .slice none 0 0, .int .i64 6, .int .i64 1, .int .i64 1, .int .i64 0, .bool false, .int .i64 0, .slice none 0 0, .int .i64 7, .int .i64 1, .int .i64 1, .int .i64 0, .bool false, .int .i64 0, .slice none 0 0] 34)).size)).size)); have HSz : Hid (z.cell? ⟨gc, 0, none⟩ = some (.int .i64 1) ∧ z.cell? ⟨gc, 1, none⟩ = some (.slice a1 1 c1) ∧ z.cell? ⟨gc, 2, none⟩ = some (.slice a2 1 c2) ∧ z.cell? ⟨gc, 3, none⟩ = some (.slice a3 2 c3) ∧ z.cell? ⟨gc, 4, none⟩ = some (.int .i64 0) ∧ Hid (Below V.heap.size V z)) := KP.out _ _ hVuz HSu.out; clear hVz hVuz; have hld := hN.here; obtain ⟨a4, c4, rfl⟩ := relA_slice hld.1; obtain ⟨a5, c5, rfl⟩ := knows_slice hld.2; have HNW : Hid (New _ (fun w => LdAt w ledL (.slice a4 2 c4) (.slice a5 3 c5)) z) := hN; have ev2 : leV ledL (.slice a4 ledL.rels.length c4) (.slice a5 ledL.ags.length c5) = .agg #[.slice a4 2 c4, .int .i64 1, .int .i64 2, .bool false, .slice a5 3 c5, .int .i64 2] := rfl; simp only [ev2]; (first | (have hzz : Blk z V.heap.size #[.slice none 0 0, .int .i64 0, .int .i64 0, .bool false, .slice none 0 0, .int .i64 0] 49 := (by with_reducible exact Blk.below HZaa.out hbz); have HZZ : Hid (Blk z V.heap.size #[.slice none 0 0, .int .i64 0, .int .i64 0, .bool false, .slice none 0 0, .int .i64 0] 49) := hzz; have z0 := hzz.cell 0; have z1 := hzz.cell 1; have z2 := hzz.cell 2; have z3 := hzz.cell 3; have z4 := hzz.cell 4; have z5 := hzz.cell 5; simp only [List.getElem?_toArray, List.getElem?_cons_zero, List.getElem?_cons_succ] at z0 z1 z2 z3 z4 z5; have zf0 := hzz.free 0; have zf1 := hzz.free 1; have zf2 := hzz.free 2; have zf3 := hzz.free 3; have zf4 := hzz.free 4; have zf5 := hzz.free 5; clear hzz) | (have hzz : Blk z u.heap.size #[.slice none 0 0, .int .i64 0, .int .i64 0, .bool false, .slice none 0 0, .int .i64 0] 49 := (by with_reducible exact Blk.below HZb.out hbz); have HZZ : Hid (Blk z u.heap.size #[.slice none 0 0, .int .i64 0, .int .i64 0, .bool false, .slice none 0 0, .int .i64 0] 49) := hzz; have z0 := hzz.cell 0; have z1 := hzz.cell 1; have z2 := hzz.cell 2; have z3 := hzz.cell 3; have z4 := hzz.cell 4; have z5 := hzz.cell 5; simp only [List.getElem?_toArray, List.getElem?_cons_zero, List.getElem?_cons_succ] at z0 z1 z2 z3 z4 z5; have zf0 := hzz.free 0; have zf1 := hzz.free 1; have zf2 := hzz.free 2; have zf3 := hzz.free 3; have zf4 := hzz.free 4; have zf5 := hzz.free 5; clear hzz) | (have hzz : Blk z (u.heap.size + 1) #[.slice none 0 0, .int .i64 0, .int .i64 0, .bool false, .slice none 0 0, .int .i64 0] 49 := (by with_reducible exact Blk.below HZc.out hbz); have HZZ : Hid (Blk z (u.heap.size + 1) #[.slice none 0 0, .int .i64 0, .int .i64 0, .bool false, .slice none 0 0, .int .i64 0] 49) := hzz; have z0 := hzz.cell 0; have z1 := hzz.cell 1; have z2 := hzz.cell 2; have z3 := hzz.cell 3; have z4 := hzz.cell 4; have z5 := hzz.cell 5; simp only [List.getElem?_toArray, List.getElem?_cons_zero, List.getElem?_cons_succ] at z0 z1 z2 z3 z4 z5; have zf0 := hzz.free 0; have zf1 := hzz.free 1; have zf2 := hzz.free 2; have zf3 := hzz.free 3; have zf4 := hzz.free 4; have zf5 := hzz.free 5; clear hzz) | skip); clear hld hN))
    · go_wp2_with fail
      go_meet
      refine ⟨z.heap.size, a4, a5, c4, c5, rfl, rfl, ?_, ?_, ?_⟩
      · exact blk_alloc z _ _
      · exact HNW.out.here.below (KA.out z _)
      · exact HVz.out.alloc HVz.out.size _
    · go_wp2_with fail
      go_meet
      refine ⟨u.heap.size + 1, a4, a5, c4, c5, rfl, rfl, ?_, ?_, ?_⟩
      · exact (((((HZZ.out.put 0 _).put 1 _).put 2 _).put 3 _).put 4 _).put 5 _
      · exact (Keep.set (Keep.set (Keep.set (Keep.set (Keep.set (Keep.set HNW.out (a := ⟨u.heap.size + 1, 0, none⟩) (show u.heap.size + 1 < _ from by rw [World.size_alloc, World.size_alloc]; exact Nat.lt_succ_self _) _) (a := ⟨u.heap.size + 1, 1, none⟩) (show u.heap.size + 1 < _ from by rw [World.size_alloc, World.size_alloc]; exact Nat.lt_succ_self _) _) (a := ⟨u.heap.size + 1, 2, none⟩) (show u.heap.size + 1 < _ from by rw [World.size_alloc, World.size_alloc]; exact Nat.lt_succ_self _) _) (a := ⟨u.heap.size + 1, 3, none⟩) (show u.heap.size + 1 < _ from by rw [World.size_alloc, World.size_alloc]; exact Nat.lt_succ_self _) _) (a := ⟨u.heap.size + 1, 4, none⟩) (show u.heap.size + 1 < _ from by rw [World.size_alloc, World.size_alloc]; exact Nat.lt_succ_self _) _) (a := ⟨u.heap.size + 1, 5, none⟩) (show u.heap.size + 1 < _ from by rw [World.size_alloc, World.size_alloc]; exact Nat.lt_succ_self _) _).here
      · exact (((((HVz.out.setCell hl5v _).setCell hl5v _).setCell hl5v _).setCell hl5v _).setCell hl5v _).setCell hl5v _
    · go_wp2_with fail
      go_meet
      refine ⟨u.heap.size, a4, a5, c4, c5, rfl, rfl, ?_, ?_, ?_⟩
      · exact (((((HZZ.out.put 0 _).put 1 _).put 2 _).put 3 _).put 4 _).put 5 _
      · exact (Keep.set (Keep.set (Keep.set (Keep.set (Keep.set (Keep.set HNW.out (a := ⟨u.heap.size, 0, none⟩) (show u.heap.size < _ from by rw [World.size_alloc, World.size_alloc]; exact Nat.lt_succ_of_lt (Nat.lt_succ_self _)) _) (a := ⟨u.heap.size, 1, none⟩) (show u.heap.size < _ from by rw [World.size_alloc, World.size_alloc]; exact Nat.lt_succ_of_lt (Nat.lt_succ_self _)) _) (a := ⟨u.heap.size, 2, none⟩) (show u.heap.size < _ from by rw [World.size_alloc, World.size_alloc]; exact Nat.lt_succ_of_lt (Nat.lt_succ_self _)) _) (a := ⟨u.heap.size, 3, none⟩) (show u.heap.size < _ from by rw [World.size_alloc, World.size_alloc]; exact Nat.lt_succ_of_lt (Nat.lt_succ_self _)) _) (a := ⟨u.heap.size, 4, none⟩) (show u.heap.size < _ from by rw [World.size_alloc, World.size_alloc]; exact Nat.lt_succ_of_lt (Nat.lt_succ_self _)) _) (a := ⟨u.heap.size, 5, none⟩) (show u.heap.size < _ from by rw [World.size_alloc, World.size_alloc]; exact Nat.lt_succ_of_lt (Nat.lt_succ_self _)) _).here
      · exact (((((HVz.out.setCell hl5u _).setCell hl5u _).setCell hl5u _).setCell hl5u _).setCell hl5u _).setCell hl5u _
    · go_wp2_with fail
      go_meet
      refine ⟨V.heap.size, a4, a5, c4, c5, rfl, rfl, ?_, ?_, ?_⟩
      · exact (((((HZZ.out.put 0 _).put 1 _).put 2 _).put 3 _).put 4 _).put 5 _
      · exact (Keep.set (Keep.set (Keep.set (Keep.set (Keep.set (Keep.set HNW.out (a := ⟨V.heap.size, 0, none⟩) (show V.heap.size < _ from by rw [World.size_alloc]; exact Nat.lt_succ_of_le hl5u) _) (a := ⟨V.heap.size, 1, none⟩) (show V.heap.size < _ from by rw [World.size_alloc]; exact Nat.lt_succ_of_le hl5u) _) (a := ⟨V.heap.size, 2, none⟩) (show V.heap.size < _ from by rw [World.size_alloc]; exact Nat.lt_succ_of_le hl5u) _) (a := ⟨V.heap.size, 3, none⟩) (show V.heap.size < _ from by rw [World.size_alloc]; exact Nat.lt_succ_of_le hl5u) _) (a := ⟨V.heap.size, 4, none⟩) (show V.heap.size < _ from by rw [World.size_alloc]; exact Nat.lt_succ_of_le hl5u) _) (a := ⟨V.heap.size, 5, none⟩) (show V.heap.size < _ from by rw [World.size_alloc]; exact Nat.lt_succ_of_le hl5u) _).here
      · exact (((((HVz.out.setCell hl5 _).setCell hl5 _).setCell hl5 _).setCell hl5 _).setCell hl5 _).setCell hl5 _
  case rest =>
    obtain ⟨g2, a4, a5, c4, c5, rfl, rfl, HL0, HD0, HBc⟩ := hcut
    have HC0 : Hid (Blk wc gc #[.int .i64 1, .slice a1 1 c1, .slice a2 1 c2, .slice a3 2 c3, .int .i64 0] 45) := HKV.out.below HBc.out
    have HF0 : Hid (CfAt wc smallC (.slice a1 1 c1) (.slice a2 1 c2) (.slice a3 2 c3)) := HCV.out.below HBc.out
    have HW0 : Hid (Below w.heap.size w wc) := HBV.out.trans (HBc.out.mono HBV.out.size)
    clear HBV HKV HCV HBc
    have k0 := HC0.out.cell 0
    have k1 := HC0.out.cell 1
    have k2 := HC0.out.cell 2
    have k3 := HC0.out.cell 3
    have k4 := HC0.out.cell 4
    simp only [List.getElem?_toArray, List.getElem?_cons_zero, List.getElem?_cons_succ] at k0 k1 k2 k3 k4
    have l0 := HL0.out.cell 0
    have l1 := HL0.out.cell 1
    have l2 := HL0.out.cell 2
    have l3 := HL0.out.cell 3
    have l4 := HL0.out.cell 4
    have l5 := HL0.out.cell 5
    simp only [List.getElem?_toArray, List.getElem?_cons_zero, List.getElem?_cons_succ] at l0 l1 l2 l3 l4 l5
    have hCon := ldTurn_any smallC (.slice a1 1 c1) (.slice a2 1 c2) (.slice a3 2 c3) ledL (.slice a4 2 c4) (.slice a5 3 c5) 0 _ HF0.out HD0.out
    rw [led_turn] at hCon
    go_wp2_with fail
    refine hCon.mono ?_
    rintro e x0 ⟨⟨y0, rfl, hy0⟩, hb0⟩
    obtain ⟨ya0, yc0, rfl⟩ := pins_slice hy0
    simp only [List.length_cons, List.length_nil, Nat.zero_add, Nat.reduceAdd]
    clear hCon
    clear k0 k1 k2 k3 k4 l0 l1 l2 l3 l4 l5
    have hx0 := box1 x0 #[.int .i64 2, .slice ya0 2 yc0] 24
    have hb0x := hb0.trans (hx0.1.mono hb0.size)
    have HY0 : Hid (Blk (x0.alloc (.cells #[.int .i64 2, .slice ya0 2 yc0] 24)) x0.heap.size #[.int .i64 2, .slice ya0 2 yc0] 24) := hx0.2
    have HC1 : Hid (Blk (x0.alloc (.cells #[.int .i64 2, .slice ya0 2 yc0] 24)) gc #[.int .i64 1, .slice a1 1 c1, .slice a2 1 c2, .slice a3 2 c3, .int .i64 0] 45) := HC0.out.below hb0x
    have HL1 : Hid (Blk (x0.alloc (.cells #[.int .i64 2, .slice ya0 2 yc0] 24)) g2 #[.slice a4 2 c4, .int .i64 1, .int .i64 2, .bool false, .slice a5 3 c5, .int .i64 2] 49) := HL0.out.below hb0x
    have HD1 : Hid (LdAt (x0.alloc (.cells #[.int .i64 2, .slice ya0 2 yc0] 24)) ledL (.slice a4 2 c4) (.slice a5 3 c5)) := HD0.out.below hb0x
    have HF1 : Hid (CfAt (x0.alloc (.cells #[.int .i64 2, .slice ya0 2 yc0] 24)) smallC (.slice a1 1 c1) (.slice a2 1 c2) (.slice a3 2 c3)) := HF0.out.below hb0x
    have HW1 : Hid (Below w.heap.size w (x0.alloc (.cells #[.int .i64 2, .slice ya0 2 yc0] 24))) := HW0.out.trans (hb0x.mono HW0.out.size)
    clear HC0 HL0 HD0 HF0 HW0
    clear hx0 hb0 hb0x hy0
    have HP1 := HY0
    clear HY0
    have k0 := HC1.out.cell 0
    have k1 := HC1.out.cell 1
    have k2 := HC1.out.cell 2
    have k3 := HC1.out.cell 3
    have k4 := HC1.out.cell 4
    simp only [List.getElem?_toArray, List.getElem?_cons_zero, List.getElem?_cons_succ] at k0 k1 k2 k3 k4
    have l0 := HL1.out.cell 0
    have l1 := HL1.out.cell 1
    have l2 := HL1.out.cell 2
    have l3 := HL1.out.cell 3
    have l4 := HL1.out.cell 4
    have l5 := HL1.out.cell 5
    simp only [List.getElem?_toArray, List.getElem?_cons_zero, List.getElem?_cons_succ] at l0 l1 l2 l3 l4 l5
    have hCon := ledNext (.slice a1 1 c1) (.slice a2 1 c2) (.slice a3 2 c3) (.slice a4 2 c4) (.slice a5 3 c5) (.slice none 0 0) 6 0 2 0 0 [] _ _ HF1.out HD1.out (pins_none _) led_send
    go_wp2_with fail
    refine hCon.mono ?_
    rintro e x1 ⟨⟨Y1, Z1, rfl, hN1⟩, hb1⟩
    have hld1 := hN1.here
    obtain ⟨n4, en4, rfl⟩ := relA_slice hld1.1
    obtain ⟨n5, en5, rfl⟩ := knows_slice hld1.2
    have ev1 : leV Ld.Leader.none (.slice n4 (Ld.Leader.none).rels.length en4) (.slice n5 (Ld.Leader.none).ags.length en5) = .agg #[.slice n4 0 en4, .int .i64 0, .int .i64 0, .bool false, .slice n5 0 en5, .int .i64 0] := rfl
    simp only [ev1]
    clear ev1 hN1
    clear hCon
    clear k0 k1 k2 k3 k4 l0 l1 l2 l3 l4 l5
    have hx1 := box1 x1 #[.slice n4 0 en4, .int .i64 0, .int .i64 0, .bool false, .slice n5 0 en5, .int .i64 0] 49
    have hb1x := hb1.trans (hx1.1.mono hb1.size)
    have HC2 : Hid (Blk (x1.alloc (.cells #[.slice n4 0 en4, .int .i64 0, .int .i64 0, .bool false, .slice n5 0 en5, .int .i64 0] 49)) gc #[.int .i64 1, .slice a1 1 c1, .slice a2 1 c2, .slice a3 2 c3, .int .i64 0] 45) := HC1.out.below hb1x
    have HL2 : Hid (Blk (x1.alloc (.cells #[.slice n4 0 en4, .int .i64 0, .int .i64 0, .bool false, .slice n5 0 en5, .int .i64 0] 49)) g2 #[.slice a4 2 c4, .int .i64 1, .int .i64 2, .bool false, .slice a5 3 c5, .int .i64 2] 49) := HL1.out.below hb1x
    have HP2 : Hid (Blk (x1.alloc (.cells #[.slice n4 0 en4, .int .i64 0, .int .i64 0, .bool false, .slice n5 0 en5, .int .i64 0] 49)) x0.heap.size #[.int .i64 2, .slice ya0 2 yc0] 24) := HP1.out.below hb1x
    have HD2 : Hid (LdAt (x1.alloc (.cells #[.slice n4 0 en4, .int .i64 0, .int .i64 0, .bool false, .slice n5 0 en5, .int .i64 0] 49)) ledL (.slice a4 2 c4) (.slice a5 3 c5)) := HD1.out.below hb1x
    have HF2 : Hid (CfAt (x1.alloc (.cells #[.slice n4 0 en4, .int .i64 0, .int .i64 0, .bool false, .slice n5 0 en5, .int .i64 0] 49)) smallC (.slice a1 1 c1) (.slice a2 1 c2) (.slice a3 2 c3)) := HF1.out.below hb1x
    have HW2 : Hid (Below w.heap.size w (x1.alloc (.cells #[.slice n4 0 en4, .int .i64 0, .int .i64 0, .bool false, .slice n5 0 en5, .int .i64 0] 49))) := HW1.out.trans (hb1x.mono HW1.out.size)
    clear HC1 HL1 HP1 HD1 HF1 HW1
    clear hx1 hb1 hb1x hld1
    have k0 := HC2.out.cell 0
    have k1 := HC2.out.cell 1
    have k2 := HC2.out.cell 2
    have k3 := HC2.out.cell 3
    have k4 := HC2.out.cell 4
    simp only [List.getElem?_toArray, List.getElem?_cons_zero, List.getElem?_cons_succ] at k0 k1 k2 k3 k4
    have l0 := HL2.out.cell 0
    have l1 := HL2.out.cell 1
    have l2 := HL2.out.cell 2
    have l3 := HL2.out.cell 3
    have l4 := HL2.out.cell 4
    have l5 := HL2.out.cell 5
    simp only [List.getElem?_toArray, List.getElem?_cons_zero, List.getElem?_cons_succ] at l0 l1 l2 l3 l4 l5
    have hCon := ledNext (.slice a1 1 c1) (.slice a2 1 c2) (.slice a3 2 c3) (.slice a4 2 c4) (.slice a5 3 c5) (.slice none 0 0) 8 0 0 0 0 [] _ _ HF2.out HD2.out (pins_none _) led_back
    go_wp2_with fail
    refine hCon.mono ?_
    rintro e x2 ⟨⟨Y2, Z2, rfl, hN2⟩, hb2⟩
    have hld2 := hN2.here
    obtain ⟨b4, eb4, rfl⟩ := relA_slice hld2.1
    obtain ⟨b5, eb5, rfl⟩ := knows_slice hld2.2
    have ev2 : leV ledB (.slice b4 (ledB).rels.length eb4) (.slice b5 (ledB).ags.length eb5) = .agg #[.slice b4 2 eb4, .int .i64 1, .int .i64 2, .bool true, .slice b5 3 eb5, .int .i64 2] := rfl
    simp only [ev2]
    clear ev2 hN2
    clear hCon
    clear k0 k1 k2 k3 k4 l0 l1 l2 l3 l4 l5
    have hx2 := box1 x2 #[.slice b4 2 eb4, .int .i64 1, .int .i64 2, .bool true, .slice b5 3 eb5, .int .i64 2] 49
    have hb2x := hb2.trans (hx2.1.mono hb2.size)
    have HY2 : Hid (Blk (x2.alloc (.cells #[.slice b4 2 eb4, .int .i64 1, .int .i64 2, .bool true, .slice b5 3 eb5, .int .i64 2] 49)) x2.heap.size #[.slice b4 2 eb4, .int .i64 1, .int .i64 2, .bool true, .slice b5 3 eb5, .int .i64 2] 49) := hx2.2
    have HG2 : Hid (LdAt (x2.alloc (.cells #[.slice b4 2 eb4, .int .i64 1, .int .i64 2, .bool true, .slice b5 3 eb5, .int .i64 2] 49)) ledB (.slice b4 2 eb4) (.slice b5 3 eb5)) := hld2.below hx2.1
    have HC3 : Hid (Blk (x2.alloc (.cells #[.slice b4 2 eb4, .int .i64 1, .int .i64 2, .bool true, .slice b5 3 eb5, .int .i64 2] 49)) gc #[.int .i64 1, .slice a1 1 c1, .slice a2 1 c2, .slice a3 2 c3, .int .i64 0] 45) := HC2.out.below hb2x
    have HL3 : Hid (Blk (x2.alloc (.cells #[.slice b4 2 eb4, .int .i64 1, .int .i64 2, .bool true, .slice b5 3 eb5, .int .i64 2] 49)) g2 #[.slice a4 2 c4, .int .i64 1, .int .i64 2, .bool false, .slice a5 3 c5, .int .i64 2] 49) := HL2.out.below hb2x
    have HP3 : Hid (Blk (x2.alloc (.cells #[.slice b4 2 eb4, .int .i64 1, .int .i64 2, .bool true, .slice b5 3 eb5, .int .i64 2] 49)) x0.heap.size #[.int .i64 2, .slice ya0 2 yc0] 24) := HP2.out.below hb2x
    have HD3 : Hid (LdAt (x2.alloc (.cells #[.slice b4 2 eb4, .int .i64 1, .int .i64 2, .bool true, .slice b5 3 eb5, .int .i64 2] 49)) ledL (.slice a4 2 c4) (.slice a5 3 c5)) := HD2.out.below hb2x
    have HF3 : Hid (CfAt (x2.alloc (.cells #[.slice b4 2 eb4, .int .i64 1, .int .i64 2, .bool true, .slice b5 3 eb5, .int .i64 2] 49)) smallC (.slice a1 1 c1) (.slice a2 1 c2) (.slice a3 2 c3)) := HF2.out.below hb2x
    have HW3 : Hid (Below w.heap.size w (x2.alloc (.cells #[.slice b4 2 eb4, .int .i64 1, .int .i64 2, .bool true, .slice b5 3 eb5, .int .i64 2] 49))) := HW2.out.trans (hb2x.mono HW2.out.size)
    clear HC2 HL2 HP2 HD2 HF2 HW2
    clear hx2 hb2 hb2x hld2
    have HB3 := HY2
    clear HY2
    have HE3 := HG2
    clear HG2
    have k0 := HC3.out.cell 0
    have k1 := HC3.out.cell 1
    have k2 := HC3.out.cell 2
    have k3 := HC3.out.cell 3
    have k4 := HC3.out.cell 4
    simp only [List.getElem?_toArray, List.getElem?_cons_zero, List.getElem?_cons_succ] at k0 k1 k2 k3 k4
    have bb0 := HB3.out.cell 0
    have bb1 := HB3.out.cell 1
    have bb2 := HB3.out.cell 2
    have bb3 := HB3.out.cell 3
    have bb4 := HB3.out.cell 4
    have bb5 := HB3.out.cell 5
    simp only [List.getElem?_toArray, List.getElem?_cons_zero, List.getElem?_cons_succ] at bb0 bb1 bb2 bb3 bb4 bb5
    have hCon := ldTurn_any smallC (.slice a1 1 c1) (.slice a2 1 c2) (.slice a3 2 c3) ledB (.slice b4 2 eb4) (.slice b5 3 eb5) 1 _ HF3.out HE3.out
    rw [led_turn2] at hCon
    go_wp2_with fail
    refine hCon.mono ?_
    rintro e x3 ⟨⟨y3, rfl, hy3⟩, hb3⟩
    obtain ⟨ya3, yc3, rfl⟩ := pins_slice hy3
    simp only [List.length_cons, List.length_nil, Nat.zero_add]
    clear hCon
    clear k0 k1 k2 k3 k4 bb0 bb1 bb2 bb3 bb4 bb5
    have hx3 := box1 x3 #[.int .i64 1, .slice ya3 1 yc3] 24
    have hb3x := hb3.trans (hx3.1.mono hb3.size)
    have HY3 : Hid (Blk (x3.alloc (.cells #[.int .i64 1, .slice ya3 1 yc3] 24)) x3.heap.size #[.int .i64 1, .slice ya3 1 yc3] 24) := hx3.2
    have HC4 : Hid (Blk (x3.alloc (.cells #[.int .i64 1, .slice ya3 1 yc3] 24)) gc #[.int .i64 1, .slice a1 1 c1, .slice a2 1 c2, .slice a3 2 c3, .int .i64 0] 45) := HC3.out.below hb3x
    have HL4 : Hid (Blk (x3.alloc (.cells #[.int .i64 1, .slice ya3 1 yc3] 24)) g2 #[.slice a4 2 c4, .int .i64 1, .int .i64 2, .bool false, .slice a5 3 c5, .int .i64 2] 49) := HL3.out.below hb3x
    have HP4 : Hid (Blk (x3.alloc (.cells #[.int .i64 1, .slice ya3 1 yc3] 24)) x0.heap.size #[.int .i64 2, .slice ya0 2 yc0] 24) := HP3.out.below hb3x
    have HB4 : Hid (Blk (x3.alloc (.cells #[.int .i64 1, .slice ya3 1 yc3] 24)) x2.heap.size #[.slice b4 2 eb4, .int .i64 1, .int .i64 2, .bool true, .slice b5 3 eb5, .int .i64 2] 49) := HB3.out.below hb3x
    have HD4 : Hid (LdAt (x3.alloc (.cells #[.int .i64 1, .slice ya3 1 yc3] 24)) ledL (.slice a4 2 c4) (.slice a5 3 c5)) := HD3.out.below hb3x
    have HF4 : Hid (CfAt (x3.alloc (.cells #[.int .i64 1, .slice ya3 1 yc3] 24)) smallC (.slice a1 1 c1) (.slice a2 1 c2) (.slice a3 2 c3)) := HF3.out.below hb3x
    have HE4 : Hid (LdAt (x3.alloc (.cells #[.int .i64 1, .slice ya3 1 yc3] 24)) ledB (.slice b4 2 eb4) (.slice b5 3 eb5)) := HE3.out.below hb3x
    have HW4 : Hid (Below w.heap.size w (x3.alloc (.cells #[.int .i64 1, .slice ya3 1 yc3] 24))) := HW3.out.trans (hb3x.mono HW3.out.size)
    clear HC3 HL3 HP3 HB3 HD3 HF3 HE3 HW3
    clear hx3 hb3 hb3x hy3
    have HQ4 := HY3
    clear HY3
    have k0 := HC4.out.cell 0
    have k1 := HC4.out.cell 1
    have k2 := HC4.out.cell 2
    have k3 := HC4.out.cell 3
    have k4 := HC4.out.cell 4
    simp only [List.getElem?_toArray, List.getElem?_cons_zero, List.getElem?_cons_succ] at k0 k1 k2 k3 k4
    have bb0 := HB4.out.cell 0
    have bb1 := HB4.out.cell 1
    have bb2 := HB4.out.cell 2
    have bb3 := HB4.out.cell 3
    have bb4 := HB4.out.cell 4
    have bb5 := HB4.out.cell 5
    simp only [List.getElem?_toArray, List.getElem?_cons_zero, List.getElem?_cons_succ] at bb0 bb1 bb2 bb3 bb4 bb5
    have hCon := ldOver_any smallC (.slice a1 1 c1) (.slice a2 1 c2) (.slice a3 2 c3) ledB (.slice b4 2 eb4) (.slice b5 3 eb5) _ HF4.out HE4.out
    rw [led_over] at hCon
    go_wp2_with fail
    refine hCon.mono ?_
    rintro e x4 ⟨rfl, hb4⟩
    clear hCon
    clear k0 k1 k2 k3 k4 bb0 bb1 bb2 bb3 bb4 bb5
    have HC5 : Hid (Blk x4 gc #[.int .i64 1, .slice a1 1 c1, .slice a2 1 c2, .slice a3 2 c3, .int .i64 0] 45) := HC4.out.below hb4
    have HL5 : Hid (Blk x4 g2 #[.slice a4 2 c4, .int .i64 1, .int .i64 2, .bool false, .slice a5 3 c5, .int .i64 2] 49) := HL4.out.below hb4
    have HP5 : Hid (Blk x4 x0.heap.size #[.int .i64 2, .slice ya0 2 yc0] 24) := HP4.out.below hb4
    have HB5 : Hid (Blk x4 x2.heap.size #[.slice b4 2 eb4, .int .i64 1, .int .i64 2, .bool true, .slice b5 3 eb5, .int .i64 2] 49) := HB4.out.below hb4
    have HQ5 : Hid (Blk x4 x3.heap.size #[.int .i64 1, .slice ya3 1 yc3] 24) := HQ4.out.below hb4
    have HD5 : Hid (LdAt x4 ledL (.slice a4 2 c4) (.slice a5 3 c5)) := HD4.out.below hb4
    have HF5 : Hid (CfAt x4 smallC (.slice a1 1 c1) (.slice a2 1 c2) (.slice a3 2 c3)) := HF4.out.below hb4
    have HE5 : Hid (LdAt x4 ledB (.slice b4 2 eb4) (.slice b5 3 eb5)) := HE4.out.below hb4
    have HW5 : Hid (Below w.heap.size w x4) := HW4.out.trans (hb4.mono HW4.out.size)
    clear HC4 HL4 HP4 HB4 HQ4 HD4 HF4 HE4 HW4
    clear hb4
    have k0 := HC5.out.cell 0
    have k1 := HC5.out.cell 1
    have k2 := HC5.out.cell 2
    have k3 := HC5.out.cell 3
    have k4 := HC5.out.cell 4
    simp only [List.getElem?_toArray, List.getElem?_cons_zero, List.getElem?_cons_succ] at k0 k1 k2 k3 k4
    have l0 := HL5.out.cell 0
    have l1 := HL5.out.cell 1
    have l2 := HL5.out.cell 2
    have l3 := HL5.out.cell 3
    have l4 := HL5.out.cell 4
    have l5 := HL5.out.cell 5
    simp only [List.getElem?_toArray, List.getElem?_cons_zero, List.getElem?_cons_succ] at l0 l1 l2 l3 l4 l5
    have hxp := box1 x4 #[.int .i64 1, .int .i64 2] 57
    have hCon := ledNext (.slice a1 1 c1) (.slice a2 1 c2) (.slice a3 2 c3) (.slice a4 2 c4) (.slice a5 3 c5) (.slice (some ⟨x4.heap.size, 0, none⟩) 1 1) 4 0 0 0 3 [(1, 2)] _ _ (HF5.out.below hxp.1) (HD5.out.below hxp.1) (pins_blk (l := [(1, 2)]) hxp.2 (by simp)) led_pub
    go_wp2_with fail
    refine hCon.mono ?_
    rintro e x5 ⟨⟨Y5, Z5, rfl, hN5⟩, hb5⟩
    have hld5 := hN5.here
    obtain ⟨m4, em4, rfl⟩ := relA_slice hld5.1
    obtain ⟨m5, em5, rfl⟩ := knows_slice hld5.2
    have ev5 : leV Ld.Leader.none (.slice m4 (Ld.Leader.none).rels.length em4) (.slice m5 (Ld.Leader.none).ags.length em5) = .agg #[.slice m4 0 em4, .int .i64 0, .int .i64 0, .bool false, .slice m5 0 em5, .int .i64 0] := rfl
    simp only [ev5]
    clear ev5 hN5
    clear hCon
    clear k0 k1 k2 k3 k4 l0 l1 l2 l3 l4 l5
    have hx5 := box1 x5 #[.slice m4 0 em4, .int .i64 0, .int .i64 0, .bool false, .slice m5 0 em5, .int .i64 0] 49
    have hb5p := hxp.1.trans (hb5.mono hxp.1.size)
    have hb5x := hb5p.trans (hx5.1.mono hb5p.size)
    have HC6 : Hid (Blk (x5.alloc (.cells #[.slice m4 0 em4, .int .i64 0, .int .i64 0, .bool false, .slice m5 0 em5, .int .i64 0] 49)) gc #[.int .i64 1, .slice a1 1 c1, .slice a2 1 c2, .slice a3 2 c3, .int .i64 0] 45) := HC5.out.below hb5x
    have HL6 : Hid (Blk (x5.alloc (.cells #[.slice m4 0 em4, .int .i64 0, .int .i64 0, .bool false, .slice m5 0 em5, .int .i64 0] 49)) g2 #[.slice a4 2 c4, .int .i64 1, .int .i64 2, .bool false, .slice a5 3 c5, .int .i64 2] 49) := HL5.out.below hb5x
    have HP6 : Hid (Blk (x5.alloc (.cells #[.slice m4 0 em4, .int .i64 0, .int .i64 0, .bool false, .slice m5 0 em5, .int .i64 0] 49)) x0.heap.size #[.int .i64 2, .slice ya0 2 yc0] 24) := HP5.out.below hb5x
    have HB6 : Hid (Blk (x5.alloc (.cells #[.slice m4 0 em4, .int .i64 0, .int .i64 0, .bool false, .slice m5 0 em5, .int .i64 0] 49)) x2.heap.size #[.slice b4 2 eb4, .int .i64 1, .int .i64 2, .bool true, .slice b5 3 eb5, .int .i64 2] 49) := HB5.out.below hb5x
    have HQ6 : Hid (Blk (x5.alloc (.cells #[.slice m4 0 em4, .int .i64 0, .int .i64 0, .bool false, .slice m5 0 em5, .int .i64 0] 49)) x3.heap.size #[.int .i64 1, .slice ya3 1 yc3] 24) := HQ5.out.below hb5x
    have HD6 : Hid (LdAt (x5.alloc (.cells #[.slice m4 0 em4, .int .i64 0, .int .i64 0, .bool false, .slice m5 0 em5, .int .i64 0] 49)) ledL (.slice a4 2 c4) (.slice a5 3 c5)) := HD5.out.below hb5x
    have HF6 : Hid (CfAt (x5.alloc (.cells #[.slice m4 0 em4, .int .i64 0, .int .i64 0, .bool false, .slice m5 0 em5, .int .i64 0] 49)) smallC (.slice a1 1 c1) (.slice a2 1 c2) (.slice a3 2 c3)) := HF5.out.below hb5x
    have HE6 : Hid (LdAt (x5.alloc (.cells #[.slice m4 0 em4, .int .i64 0, .int .i64 0, .bool false, .slice m5 0 em5, .int .i64 0] 49)) ledB (.slice b4 2 eb4) (.slice b5 3 eb5)) := HE5.out.below hb5x
    have HW6 : Hid (Below w.heap.size w (x5.alloc (.cells #[.slice m4 0 em4, .int .i64 0, .int .i64 0, .bool false, .slice m5 0 em5, .int .i64 0] 49))) := HW5.out.trans (hb5x.mono HW5.out.size)
    clear HC5 HL5 HP5 HB5 HQ5 HD5 HF5 HE5 HW5
    clear hx5 hb5 hb5x hld5 hb5p hxp
    have k0 := HC6.out.cell 0
    have k1 := HC6.out.cell 1
    have k2 := HC6.out.cell 2
    have k3 := HC6.out.cell 3
    have k4 := HC6.out.cell 4
    simp only [List.getElem?_toArray, List.getElem?_cons_zero, List.getElem?_cons_succ] at k0 k1 k2 k3 k4
    have l5 := HL6.out.cell 5
    simp only [List.getElem?_toArray, List.getElem?_cons_zero, List.getElem?_cons_succ] at l5
    have p0 := HP6.out.cell 0
    simp only [List.getElem?_toArray, List.getElem?_cons_zero] at p0
    have q0 := HQ6.out.cell 0
    simp only [List.getElem?_toArray, List.getElem?_cons_zero] at q0
    have hCon := ldAgents_any smallC (.slice a1 1 c1) (.slice a2 1 c2) (.slice a3 2 c3) _ HF6.out
    rw [led_agents] at hCon
    go_wp2_with fail
    refine hCon.mono ?_
    rintro e xz ⟨rfl, hbz⟩
    have HWz : Hid (Below w.heap.size w xz) := HW6.out.trans (hbz.mono HW6.out.size)
    clear hbz hCon
    go_wp2
    go_ret
    exact ⟨rfl, HWz.out⟩
end Go.Proofs.YtpenkhehceglfaaGreatDoor
