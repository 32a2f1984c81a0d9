/- The law's closed fact: an agent goes in two steps. -/
import Derived.Test.YtpenkhehceglfaaGreatDoorAV5
namespace Go.Proofs.YtpenkhehceglfaaGreatDoor
open Go.RowKit
/-- records that were just laid -/
theorem recs_new (w : World) (ps : List (Lk.Note × Value)) (t : TypeId) (hl : ps.length ≤ 1000) (hp : ∀ q ∈ ps, PinsAt w q.2 q.1.lock) (h0 : 0 < ps.length) :
    RecsAt (w.alloc (.cells (flatR ps).toArray t)) (.slice (some ⟨w.heap.size, 0, none⟩) ps.length ps.length) ps := by
  refine ⟨by omega, some ⟨w.heap.size, 0, none⟩, ps.length, rfl, Nat.le_refl _, (fun e => by cases e), fun ad e _ => ?_, fun ad e j u hu => ?_, fun q hq => (hp q hq).below ((Below.refl _ _).alloc (Nat.le_refl _) _)⟩
  · cases e; exact ⟨rfl, by simp⟩
  · cases e
    rw [WideShapes.add_plain, Nat.zero_add, World.cell?_alloc_new]
    simpa using hu
theorem pins_one (w : World) (x y : Int) : PinsAt (w.alloc (.cells #[.int .i64 x, .int .i64 y] 57)) (.slice (some ⟨w.heap.size, 0, none⟩) 1 1) [(x, y)] := pinsNew w [(x, y)] _ (by simp)
theorem gone_new : Ag.newA 1 [(1, 1)] = (⟨[(1, 1)], 1, 0, false, 0, [], true⟩, 0) := by rfl
theorem gone_two : Ag.replayA 1 [(1, 1)] [Ag.beginR 3 2 [(2, 1)], Ag.stepR 3] = (⟨[], 1, 3, true, 2, [(2, 1)], false⟩, 0) := by rfl
theorem gone_left : Ag.leftA ⟨[], 1, 3, true, 2, [(2, 1)], false⟩ = ([(1, 2, 1)], 0) := by rfl
theorem gone_four : Ag.replayA 1 [(1, 1)] [Ag.beginR 3 2 [(2, 1)], Ag.stepR 3, Ag.stepR 3, Ag.doneR 3 true] = (⟨[(2, 1)], 2, 3, false, 0, [], true⟩, 0) := by rfl
set_option maxHeartbeats 16000000 in
set_option maxRecDepth 100000 in
theorem gone_any (w : World) :
    Calls Tryz.prog 6 #[] w fun e w' => e = .returned (.bool true) ∧ Below w.heap.size w w' := by
  have HB0 : Hid (Below w.heap.size w (((((w.alloc (.cells #[.int .i64 1, .int .i64 1] 57)).alloc (.cells #[.int .i64 1, .slice (some ⟨w.heap.size, 0, none⟩) 1 1] 24)).alloc (.cells #[.int .i64 2, .int .i64 1] 57)).alloc (.cells #[.int .i64 2, .slice (some ⟨w.heap.size + 1 + 1, 0, none⟩) 1 1] 24)).alloc (.cells #[.int .i64 2, .int .i64 0, .int .i64 3, .int .i64 0, .bool false, .int .i64 0, .slice none 0 0] 34))) := (((((Below.refl _ w).alloc (Nat.le_refl _) _).alloc (by simp) _).alloc (by simp; omega) _).alloc (by simp; omega) _).alloc (by simp; omega) _
  have HP1 : Hid (PinsAt (((((w.alloc (.cells #[.int .i64 1, .int .i64 1] 57)).alloc (.cells #[.int .i64 1, .slice (some ⟨w.heap.size, 0, none⟩) 1 1] 24)).alloc (.cells #[.int .i64 2, .int .i64 1] 57)).alloc (.cells #[.int .i64 2, .slice (some ⟨w.heap.size + 1 + 1, 0, none⟩) 1 1] 24)).alloc (.cells #[.int .i64 2, .int .i64 0, .int .i64 3, .int .i64 0, .bool false, .int .i64 0, .slice none 0 0] 34)) (.slice (some ⟨w.heap.size, 0, none⟩) 1 1) [(1, 1)]) := ((((pins_one w 1 1).below ((Below.refl _ _).alloc (Nat.le_refl _) _)).below ((Below.refl _ _).alloc (Nat.le_refl _) _)).below ((Below.refl _ _).alloc (Nat.le_refl _) _)).below ((Below.refl _ _).alloc (Nat.le_refl _) _)
  have HP2 : Hid (PinsAt (((((w.alloc (.cells #[.int .i64 1, .int .i64 1] 57)).alloc (.cells #[.int .i64 1, .slice (some ⟨w.heap.size, 0, none⟩) 1 1] 24)).alloc (.cells #[.int .i64 2, .int .i64 1] 57)).alloc (.cells #[.int .i64 2, .slice (some ⟨w.heap.size + 1 + 1, 0, none⟩) 1 1] 24)).alloc (.cells #[.int .i64 2, .int .i64 0, .int .i64 3, .int .i64 0, .bool false, .int .i64 0, .slice none 0 0] 34)) (.slice (some ⟨w.heap.size + 1 + 1, 0, none⟩) 1 1) [(2, 1)]) := by
    have := ((pins_one ((w.alloc (.cells #[.int .i64 1, .int .i64 1] 57)).alloc (.cells #[.int .i64 1, .slice (some ⟨w.heap.size, 0, none⟩) 1 1] 24)) 2 1).below ((Below.refl _ _).alloc (Nat.le_refl _) (.cells #[.int .i64 2, .slice (some ⟨w.heap.size + 1 + 1, 0, none⟩) 1 1] 24))).below ((Below.refl _ _).alloc (Nat.le_refl _) (.cells #[.int .i64 2, .int .i64 0, .int .i64 3, .int .i64 0, .bool false, .int .i64 0, .slice none 0 0] 34))
    rwa [World.size_alloc, World.size_alloc] at this
  have HK1 : Hid (Blk (((((w.alloc (.cells #[.int .i64 1, .int .i64 1] 57)).alloc (.cells #[.int .i64 1, .slice (some ⟨w.heap.size, 0, none⟩) 1 1] 24)).alloc (.cells #[.int .i64 2, .int .i64 1] 57)).alloc (.cells #[.int .i64 2, .slice (some ⟨w.heap.size + 1 + 1, 0, none⟩) 1 1] 24)).alloc (.cells #[.int .i64 2, .int .i64 0, .int .i64 3, .int .i64 0, .bool false, .int .i64 0, .slice none 0 0] 34)) (w.heap.size + 1) #[.int .i64 1, .slice (some ⟨w.heap.size, 0, none⟩) 1 1] 24) := by
    have := (((blk_alloc (w.alloc (.cells #[.int .i64 1, .int .i64 1] 57)) #[.int .i64 1, .slice (some ⟨w.heap.size, 0, none⟩) 1 1] 24).below ((Below.refl _ _).alloc (Nat.le_refl _) (.cells #[.int .i64 2, .int .i64 1] 57))).below ((Below.refl _ _).alloc (Nat.le_refl _) (.cells #[.int .i64 2, .slice (some ⟨w.heap.size + 1 + 1, 0, none⟩) 1 1] 24))).below ((Below.refl _ _).alloc (Nat.le_refl _) (.cells #[.int .i64 2, .int .i64 0, .int .i64 3, .int .i64 0, .bool false, .int .i64 0, .slice none 0 0] 34))
    rwa [World.size_alloc] at this
  have HK2 : Hid (Blk (((((w.alloc (.cells #[.int .i64 1, .int .i64 1] 57)).alloc (.cells #[.int .i64 1, .slice (some ⟨w.heap.size, 0, none⟩) 1 1] 24)).alloc (.cells #[.int .i64 2, .int .i64 1] 57)).alloc (.cells #[.int .i64 2, .slice (some ⟨w.heap.size + 1 + 1, 0, none⟩) 1 1] 24)).alloc (.cells #[.int .i64 2, .int .i64 0, .int .i64 3, .int .i64 0, .bool false, .int .i64 0, .slice none 0 0] 34)) (w.heap.size + 1 + 1 + 1) #[.int .i64 2, .slice (some ⟨w.heap.size + 1 + 1, 0, none⟩) 1 1] 24) := by
    have := (blk_alloc (((w.alloc (.cells #[.int .i64 1, .int .i64 1] 57)).alloc (.cells #[.int .i64 1, .slice (some ⟨w.heap.size, 0, none⟩) 1 1] 24)).alloc (.cells #[.int .i64 2, .int .i64 1] 57)) #[.int .i64 2, .slice (some ⟨w.heap.size + 1 + 1, 0, none⟩) 1 1] 24).below ((Below.refl _ _).alloc (Nat.le_refl _) (.cells #[.int .i64 2, .int .i64 0, .int .i64 3, .int .i64 0, .bool false, .int .i64 0, .slice none 0 0] 34))
    rwa [World.size_alloc, World.size_alloc, World.size_alloc] at this
  have HK3 : Hid (Blk (((((w.alloc (.cells #[.int .i64 1, .int .i64 1] 57)).alloc (.cells #[.int .i64 1, .slice (some ⟨w.heap.size, 0, none⟩) 1 1] 24)).alloc (.cells #[.int .i64 2, .int .i64 1] 57)).alloc (.cells #[.int .i64 2, .slice (some ⟨w.heap.size + 1 + 1, 0, none⟩) 1 1] 24)).alloc (.cells #[.int .i64 2, .int .i64 0, .int .i64 3, .int .i64 0, .bool false, .int .i64 0, .slice none 0 0] 34)) (w.heap.size + 1 + 1 + 1 + 1) #[.int .i64 2, .int .i64 0, .int .i64 3, .int .i64 0, .bool false, .int .i64 0, .slice none 0 0] 34) := by
    have := blk_alloc ((((w.alloc (.cells #[.int .i64 1, .int .i64 1] 57)).alloc (.cells #[.int .i64 1, .slice (some ⟨w.heap.size, 0, none⟩) 1 1] 24)).alloc (.cells #[.int .i64 2, .int .i64 1] 57)).alloc (.cells #[.int .i64 2, .slice (some ⟨w.heap.size + 1 + 1, 0, none⟩) 1 1] 24)) #[.int .i64 2, .int .i64 0, .int .i64 3, .int .i64 0, .bool false, .int .i64 0, .slice none 0 0] 34
    rwa [World.size_alloc, World.size_alloc, World.size_alloc, World.size_alloc] at this
  go_enter Tryz.func6, Tryz.ntmps6
  go_upto_region 4 with fail
  generalize (((((w.alloc (.cells #[.int .i64 1, .int .i64 1] 57)).alloc (.cells #[.int .i64 1, .slice (some ⟨w.heap.size, 0, none⟩) 1 1] 24)).alloc (.cells #[.int .i64 2, .int .i64 1] 57)).alloc (.cells #[.int .i64 2, .slice (some ⟨w.heap.size + 1 + 1, 0, none⟩) 1 1] 24)).alloc (.cells #[.int .i64 2, .int .i64 0, .int .i64 3, .int .i64 0, .bool false, .int .i64 0, .slice none 0 0] 34)) = W at HB0 HP1 HP2 HK1 HK2 HK3 ⊢
  have k0 := HK1.out.cell 0
  have k1 := HK1.out.cell 1
  simp only [List.getElem?_toArray, List.getElem?_cons_zero, List.getElem?_cons_succ] at k0 k1
  go_wp2_with fail
  refine (agNew_any 1 _ [(1, 1)] _ HP1.out).mono ?_
  rintro e w1 ⟨⟨z1, z2, rfl, hz1, hz2⟩, hb1⟩
  rw [gone_new] at hz1 hz2 ⊢
  simp only at hz1 hz2
  obtain ⟨na, nc, rfl⟩ := pins_slice hz1
  obtain ⟨ma, mc, rfl⟩ := pins_slice hz2
  simp only [agV, agC, List.length_cons, List.length_nil, Nat.zero_add]
  clear hz1 hz2 k0 k1
  have hbX : Below W.heap.size W (w1.alloc (.cells #[.slice na 1 nc, .int .i64 1, .int .i64 0, .bool false, .int .i64 0, .slice ma 0 mc, .bool true] 27)) := hb1.trans (((Below.refl _ w1).alloc (Nat.le_refl _) _).mono hb1.size)
  have HB1 : Hid (Below w.heap.size w (w1.alloc (.cells #[.slice na 1 nc, .int .i64 1, .int .i64 0, .bool false, .int .i64 0, .slice ma 0 mc, .bool true] 27))) := HB0.out.trans (hbX.mono HB0.out.size)
  replace HP1 : Hid (PinsAt (w1.alloc (.cells #[.slice na 1 nc, .int .i64 1, .int .i64 0, .bool false, .int .i64 0, .slice ma 0 mc, .bool true] 27)) (.slice (some ⟨w.heap.size, 0, none⟩) 1 1) [(1, 1)]) := HP1.out.below hbX
  replace HP2 : Hid (PinsAt (w1.alloc (.cells #[.slice na 1 nc, .int .i64 1, .int .i64 0, .bool false, .int .i64 0, .slice ma 0 mc, .bool true] 27)) (.slice (some ⟨w.heap.size + 1 + 1, 0, none⟩) 1 1) [(2, 1)]) := HP2.out.below hbX
  replace HK1 : Hid (Blk (w1.alloc (.cells #[.slice na 1 nc, .int .i64 1, .int .i64 0, .bool false, .int .i64 0, .slice ma 0 mc, .bool true] 27)) _ _ _) := HK1.out.below hbX
  replace HK2 : Hid (Blk (w1.alloc (.cells #[.slice na 1 nc, .int .i64 1, .int .i64 0, .bool false, .int .i64 0, .slice ma 0 mc, .bool true] 27)) _ _ _) := HK2.out.below hbX
  replace HK3 : Hid (Blk (w1.alloc (.cells #[.slice na 1 nc, .int .i64 1, .int .i64 0, .bool false, .int .i64 0, .slice ma 0 mc, .bool true] 27)) _ _ _) := HK3.out.below hbX
  have HN1 : Hid (Blk (w1.alloc (.cells #[.slice na 1 nc, .int .i64 1, .int .i64 0, .bool false, .int .i64 0, .slice ma 0 mc, .bool true] 27)) w1.heap.size #[.slice na 1 nc, .int .i64 1, .int .i64 0, .bool false, .int .i64 0, .slice ma 0 mc, .bool true] 27) := blk_alloc w1 _ _
  clear hbX hb1 HB0
  go_upto_region 5 with fail
  generalize (w1.alloc (.cells #[.slice na 1 nc, .int .i64 1, .int .i64 0, .bool false, .int .i64 0, .slice ma 0 mc, .bool true] 27)) = W1 at HB1 HP1 HP2 HK1 HK2 HK3 HN1 ⊢
  generalize w1.heap.size = gn at HN1 ⊢
  have k0 := HK1.out.cell 0
  have k1 := HK1.out.cell 1
  simp only [List.getElem?_toArray, List.getElem?_cons_zero, List.getElem?_cons_succ] at k0 k1
  have x0 := HK2.out.cell 0
  have x1 := HK2.out.cell 1
  simp only [List.getElem?_toArray, List.getElem?_cons_zero, List.getElem?_cons_succ] at x0 x1
  have y0 := HK3.out.cell 0
  have y1 := HK3.out.cell 1
  have y2 := HK3.out.cell 2
  have y3 := HK3.out.cell 3
  have y4 := HK3.out.cell 4
  have y5 := HK3.out.cell 5
  have y6 := HK3.out.cell 6
  simp only [List.getElem?_toArray, List.getElem?_cons_zero, List.getElem?_cons_succ] at y0 y1 y2 y3 y4 y5 y6
  have HRS : Hid (RecsAt (W1.alloc (.cells #[.int .i64 1, .int .i64 0, .int .i64 3, .int .i64 0, .bool false, .int .i64 2, .slice (some ⟨w.heap.size + 1 + 1, 0, none⟩) 1 1, .int .i64 2, .int .i64 0, .int .i64 3, .int .i64 0, .bool false, .int .i64 0, .slice none 0 0] 34)) (.slice (some ⟨W1.heap.size, 0, none⟩) 2 2) [(Ag.beginR 3 2 [(2, 1)], .slice (some ⟨w.heap.size + 1 + 1, 0, none⟩) 1 1), (Ag.stepR 3, .slice none 0 0)]) := recs_new W1 [(Ag.beginR 3 2 [(2, 1)], .slice (some ⟨w.heap.size + 1 + 1, 0, none⟩) 1 1), (Ag.stepR 3, .slice none 0 0)] _ (by simp) (by
    intro q hq
    simp only [List.mem_cons, List.not_mem_nil, or_false] at hq
    rcases hq with rfl | rfl
    · exact HP2.out
    · exact pins_none _) (by simp)
  go_wp2_with fail
  refine (agReplay_any 1 _ _ [(1, 1)] [(Ag.beginR 3 2 [(2, 1)], .slice (some ⟨w.heap.size + 1 + 1, 0, none⟩) 1 1), (Ag.stepR 3, .slice none 0 0)] _ (HP1.out.below ((Below.refl _ _).alloc (Nat.le_refl _) _)) HRS.out).mono ?_
  rintro e w2 ⟨⟨z1, z2, rfl, hz1, hz2⟩, hb2⟩
  simp only [List.map_cons, List.map_nil, gone_two] at hz1 hz2 ⊢
  obtain ⟨pa, pc, rfl⟩ := pins_slice hz1
  obtain ⟨qa, qc, rfl⟩ := pins_slice hz2
  simp only [agV, agC, List.length_cons, List.length_nil, Nat.zero_add] at hz1 hz2 ⊢
  clear HRS k0 k1 x0 x1 y0 y1 y2 y3 y4 y5 y6
  have hbY : Below W1.heap.size W1 w2 := ((Below.refl _ W1).alloc (Nat.le_refl _) _).trans (hb2.mono (by simp))
  have hbX : Below W1.heap.size W1 (w2.alloc (.cells #[.slice pa 0 pc, .int .i64 1, .int .i64 3, .bool true, .int .i64 2, .slice qa 1 qc, .bool false] 27)) := hbY.trans (((Below.refl _ w2).alloc (Nat.le_refl _) _).mono hbY.size)
  have HB2 : Hid (Below w.heap.size w (w2.alloc (.cells #[.slice pa 0 pc, .int .i64 1, .int .i64 3, .bool true, .int .i64 2, .slice qa 1 qc, .bool false] 27))) := HB1.out.trans (hbX.mono HB1.out.size)
  replace HP1 : Hid (PinsAt (w2.alloc (.cells #[.slice pa 0 pc, .int .i64 1, .int .i64 3, .bool true, .int .i64 2, .slice qa 1 qc, .bool false] 27)) (.slice (some ⟨w.heap.size, 0, none⟩) 1 1) [(1, 1)]) := HP1.out.below hbX
  replace HP2 : Hid (PinsAt (w2.alloc (.cells #[.slice pa 0 pc, .int .i64 1, .int .i64 3, .bool true, .int .i64 2, .slice qa 1 qc, .bool false] 27)) (.slice (some ⟨w.heap.size + 1 + 1, 0, none⟩) 1 1) [(2, 1)]) := HP2.out.below hbX
  replace HK1 : Hid (Blk (w2.alloc (.cells #[.slice pa 0 pc, .int .i64 1, .int .i64 3, .bool true, .int .i64 2, .slice qa 1 qc, .bool false] 27)) _ _ _) := HK1.out.below hbX
  replace HK2 : Hid (Blk (w2.alloc (.cells #[.slice pa 0 pc, .int .i64 1, .int .i64 3, .bool true, .int .i64 2, .slice qa 1 qc, .bool false] 27)) _ _ _) := HK2.out.below hbX
  replace HK3 : Hid (Blk (w2.alloc (.cells #[.slice pa 0 pc, .int .i64 1, .int .i64 3, .bool true, .int .i64 2, .slice qa 1 qc, .bool false] 27)) _ _ _) := HK3.out.below hbX
  replace HN1 : Hid (Blk (w2.alloc (.cells #[.slice pa 0 pc, .int .i64 1, .int .i64 3, .bool true, .int .i64 2, .slice qa 1 qc, .bool false] 27)) gn _ _) := HN1.out.below hbX
  have HN2 : Hid (Blk (w2.alloc (.cells #[.slice pa 0 pc, .int .i64 1, .int .i64 3, .bool true, .int .i64 2, .slice qa 1 qc, .bool false] 27)) w2.heap.size #[.slice pa 0 pc, .int .i64 1, .int .i64 3, .bool true, .int .i64 2, .slice qa 1 qc, .bool false] 27) := blk_alloc w2 _ _
  have HZ1 : Hid (PinsAt (w2.alloc (.cells #[.slice pa 0 pc, .int .i64 1, .int .i64 3, .bool true, .int .i64 2, .slice qa 1 qc, .bool false] 27)) (.slice pa 0 pc) []) := hz1.below ((Below.refl _ w2).alloc (Nat.le_refl _) _)
  have HZ2 : Hid (PinsAt (w2.alloc (.cells #[.slice pa 0 pc, .int .i64 1, .int .i64 3, .bool true, .int .i64 2, .slice qa 1 qc, .bool false] 27)) (.slice qa 1 qc) [(2, 1)]) := hz2.below ((Below.refl _ w2).alloc (Nat.le_refl _) _)
  clear hbX hbY hb2 HB1 hz1 hz2
  go_upto_region 6 with fail
  generalize (w2.alloc (.cells #[.slice pa 0 pc, .int .i64 1, .int .i64 3, .bool true, .int .i64 2, .slice qa 1 qc, .bool false] 27)) = W2 at HB2 HP1 HP2 HK1 HK2 HK3 HN1 HN2 HZ1 HZ2 ⊢
  generalize w2.heap.size = gr at HN2 ⊢
  have k0 := HN2.out.cell 0
  have k1 := HN2.out.cell 1
  have k2 := HN2.out.cell 2
  have k3 := HN2.out.cell 3
  have k4 := HN2.out.cell 4
  have k5 := HN2.out.cell 5
  have k6 := HN2.out.cell 6
  simp only [List.getElem?_toArray, List.getElem?_cons_zero, List.getElem?_cons_succ] at k0 k1 k2 k3 k4 k5 k6
  go_wp2_with fail
  refine (agLeft_any [] [(2, 1)] 1 3 2 true false _ _ _ HZ1.out HZ2.out).mono ?_
  rintro e w3 ⟨⟨x, rfl, hx⟩, hb3⟩
  rw [gone_left] at hx ⊢
  simp only at hx
  obtain ⟨xa, xc, rfl⟩ := ops_slice hx
  simp only [List.length_cons, List.length_nil, Nat.zero_add]
  clear hx k0 k1 k2 k3 k4 k5 k6 HZ1 HZ2
  have HB3 : Hid (Below w.heap.size w w3) := HB2.out.trans (hb3.mono HB2.out.size)
  replace HP1 : Hid (PinsAt w3 (.slice (some ⟨w.heap.size, 0, none⟩) 1 1) [(1, 1)]) := HP1.out.below hb3
  replace HP2 : Hid (PinsAt w3 (.slice (some ⟨w.heap.size + 1 + 1, 0, none⟩) 1 1) [(2, 1)]) := HP2.out.below hb3
  replace HK1 : Hid (Blk w3 _ _ _) := HK1.out.below hb3
  replace HK2 : Hid (Blk w3 _ _ _) := HK2.out.below hb3
  replace HK3 : Hid (Blk w3 _ _ _) := HK3.out.below hb3
  replace HN1 : Hid (Blk w3 gn _ _) := HN1.out.below hb3
  replace HN2 : Hid (Blk w3 gr _ _) := HN2.out.below hb3
  clear hb3 HB2
  go_upto_region 7 with fail
  have k0 := HK1.out.cell 0
  have k1 := HK1.out.cell 1
  simp only [List.getElem?_toArray, List.getElem?_cons_zero, List.getElem?_cons_succ] at k0 k1
  have x0 := HK2.out.cell 0
  have x1 := HK2.out.cell 1
  simp only [List.getElem?_toArray, List.getElem?_cons_zero, List.getElem?_cons_succ] at x0 x1
  have y0 := HK3.out.cell 0
  have y1 := HK3.out.cell 1
  have y2 := HK3.out.cell 2
  have y3 := HK3.out.cell 3
  have y4 := HK3.out.cell 4
  have y5 := HK3.out.cell 5
  have y6 := HK3.out.cell 6
  simp only [List.getElem?_toArray, List.getElem?_cons_zero, List.getElem?_cons_succ] at y0 y1 y2 y3 y4 y5 y6
  have HRS : Hid (RecsAt (w3.alloc (.cells #[.int .i64 1, .int .i64 0, .int .i64 3, .int .i64 0, .bool false, .int .i64 2, .slice (some ⟨w.heap.size + 1 + 1, 0, none⟩) 1 1, .int .i64 2, .int .i64 0, .int .i64 3, .int .i64 0, .bool false, .int .i64 0, .slice none 0 0, .int .i64 2, .int .i64 0, .int .i64 3, .int .i64 0, .bool false, .int .i64 0, .slice none 0 0, .int .i64 3, .int .i64 0, .int .i64 3, .int .i64 0, .bool true, .int .i64 0, .slice none 0 0] 34)) (.slice (some ⟨w3.heap.size, 0, none⟩) 4 4) [(Ag.beginR 3 2 [(2, 1)], .slice (some ⟨w.heap.size + 1 + 1, 0, none⟩) 1 1), (Ag.stepR 3, .slice none 0 0), (Ag.stepR 3, .slice none 0 0), (Ag.doneR 3 true, .slice none 0 0)]) := recs_new w3 [(Ag.beginR 3 2 [(2, 1)], .slice (some ⟨w.heap.size + 1 + 1, 0, none⟩) 1 1), (Ag.stepR 3, .slice none 0 0), (Ag.stepR 3, .slice none 0 0), (Ag.doneR 3 true, .slice none 0 0)] _ (by simp) (by
    intro q hq
    simp only [List.mem_cons, List.not_mem_nil, or_false] at hq
    rcases hq with rfl | rfl | rfl | rfl
    · exact HP2.out
    · exact pins_none _
    · exact pins_none _
    · exact pins_none _) (by simp)
  go_wp2_with fail
  refine (agReplay_any 1 _ _ [(1, 1)] [(Ag.beginR 3 2 [(2, 1)], .slice (some ⟨w.heap.size + 1 + 1, 0, none⟩) 1 1), (Ag.stepR 3, .slice none 0 0), (Ag.stepR 3, .slice none 0 0), (Ag.doneR 3 true, .slice none 0 0)] _ (HP1.out.below ((Below.refl _ _).alloc (Nat.le_refl _) _)) HRS.out).mono ?_
  rintro e w4 ⟨⟨z1, z2, rfl, hz1, hz2⟩, hb4⟩
  simp only [List.map_cons, List.map_nil, gone_four] at hz1 hz2 ⊢
  obtain ⟨ua, uc, rfl⟩ := pins_slice hz1
  obtain ⟨va, vc, rfl⟩ := pins_slice hz2
  simp only [agV, agC, List.length_cons, List.length_nil, Nat.zero_add] at hz1 hz2 ⊢
  clear HRS k0 k1 x0 x1 y0 y1 y2 y3 y4 y5 y6
  have hbY : Below w3.heap.size w3 w4 := ((Below.refl _ w3).alloc (Nat.le_refl _) _).trans (hb4.mono (by simp))
  have hbX : Below w3.heap.size w3 (w4.alloc (.cells #[.slice ua 1 uc, .int .i64 2, .int .i64 3, .bool false, .int .i64 0, .slice va 0 vc, .bool true] 27)) := hbY.trans (((Below.refl _ w4).alloc (Nat.le_refl _) _).mono hbY.size)
  have HB4 : Hid (Below w.heap.size w (w4.alloc (.cells #[.slice ua 1 uc, .int .i64 2, .int .i64 3, .bool false, .int .i64 0, .slice va 0 vc, .bool true] 27))) := HB3.out.trans (hbX.mono HB3.out.size)
  replace HP1 : Hid (PinsAt (w4.alloc (.cells #[.slice ua 1 uc, .int .i64 2, .int .i64 3, .bool false, .int .i64 0, .slice va 0 vc, .bool true] 27)) (.slice (some ⟨w.heap.size, 0, none⟩) 1 1) [(1, 1)]) := HP1.out.below hbX
  replace HP2 : Hid (PinsAt (w4.alloc (.cells #[.slice ua 1 uc, .int .i64 2, .int .i64 3, .bool false, .int .i64 0, .slice va 0 vc, .bool true] 27)) (.slice (some ⟨w.heap.size + 1 + 1, 0, none⟩) 1 1) [(2, 1)]) := HP2.out.below hbX
  replace HK1 : Hid (Blk (w4.alloc (.cells #[.slice ua 1 uc, .int .i64 2, .int .i64 3, .bool false, .int .i64 0, .slice va 0 vc, .bool true] 27)) _ _ _) := HK1.out.below hbX
  replace HK2 : Hid (Blk (w4.alloc (.cells #[.slice ua 1 uc, .int .i64 2, .int .i64 3, .bool false, .int .i64 0, .slice va 0 vc, .bool true] 27)) _ _ _) := HK2.out.below hbX
  replace HK3 : Hid (Blk (w4.alloc (.cells #[.slice ua 1 uc, .int .i64 2, .int .i64 3, .bool false, .int .i64 0, .slice va 0 vc, .bool true] 27)) _ _ _) := HK3.out.below hbX
  replace HN1 : Hid (Blk (w4.alloc (.cells #[.slice ua 1 uc, .int .i64 2, .int .i64 3, .bool false, .int .i64 0, .slice va 0 vc, .bool true] 27)) gn _ _) := HN1.out.below hbX
  replace HN2 : Hid (Blk (w4.alloc (.cells #[.slice ua 1 uc, .int .i64 2, .int .i64 3, .bool false, .int .i64 0, .slice va 0 vc, .bool true] 27)) gr _ _) := HN2.out.below hbX
  have HN4 : Hid (Blk (w4.alloc (.cells #[.slice ua 1 uc, .int .i64 2, .int .i64 3, .bool false, .int .i64 0, .slice va 0 vc, .bool true] 27)) w4.heap.size #[.slice ua 1 uc, .int .i64 2, .int .i64 3, .bool false, .int .i64 0, .slice va 0 vc, .bool true] 27) := blk_alloc w4 _ _
  have HZ1 : Hid (PinsAt (w4.alloc (.cells #[.slice ua 1 uc, .int .i64 2, .int .i64 3, .bool false, .int .i64 0, .slice va 0 vc, .bool true] 27)) (.slice ua 1 uc) [(2, 1)]) := hz1.below ((Below.refl _ w4).alloc (Nat.le_refl _) _)
  clear hbX hbY hb4 HB3 hz1 hz2
  go_upto_region 8 with fail
  generalize (w4.alloc (.cells #[.slice ua 1 uc, .int .i64 2, .int .i64 3, .bool false, .int .i64 0, .slice va 0 vc, .bool true] 27)) = W4 at HB4 HP1 HP2 HK1 HK2 HK3 HN1 HN2 HN4 HZ1 ⊢
  generalize w4.heap.size = g4 at HN4 ⊢
  have k0 := HN1.out.cell 0
  have k1 := HN1.out.cell 1
  have k2 := HN1.out.cell 2
  have k3 := HN1.out.cell 3
  have k4 := HN1.out.cell 4
  have k5 := HN1.out.cell 5
  have k6 := HN1.out.cell 6
  simp only [List.getElem?_toArray, List.getElem?_cons_zero, List.getElem?_cons_succ] at k0 k1 k2 k3 k4 k5 k6
  have x0 := HN2.out.cell 0
  have x1 := HN2.out.cell 1
  have x2 := HN2.out.cell 2
  have x3 := HN2.out.cell 3
  have x4 := HN2.out.cell 4
  have x5 := HN2.out.cell 5
  have x6 := HN2.out.cell 6
  simp only [List.getElem?_toArray, List.getElem?_cons_zero, List.getElem?_cons_succ] at x0 x1 x2 x3 x4 x5 x6
  have y0 := HN4.out.cell 0
  have y1 := HN4.out.cell 1
  have y2 := HN4.out.cell 2
  have y3 := HN4.out.cell 3
  have y4 := HN4.out.cell 4
  have y5 := HN4.out.cell 5
  have y6 := HN4.out.cell 6
  simp only [List.getElem?_toArray, List.getElem?_cons_zero, List.getElem?_cons_succ] at y0 y1 y2 y3 y4 y5 y6
  have z0 := HK2.out.cell 0
  have z1 := HK2.out.cell 1
  simp only [List.getElem?_toArray, List.getElem?_cons_zero, List.getElem?_cons_succ] at z0 z1
  have HEq : Hid (Calls Tryz.prog 19 #[.slice ua 1 uc, .slice (some ⟨w.heap.size + 1 + 1, 0, none⟩) 1 1] W4 fun e w'' => e = .returned (.bool true) ∧ Below W4.heap.size W4 w'') := by
    have := equal_any _ _ [(2, 1)] [(2, 1)] W4 HZ1.out HP2.out
    rw [show Lk.same [(2, 1)] [(2, 1)] = true from rfl] at this
    exact this
  clear HN1 HN2 HN4 HK1 HK2 HK3 HP1 HP2 HZ1
  go_wp2_with fail
  refine HEq.out.mono ?_
  rintro e w5 ⟨rfl, hb5⟩
  have HB5 : Hid (Below w.heap.size w w5) := HB4.out.trans (hb5.mono HB4.out.size)
  clear hb5 HB4 HEq
  go_wp2
  go_ret
  exact ⟨rfl, HB5.out⟩
end Go.Proofs.YtpenkhehceglfaaGreatDoor
