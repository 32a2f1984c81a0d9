/- The document's AgentNext where nobody goes on: errors, and a try's beginning. (Written by tools/gen_agentnext.py.) -/
import Derived.Test.YtbnaaookeagjgaaAG3
namespace Go.Proofs.Ytbnaaookeagjgaa
open Go.RowKit
theorem nx_bad1 {a : Ag.Agent} {r : Lk.Note} (h : ¬ Ag.chkAgent a = 0) : Ag.nextA a r = (Ag.Agent.none, Ag.chkAgent a) := by unfold Ag.nextA; rw [if_neg h]
theorem nx_bad2 {a : Ag.Agent} {r : Lk.Note} (h : Ag.chkAgent a = 0) (h' : ¬ Lk.chkNote r = 0) : Ag.nextA a r = (Ag.Agent.none, Lk.chkNote r) := by unfold Ag.nextA; rw [if_pos h, if_neg h']
theorem nx_in {a : Ag.Agent} {r : Lk.Note} (h : Ag.chkAgent a = 0) (h' : Lk.chkNote r = 0) : Ag.nextA a r = (if r.kind = 1 then (if r.tr ≤ a.tr then (Ag.Agent.none, 7) else (⟨a.lock, a.at', r.tr, true, r.id, r.lock, false⟩, 0)) else if 3 < r.kind then (Ag.Agent.none, 4) else if a.going = true ∧ a.tr = r.tr then Ag.goesA a r else (Ag.Agent.none, 7)) := by unfold Ag.nextA; rw [if_pos h, if_pos h']
set_option maxHeartbeats 8000000 in
set_option maxRecDepth 100000 in
theorem agNextR_early (L M r7 : List (Int × Int)) (p t i r1 r2 r3 r4 r6 : Int) (g d r5 : Bool) (v u z : Value) (w : World) (hP : PinsAt w v L) (hQ : PinsAt w u M) (hR : PinsAt w z r7)
    (hC : ∀ w', Below w.heap.size w w' → Calls Try.prog 32 #[recV ⟨r1, r2, r3, r4, r5, r6, r7⟩ z] w' fun e w'' => e = .returned (.int .i64 (Lk.chkNote ⟨r1, r2, r3, r4, r5, r6, r7⟩)) ∧ Below w'.heap.size w' w'')
    (hN : Ag.chkAgent ⟨L, p, t, g, i, M, d⟩ = 0 → Lk.chkNote ⟨r1, r2, r3, r4, r5, r6, r7⟩ = 0 → ¬ r1 = 1 → r1 ≤ 3 → ¬ (g = true ∧ t = r3)) :
    Calls Try.prog 9 #[agV ⟨L, p, t, g, i, M, d⟩ v u, recV ⟨r1, r2, r3, r4, r5, r6, r7⟩ z] w fun e w' => agX w w' v u z L M r7 (Ag.nextA ⟨L, p, t, g, i, M, d⟩ ⟨r1, r2, r3, r4, r5, r6, r7⟩) e ∧ Below w.heap.size w w' := by
  obtain ⟨a, c, rfl⟩ := pins_slice hP
  obtain ⟨a', c', rfl⟩ := pins_slice hQ
  obtain ⟨b, f, rfl⟩ := pins_slice hR
  unfold agV agC recV
  simp only
  have HCA : Hid (∀ w', Below w.heap.size w w' → Calls Try.prog 10 #[.agg #[.slice a L.length c, .int .i64 p, .int .i64 t, .bool g, .int .i64 i, .slice a' M.length c', .bool d]] w' fun e w'' => e = .returned (.int .i64 (Ag.chkAgent ⟨L, p, t, g, i, M, d⟩)) ∧ Below w'.heap.size w' w'') := fun w' hb => checkAgR_any L M p t i g d _ _ w' (hP.below hb) (hQ.below hb)
  have HCR : Hid (∀ w', Below w.heap.size w w' → Calls Try.prog 32 #[.agg #[.int .i64 r1, .int .i64 r2, .int .i64 r3, .int .i64 r4, .bool r5, .int .i64 r6, .slice b r7.length f]] w' fun e w'' => e = .returned (.int .i64 (Lk.chkNote ⟨r1, r2, r3, r4, r5, r6, r7⟩)) ∧ Below w'.heap.size w' w'') := hC
  have HF : Hid (∀ w', Below w.heap.size w w' → agX w w' (.slice a L.length c) (.slice a' M.length c') (.slice b r7.length f) L M r7 (⟨L, p, r3, true, r6, r7, false⟩, 0) (.returned (.tuple #[.agg #[.slice a L.length c, .int .i64 p, .int .i64 r3, .bool true, .int .i64 r6, .slice b r7.length f, .bool false], .int .i64 0]))) := fun w' hb => ⟨_, _, rfl, hP.below hb, hR.below hb, fun g _ h1 _ h3 => ⟨h1.below hb, h3.below hb⟩⟩
  have F1 : Hid (¬ Ag.chkAgent ⟨L, p, t, g, i, M, d⟩ = 0 → Ag.nextA ⟨L, p, t, g, i, M, d⟩ ⟨r1, r2, r3, r4, r5, r6, r7⟩ = (Ag.Agent.none, Ag.chkAgent ⟨L, p, t, g, i, M, d⟩)) := fun h => nx_bad1 h
  have F2 : Hid (Ag.chkAgent ⟨L, p, t, g, i, M, d⟩ = 0 → ¬ Lk.chkNote ⟨r1, r2, r3, r4, r5, r6, r7⟩ = 0 → Ag.nextA ⟨L, p, t, g, i, M, d⟩ ⟨r1, r2, r3, r4, r5, r6, r7⟩ = (Ag.Agent.none, Lk.chkNote ⟨r1, r2, r3, r4, r5, r6, r7⟩)) := fun h h' => nx_bad2 h h'
  have F3 : Hid (Ag.chkAgent ⟨L, p, t, g, i, M, d⟩ = 0 → Lk.chkNote ⟨r1, r2, r3, r4, r5, r6, r7⟩ = 0 → r1 = 1 → r3 ≤ t → Ag.nextA ⟨L, p, t, g, i, M, d⟩ ⟨r1, r2, r3, r4, r5, r6, r7⟩ = (Ag.Agent.none, 7)) := fun h h' k1 k2 => by rw [nx_in h h', if_pos k1, if_pos k2]
  have F4 : Hid (Ag.chkAgent ⟨L, p, t, g, i, M, d⟩ = 0 → Lk.chkNote ⟨r1, r2, r3, r4, r5, r6, r7⟩ = 0 → r1 = 1 → t < r3 → Ag.nextA ⟨L, p, t, g, i, M, d⟩ ⟨r1, r2, r3, r4, r5, r6, r7⟩ = (⟨L, p, r3, true, r6, r7, false⟩, 0)) := fun h h' k1 k2 => by rw [nx_in h h', if_pos k1, if_neg (show ¬ r3 ≤ t from by omega)]
  have F5 : Hid (Ag.chkAgent ⟨L, p, t, g, i, M, d⟩ = 0 → Lk.chkNote ⟨r1, r2, r3, r4, r5, r6, r7⟩ = 0 → ¬ r1 = 1 → 3 < r1 → Ag.nextA ⟨L, p, t, g, i, M, d⟩ ⟨r1, r2, r3, r4, r5, r6, r7⟩ = (Ag.Agent.none, 4)) := fun h h' k1 k2 => by rw [nx_in h h', if_neg k1, if_pos k2]
  have F6 : Hid (Ag.chkAgent ⟨L, p, t, g, i, M, d⟩ = 0 → Lk.chkNote ⟨r1, r2, r3, r4, r5, r6, r7⟩ = 0 → ¬ r1 = 1 → r1 ≤ 3 → Ag.nextA ⟨L, p, t, g, i, M, d⟩ ⟨r1, r2, r3, r4, r5, r6, r7⟩ = (Ag.Agent.none, 7) ∧ ¬ (g = true ∧ t = r3)) := fun h h' k1 k2 => ⟨by rw [nx_in h h', if_neg k1, if_neg (show ¬ 3 < r1 from by omega), if_neg (hN h h' k1 k2)], hN h h' k1 k2⟩
  clear hP hQ hR hC hN
  generalize Ag.nextA ⟨L, p, t, g, i, M, d⟩ ⟨r1, r2, r3, r4, r5, r6, r7⟩ = Q at F1 F2 F3 F4 F5 F6 ⊢
  generalize Ag.chkAgent ⟨L, p, t, g, i, M, d⟩ = CA at F1 F2 F3 F4 F5 F6 HCA
  generalize Lk.chkNote ⟨r1, r2, r3, r4, r5, r6, r7⟩ = CR at F2 F3 F4 F5 F6 HCR
  generalize L.length = n at HCA HF ⊢
  generalize M.length = m at HCA HF ⊢
  generalize r7.length = q at HCR HF ⊢
  have HB0 : Hid (Below w.heap.size w (((w.alloc (.cells #[.slice a n c, .int .i64 p, .int .i64 t, .bool g, .int .i64 i, .slice a' m c', .bool d] 26)).alloc (.cells #[.int .i64 r1, .int .i64 r2, .int .i64 r3, .int .i64 r4, .bool r5, .int .i64 r6, .slice b q f] 28)).alloc (.cells #[.slice none 0 0, .int .i64 0, .int .i64 0, .bool false, .int .i64 0, .slice none 0 0, .bool false] 26))) := (((Below.refl _ w).alloc (Nat.le_refl _) _).alloc (by simp) _).alloc (by simp; omega) _
  have HA0 : Hid (Blk (((w.alloc (.cells #[.slice a n c, .int .i64 p, .int .i64 t, .bool g, .int .i64 i, .slice a' m c', .bool d] 26)).alloc (.cells #[.int .i64 r1, .int .i64 r2, .int .i64 r3, .int .i64 r4, .bool r5, .int .i64 r6, .slice b q f] 28)).alloc (.cells #[.slice none 0 0, .int .i64 0, .int .i64 0, .bool false, .int .i64 0, .slice none 0 0, .bool false] 26)) w.heap.size #[.slice a n c, .int .i64 p, .int .i64 t, .bool g, .int .i64 i, .slice a' m c', .bool d] 26) := ((blk_alloc w _ _).below ((Below.refl _ _).alloc (Nat.le_refl _) _)).below ((Below.refl _ _).alloc (Nat.le_refl _) _)
  have HR0 : Hid (Blk (((w.alloc (.cells #[.slice a n c, .int .i64 p, .int .i64 t, .bool g, .int .i64 i, .slice a' m c', .bool d] 26)).alloc (.cells #[.int .i64 r1, .int .i64 r2, .int .i64 r3, .int .i64 r4, .bool r5, .int .i64 r6, .slice b q f] 28)).alloc (.cells #[.slice none 0 0, .int .i64 0, .int .i64 0, .bool false, .int .i64 0, .slice none 0 0, .bool false] 26)) (w.heap.size + 1) #[.int .i64 r1, .int .i64 r2, .int .i64 r3, .int .i64 r4, .bool r5, .int .i64 r6, .slice b q f] 28) := by
    have := (blk_alloc (w.alloc (.cells #[.slice a n c, .int .i64 p, .int .i64 t, .bool g, .int .i64 i, .slice a' m c', .bool d] 26)) #[.int .i64 r1, .int .i64 r2, .int .i64 r3, .int .i64 r4, .bool r5, .int .i64 r6, .slice b q f] 28).below ((Below.refl _ _).alloc (Nat.le_refl _) (.cells #[.slice none 0 0, .int .i64 0, .int .i64 0, .bool false, .int .i64 0, .slice none 0 0, .bool false] 26))
    rwa [World.size_alloc] at this
  have HN0 : Hid (Blk (((w.alloc (.cells #[.slice a n c, .int .i64 p, .int .i64 t, .bool g, .int .i64 i, .slice a' m c', .bool d] 26)).alloc (.cells #[.int .i64 r1, .int .i64 r2, .int .i64 r3, .int .i64 r4, .bool r5, .int .i64 r6, .slice b q f] 28)).alloc (.cells #[.slice none 0 0, .int .i64 0, .int .i64 0, .bool false, .int .i64 0, .slice none 0 0, .bool false] 26)) (w.heap.size + 1 + 1) #[.slice none 0 0, .int .i64 0, .int .i64 0, .bool false, .int .i64 0, .slice none 0 0, .bool false] 26) := by
    have := blk_alloc ((w.alloc (.cells #[.slice a n c, .int .i64 p, .int .i64 t, .bool g, .int .i64 i, .slice a' m c', .bool d] 26)).alloc (.cells #[.int .i64 r1, .int .i64 r2, .int .i64 r3, .int .i64 r4, .bool r5, .int .i64 r6, .slice b q f] 28)) #[.slice none 0 0, .int .i64 0, .int .i64 0, .bool false, .int .i64 0, .slice none 0 0, .bool false] 26
    rwa [World.size_alloc, World.size_alloc] at this
  go_enter Try.func9, Try.ntmps9
  go_upto_region 2 with fail
  generalize (((w.alloc (.cells #[.slice a n c, .int .i64 p, .int .i64 t, .bool g, .int .i64 i, .slice a' m c', .bool d] 26)).alloc (.cells #[.int .i64 r1, .int .i64 r2, .int .i64 r3, .int .i64 r4, .bool r5, .int .i64 r6, .slice b q f] 28)).alloc (.cells #[.slice none 0 0, .int .i64 0, .int .i64 0, .bool false, .int .i64 0, .slice none 0 0, .bool false] 26)) = w0 at HB0 HA0 HR0 HN0 ⊢
  have k0 := HA0.out.cell 0
  have k1 := HA0.out.cell 1
  have k2 := HA0.out.cell 2
  have k3 := HA0.out.cell 3
  have k4 := HA0.out.cell 4
  have k5 := HA0.out.cell 5
  have k6 := HA0.out.cell 6
  simp only [List.getElem?_toArray, List.getElem?_cons_zero, List.getElem?_cons_succ] at k0 k1 k2 k3 k4 k5 k6
  go_wp2_with fail
  refine (HCA.out _ HB0.out).mono ?_
  rintro e w1 ⟨rfl, hb1⟩
  have HB1 : Hid (Below w.heap.size w w1) := HB0.out.trans (hb1.mono HB0.out.size)
  have HA1 : Hid (Blk w1 _ _ _) := HA0.out.below hb1
  have HR1 : Hid (Blk w1 _ _ _) := HR0.out.below hb1
  have HN1 : Hid (Blk w1 _ _ _) := HN0.out.below hb1
  clear hb1 HB0 HA0 HR0 HN0 HCA k0 k1 k2 k3 k4 k5 k6
  by_cases h1 : CA = 0
  rotate_left
  · have h1b : (CA != 0) = true := by rw [bne_iff_ne]; exact h1
    have HQ : Hid (Q = (Ag.Agent.none, CA)) := F1.out h1
    clear F1 F2 F3 F4 F5 F6 h1 HA1 HR1 HCR HF
    go_wp2_with fail
    refine (agbad_any CA _).mono ?_
    rintro e w9 ⟨rfl, hb9⟩
    have HB9 : Hid (Below w.heap.size w w9) := HB1.out.trans (hb9.mono HB1.out.size)
    have hn9 := HN1.out.below hb9
    clear hb9 HB1 HN1
    have d0 := hn9.cell 0
    have d1 := hn9.cell 1
    have d2 := hn9.cell 2
    have d3 := hn9.cell 3
    have d4 := hn9.cell 4
    have d5 := hn9.cell 5
    have d6 := hn9.cell 6
    simp only [List.getElem?_toArray, List.getElem?_cons_zero, List.getElem?_cons_succ] at d0 d1 d2 d3 d4 d5 d6
    have df0 := hn9.free 0
    have df1 := hn9.free 1
    have df2 := hn9.free 2
    have df3 := hn9.free 3
    have df4 := hn9.free 4
    have df5 := hn9.free 5
    have df6 := hn9.free 6
    clear hn9
    go_wp2
    refine bodyPost_ret (v := .tuple #[.agg #[.slice none 0 0, .int .i64 0, .int .i64 0, .bool false, .int .i64 0, .slice none 0 0, .bool false], .int .i64 CA]) (by simp [results, Try.results9, go_sem, d0, d1, d2, d3, d4, d5, d6]) rfl ⟨agX_none HQ.out, ?_⟩
    exact (((((((HB9.out.setCell (Nat.le_add_right _ 2) _).setCell (Nat.le_add_right _ 2) _).setCell (Nat.le_add_right _ 2) _).setCell (Nat.le_add_right _ 2) _).setCell (Nat.le_add_right _ 2) _).setCell (Nat.le_add_right _ 2) _).setCell (Nat.le_add_right _ 2) _)
  subst h1
  have G2 : Hid (¬ CR = 0 → Q = (Ag.Agent.none, CR)) := F2.out rfl
  have G3 := F3.out rfl
  have G4 := F4.out rfl
  have G5 := F5.out rfl
  have G6 := F6.out rfl
  clear F1 F2 F3 F4 F5 F6
  have H3 : Hid (CR = 0 → r1 = 1 → r3 ≤ t → Q = (Ag.Agent.none, 7)) := G3
  have H4 : Hid (CR = 0 → r1 = 1 → t < r3 → Q = (⟨L, p, r3, true, r6, r7, false⟩, 0)) := G4
  have H5 : Hid (CR = 0 → ¬ r1 = 1 → 3 < r1 → Q = (Ag.Agent.none, 4)) := G5
  have H6 : Hid (CR = 0 → ¬ r1 = 1 → r1 ≤ 3 → Q = (Ag.Agent.none, 7) ∧ ¬ (g = true ∧ t = r3)) := G6
  clear G3 G4 G5 G6
  have k0 := HR1.out.cell 0
  have k1 := HR1.out.cell 1
  have k2 := HR1.out.cell 2
  have k3 := HR1.out.cell 3
  have k4 := HR1.out.cell 4
  have k5 := HR1.out.cell 5
  have k6 := HR1.out.cell 6
  simp only [List.getElem?_toArray, List.getElem?_cons_zero, List.getElem?_cons_succ] at k0 k1 k2 k3 k4 k5 k6
  go_wp2_with fail
  refine (HCR.out _ HB1.out).mono ?_
  rintro e w2 ⟨rfl, hb2⟩
  have HB2 : Hid (Below w.heap.size w w2) := HB1.out.trans (hb2.mono HB1.out.size)
  have HA2 : Hid (Blk w2 _ _ _) := HA1.out.below hb2
  have HR2 : Hid (Blk w2 _ _ _) := HR1.out.below hb2
  have HN2 : Hid (Blk w2 _ _ _) := HN1.out.below hb2
  clear hb2 HB1 HA1 HR1 HN1 HCR k0 k1 k2 k3 k4 k5 k6
  by_cases h2 : CR = 0
  rotate_left
  · have h2b : (CR != 0) = true := by rw [bne_iff_ne]; exact h2
    have HQ : Hid (Q = (Ag.Agent.none, CR)) := G2.out h2
    clear G2 H3 H4 H5 H6 h2 HA2 HR2 HF
    go_wp2_with fail
    refine (agbad_any CR _).mono ?_
    rintro e w9 ⟨rfl, hb9⟩
    have HB9 : Hid (Below w.heap.size w w9) := HB2.out.trans (hb9.mono HB2.out.size)
    have hn9 := HN2.out.below hb9
    clear hb9 HB2 HN2
    have d0 := hn9.cell 0
    have d1 := hn9.cell 1
    have d2 := hn9.cell 2
    have d3 := hn9.cell 3
    have d4 := hn9.cell 4
    have d5 := hn9.cell 5
    have d6 := hn9.cell 6
    simp only [List.getElem?_toArray, List.getElem?_cons_zero, List.getElem?_cons_succ] at d0 d1 d2 d3 d4 d5 d6
    have df0 := hn9.free 0
    have df1 := hn9.free 1
    have df2 := hn9.free 2
    have df3 := hn9.free 3
    have df4 := hn9.free 4
    have df5 := hn9.free 5
    have df6 := hn9.free 6
    clear hn9
    go_wp2
    refine bodyPost_ret (v := .tuple #[.agg #[.slice none 0 0, .int .i64 0, .int .i64 0, .bool false, .int .i64 0, .slice none 0 0, .bool false], .int .i64 CR]) (by simp [results, Try.results9, go_sem, d0, d1, d2, d3, d4, d5, d6]) rfl ⟨agX_none HQ.out, ?_⟩
    exact (((((((HB9.out.setCell (Nat.le_add_right _ 2) _).setCell (Nat.le_add_right _ 2) _).setCell (Nat.le_add_right _ 2) _).setCell (Nat.le_add_right _ 2) _).setCell (Nat.le_add_right _ 2) _).setCell (Nat.le_add_right _ 2) _).setCell (Nat.le_add_right _ 2) _)
  subst h2
  have k0 := HR2.out.cell 0
  have k1 := HR2.out.cell 1
  have k2 := HR2.out.cell 2
  have k3 := HR2.out.cell 3
  have k4 := HR2.out.cell 4
  have k5 := HR2.out.cell 5
  have k6 := HR2.out.cell 6
  simp only [List.getElem?_toArray, List.getElem?_cons_zero, List.getElem?_cons_succ] at k0 k1 k2 k3 k4 k5 k6
  have x0 := HA2.out.cell 0
  have x1 := HA2.out.cell 1
  have x2 := HA2.out.cell 2
  have x3 := HA2.out.cell 3
  have x4 := HA2.out.cell 4
  have x5 := HA2.out.cell 5
  have x6 := HA2.out.cell 6
  simp only [List.getElem?_toArray, List.getElem?_cons_zero, List.getElem?_cons_succ] at x0 x1 x2 x3 x4 x5 x6
  clear G2 HA2 HR2
  by_cases e1 : r1 = 1
  · subst e1
    by_cases e2 : r3 ≤ t
    · have HQ : Hid (Q = (Ag.Agent.none, 7)) := H3.out rfl rfl e2
      clear H3 H4 H5 H6 HF
      go_wp2_with fail
      refine (agbad_any 7 _).mono ?_
      rintro e w9 ⟨rfl, hb9⟩
      have HB9 : Hid (Below w.heap.size w w9) := HB2.out.trans (hb9.mono HB2.out.size)
      have hn9 := HN2.out.below hb9
      clear hb9 HB2 HN2
      have d0 := hn9.cell 0
      have d1 := hn9.cell 1
      have d2 := hn9.cell 2
      have d3 := hn9.cell 3
      have d4 := hn9.cell 4
      have d5 := hn9.cell 5
      have d6 := hn9.cell 6
      simp only [List.getElem?_toArray, List.getElem?_cons_zero, List.getElem?_cons_succ] at d0 d1 d2 d3 d4 d5 d6
      have df0 := hn9.free 0
      have df1 := hn9.free 1
      have df2 := hn9.free 2
      have df3 := hn9.free 3
      have df4 := hn9.free 4
      have df5 := hn9.free 5
      have df6 := hn9.free 6
      clear hn9
      go_wp2
      refine bodyPost_ret (v := .tuple #[.agg #[.slice none 0 0, .int .i64 0, .int .i64 0, .bool false, .int .i64 0, .slice none 0 0, .bool false], .int .i64 7]) (by simp [results, Try.results9, go_sem, d0, d1, d2, d3, d4, d5, d6]) rfl ⟨agX_none HQ.out, ?_⟩
      exact (((((((HB9.out.setCell (Nat.le_add_right _ 2) _).setCell (Nat.le_add_right _ 2) _).setCell (Nat.le_add_right _ 2) _).setCell (Nat.le_add_right _ 2) _).setCell (Nat.le_add_right _ 2) _).setCell (Nat.le_add_right _ 2) _).setCell (Nat.le_add_right _ 2) _)
    · have HQ : Hid (Q = (⟨L, p, r3, true, r6, r7, false⟩, 0)) := H4.out rfl rfl (by omega)
      have e2' : decide (r3 ≤ t) = false := decide_eq_false e2
      have hn9 := HN2.out
      have HB9 := HB2
      clear H3 H4 H5 H6 HN2 HB2 e2
      have d0 := hn9.cell 0
      have d1 := hn9.cell 1
      have d2 := hn9.cell 2
      have d3 := hn9.cell 3
      have d4 := hn9.cell 4
      have d5 := hn9.cell 5
      have d6 := hn9.cell 6
      simp only [List.getElem?_toArray, List.getElem?_cons_zero, List.getElem?_cons_succ] at d0 d1 d2 d3 d4 d5 d6
      have df0 := hn9.free 0
      have df1 := hn9.free 1
      have df2 := hn9.free 2
      have df3 := hn9.free 3
      have df4 := hn9.free 4
      have df5 := hn9.free 5
      have df6 := hn9.free 6
      clear hn9
      go_wp2
      refine bodyPost_ret (v := .tuple #[.agg #[.slice a n c, .int .i64 p, .int .i64 r3, .bool true, .int .i64 r6, .slice b q f, .bool false], .int .i64 0]) (by simp [results, Try.results9, go_sem, d0, d1, d2, d3, d4, d5, d6]) rfl ?_
      refine ⟨by rw [HQ.out]; exact HF.out _ ((((((((HB9.out.setCell (Nat.le_add_right _ 2) _).setCell (Nat.le_add_right _ 2) _).setCell (Nat.le_add_right _ 2) _).setCell (Nat.le_add_right _ 2) _).setCell (Nat.le_add_right _ 2) _).setCell (Nat.le_add_right _ 2) _).setCell (Nat.le_add_right _ 2) _)), ?_⟩
      exact (((((((HB9.out.setCell (Nat.le_add_right _ 2) _).setCell (Nat.le_add_right _ 2) _).setCell (Nat.le_add_right _ 2) _).setCell (Nat.le_add_right _ 2) _).setCell (Nat.le_add_right _ 2) _).setCell (Nat.le_add_right _ 2) _).setCell (Nat.le_add_right _ 2) _)
  · have e1' : (r1 == 1) = false := by simpa using e1
    by_cases e3 : 3 < r1
    · have HQ : Hid (Q = (Ag.Agent.none, 4)) := H5.out rfl e1 e3
      clear H3 H4 H5 H6 HF e1
      go_wp2_with fail
      refine (agbad_any 4 _).mono ?_
      rintro e w9 ⟨rfl, hb9⟩
      have HB9 : Hid (Below w.heap.size w w9) := HB2.out.trans (hb9.mono HB2.out.size)
      have hn9 := HN2.out.below hb9
      clear hb9 HB2 HN2
      have d0 := hn9.cell 0
      have d1 := hn9.cell 1
      have d2 := hn9.cell 2
      have d3 := hn9.cell 3
      have d4 := hn9.cell 4
      have d5 := hn9.cell 5
      have d6 := hn9.cell 6
      simp only [List.getElem?_toArray, List.getElem?_cons_zero, List.getElem?_cons_succ] at d0 d1 d2 d3 d4 d5 d6
      have df0 := hn9.free 0
      have df1 := hn9.free 1
      have df2 := hn9.free 2
      have df3 := hn9.free 3
      have df4 := hn9.free 4
      have df5 := hn9.free 5
      have df6 := hn9.free 6
      clear hn9
      go_wp2
      refine bodyPost_ret (v := .tuple #[.agg #[.slice none 0 0, .int .i64 0, .int .i64 0, .bool false, .int .i64 0, .slice none 0 0, .bool false], .int .i64 4]) (by simp [results, Try.results9, go_sem, d0, d1, d2, d3, d4, d5, d6]) rfl ⟨agX_none HQ.out, ?_⟩
      exact (((((((HB9.out.setCell (Nat.le_add_right _ 2) _).setCell (Nat.le_add_right _ 2) _).setCell (Nat.le_add_right _ 2) _).setCell (Nat.le_add_right _ 2) _).setCell (Nat.le_add_right _ 2) _).setCell (Nat.le_add_right _ 2) _).setCell (Nat.le_add_right _ 2) _)
    · obtain ⟨hq, hno⟩ := H6.out rfl e1 (by omega)
      have HQ : Hid (Q = (Ag.Agent.none, 7)) := hq
      have e3' : decide (3 < r1) = false := decide_eq_false e3
      have e3'' : r1 ≤ 3 := by omega
      clear H3 H4 H5 H6 HF e1 hq
      cases g
      · clear hno
        go_wp2_with fail
        refine (agbad_any 7 _).mono ?_
        rintro e w9 ⟨rfl, hb9⟩
        have HB9 : Hid (Below w.heap.size w w9) := HB2.out.trans (hb9.mono HB2.out.size)
        have hn9 := HN2.out.below hb9
        clear hb9 HB2 HN2
        have d0 := hn9.cell 0
        have d1 := hn9.cell 1
        have d2 := hn9.cell 2
        have d3 := hn9.cell 3
        have d4 := hn9.cell 4
        have d5 := hn9.cell 5
        have d6 := hn9.cell 6
        simp only [List.getElem?_toArray, List.getElem?_cons_zero, List.getElem?_cons_succ] at d0 d1 d2 d3 d4 d5 d6
        have df0 := hn9.free 0
        have df1 := hn9.free 1
        have df2 := hn9.free 2
        have df3 := hn9.free 3
        have df4 := hn9.free 4
        have df5 := hn9.free 5
        have df6 := hn9.free 6
        clear hn9
        go_wp2
        refine bodyPost_ret (v := .tuple #[.agg #[.slice none 0 0, .int .i64 0, .int .i64 0, .bool false, .int .i64 0, .slice none 0 0, .bool false], .int .i64 7]) (by simp [results, Try.results9, go_sem, d0, d1, d2, d3, d4, d5, d6]) rfl ⟨agX_none HQ.out, ?_⟩
        exact (((((((HB9.out.setCell (Nat.le_add_right _ 2) _).setCell (Nat.le_add_right _ 2) _).setCell (Nat.le_add_right _ 2) _).setCell (Nat.le_add_right _ 2) _).setCell (Nat.le_add_right _ 2) _).setCell (Nat.le_add_right _ 2) _).setCell (Nat.le_add_right _ 2) _)
      · have hne : (t != r3) = true := by rw [bne_iff_ne]; exact fun h => hno ⟨rfl, h⟩
        clear hno
        go_wp2_with fail
        refine (agbad_any 7 _).mono ?_
        rintro e w9 ⟨rfl, hb9⟩
        have HB9 : Hid (Below w.heap.size w w9) := HB2.out.trans (hb9.mono HB2.out.size)
        have hn9 := HN2.out.below hb9
        clear hb9 HB2 HN2
        have d0 := hn9.cell 0
        have d1 := hn9.cell 1
        have d2 := hn9.cell 2
        have d3 := hn9.cell 3
        have d4 := hn9.cell 4
        have d5 := hn9.cell 5
        have d6 := hn9.cell 6
        simp only [List.getElem?_toArray, List.getElem?_cons_zero, List.getElem?_cons_succ] at d0 d1 d2 d3 d4 d5 d6
        have df0 := hn9.free 0
        have df1 := hn9.free 1
        have df2 := hn9.free 2
        have df3 := hn9.free 3
        have df4 := hn9.free 4
        have df5 := hn9.free 5
        have df6 := hn9.free 6
        clear hn9
        go_wp2
        refine bodyPost_ret (v := .tuple #[.agg #[.slice none 0 0, .int .i64 0, .int .i64 0, .bool false, .int .i64 0, .slice none 0 0, .bool false], .int .i64 7]) (by simp [results, Try.results9, go_sem, d0, d1, d2, d3, d4, d5, d6]) rfl ⟨agX_none HQ.out, ?_⟩
        exact (((((((HB9.out.setCell (Nat.le_add_right _ 2) _).setCell (Nat.le_add_right _ 2) _).setCell (Nat.le_add_right _ 2) _).setCell (Nat.le_add_right _ 2) _).setCell (Nat.le_add_right _ 2) _).setCell (Nat.le_add_right _ 2) _).setCell (Nat.le_add_right _ 2) _)
end Go.Proofs.Ytbnaaookeagjgaa
