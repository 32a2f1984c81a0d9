/- The contracts of whole.Release, agent.New and agent.copyOf. -/
import Derived.Test.YtpenkhehceglfaaGreatDoorMI
import Derived.Test.YtpenkhehceglfaaGreatDoorMH
namespace Go.Proofs.YtpenkhehceglfaaGreatDoor
open Go.RowKit
theorem Blk.put {w : World} {b : Nat} {cs : Array Value} {t : TypeId} (h : Blk w b cs t) (i : Nat) (v : Value) : Blk (w.setCell ⟨b, i, none⟩ v) b (cs.setIfInBounds i v) t := by
  unfold Blk at h ⊢
  simp [World.setCell, Array.getElem?_modify, h]
theorem Blk.off {w : World} {b g o : Nat} {cs : Array Value} {t : TypeId} {u : Value} (h : Blk w b cs t) (hne : g ≠ b) : Blk (w.setCell ⟨g, o, none⟩ u) b cs t := by
  unfold Blk at h ⊢
  simp [World.setCell, Array.getElem?_modify, h, hne]
/-- an agent's block of zeros holds no pin -/
theorem blkZ {w : World} {g : Nat} {t : TypeId} (h : Blk w g #[.slice none 0 0, .int .i64 0, .int .i64 0, .bool false, .int .i64 0, .slice none 0 0, .bool false] t) : ∀ k x, w.cell? ⟨g, k, none⟩ = some x → x = .int .i64 0 ∨ ∀ y, x ≠ .int .i64 y := by
  intro k x hx
  rw [h.cell k] at hx
  match k with
  | 0 => simp at hx; subst hx; exact .inr (by simp)
  | 1 => simp at hx; subst hx; exact .inl rfl
  | 2 => simp at hx; subst hx; exact .inl rfl
  | 3 => simp at hx; subst hx; exact .inr (by simp)
  | 4 => simp at hx; subst hx; exact .inl rfl
  | 5 => simp at hx; subst hx; exact .inr (by simp)
  | 6 => simp at hx; subst hx; exact .inr (by simp)
  | k + 7 => simp at hx
/-- what Next answers: its pins are its own -/
def agN (w : World) (base : Nat) (q : Ag.Agent × Int) (e : Ending) : Prop := ∃ z u, e = .returned (.tuple #[agV q.1 z u, .int .i64 q.2]) ∧ PinsNew w base z q.1.lock ∧ PinsNew w base u q.1.glock
theorem agN_none (w : World) (base : Nat) {q : Ag.Agent × Int} {x : Int} (h : q = (Ag.Agent.none, x)) : agN w base q (.returned (.tuple #[.agg #[.slice none 0 0, .int .i64 0, .int .i64 0, .bool false, .int .i64 0, .slice none 0 0, .bool false], .int .i64 x])) := by
  subst h; exact ⟨_, _, rfl, pinsNew_none _ _, pinsNew_none _ _⟩
theorem agN.r {w : World} {base : Nat} {q : Ag.Agent × Int} {e : Ending} (h : agN w base q e) : agR w q e := by
  obtain ⟨z, u, h1, h2, h3⟩ := h
  exact ⟨z, u, h1, h2.pins, h3.pins⟩
theorem chk_len {l : List (Int × Int)} (h : Lk.chk l = 0) : l.length ≤ 12 := by
  unfold Lk.chk at h
  by_cases hl : 12 < l.length
  · rw [if_pos hl] at h; exact absurd h (by decide)
  · omega
set_option maxHeartbeats 2000000 in
theorem copyRel_any (i : Int) (v : Value) (l : List (Int × Int)) (w : World) (hP : PinsAt w v l) (hl : l.length ≤ 12) :
    Calls Tryz.prog 24 #[relV i v] w fun e w' => (∃ y, e = .returned (relV i y) ∧ PinsNew w' w.heap.size y l) ∧ Below w.heap.size w w' := by
  obtain ⟨a, c, rfl⟩ := pins_slice hP
  have HC : Hid (∀ w', Below w.heap.size w w' → Calls Tryz.prog 43 #[.slice a l.length c] w' fun e w'' => (∃ y, e = .returned y ∧ PinsNew w'' w'.heap.size y l) ∧ Below w'.heap.size w' w'') := fun w' hb => clonePins_any _ l w' (hP.below hb) hl
  clear hP hl
  unfold relV
  have HB0 : Hid (Below w.heap.size w ((w.alloc (.cells #[.int .i64 i, .slice a l.length c] 24)).alloc (.cells #[.int .i64 0, .slice none 0 0] 24))) := ((Below.refl _ w).alloc (Nat.le_refl _) _).alloc (by simp) _
  have HK0 : Hid (Blk ((w.alloc (.cells #[.int .i64 i, .slice a l.length c] 24)).alloc (.cells #[.int .i64 0, .slice none 0 0] 24)) w.heap.size #[.int .i64 i, .slice a l.length c] 24) := (blk_alloc w _ _).below ((Below.refl _ _).alloc (Nat.le_refl _) _)
  have HZ0 : Hid (Blk ((w.alloc (.cells #[.int .i64 i, .slice a l.length c] 24)).alloc (.cells #[.int .i64 0, .slice none 0 0] 24)) (w.heap.size + 1) #[.int .i64 0, .slice none 0 0] 24) := by
    have := blk_alloc (w.alloc (.cells #[.int .i64 i, .slice a l.length c] 24)) #[.int .i64 0, .slice none 0 0] 24
    rwa [World.size_alloc] at this
  go_enter Tryz.func24, Tryz.ntmps24
  go_wp2_with fail
  generalize ((w.alloc (.cells #[.int .i64 i, .slice a l.length c] 24)).alloc (.cells #[.int .i64 0, .slice none 0 0] 24)) = W at HB0 HK0 HZ0 ⊢
  refine (HC.out _ HB0.out).mono ?_
  rintro e w1 ⟨⟨y, rfl, hy⟩, hb1⟩
  obtain ⟨ya, yc, rfl⟩ := pins_slice hy.pins
  have HY : Hid (PinsNew w1 W.heap.size (.slice ya l.length yc) l) := hy
  have HB1 : Hid (Below w.heap.size w w1) := HB0.out.trans (hb1.mono HB0.out.size)
  have hk := HK0.out.below hb1
  have hz := HZ0.out.below hb1
  have HL1 : Hid (w.heap.size < W.heap.size) := HK0.out.lt
  have HL2 : Hid (w.heap.size + 1 < W.heap.size) := HZ0.out.lt
  clear hy hb1 HB0 HK0 HZ0 HC
  have k0 := hk.cell 0
  have k1 := hk.cell 1
  simp only [List.getElem?_toArray, List.getElem?_cons_zero, List.getElem?_cons_succ] at k0 k1
  have kf0 := hk.free 0
  have kf1 := hk.free 1
  have d0 := hz.cell 0
  have d1 := hz.cell 1
  simp only [List.getElem?_toArray, List.getElem?_cons_zero, List.getElem?_cons_succ] at d0 d1
  have df0 := hz.free 0
  have df1 := hz.free 1
  clear hk hz
  go_wp2
  refine bodyPost_ret (v := .agg #[.int .i64 i, .slice ya l.length yc]) (by simp [results, Tryz.results24, go_sem, d0, d1]) rfl ⟨⟨_, rfl, ?_⟩, ?_⟩
  · exact (((HY.out.set HL1.out).set HL2.out).set HL2.out).mono (Nat.le_of_lt HL1.out)
  · exact (((HB1.out.setCell (Nat.le_refl _) _).setCell (Nat.le_succ _) _).setCell (Nat.le_succ _) _)
set_option maxHeartbeats 4000000 in
theorem agNew_any (i : Int) (v : Value) (l : List (Int × Int)) (w : World) (hP : PinsAt w v l) :
    Calls Tryz.prog 17 #[relV i v] w fun e w' => agR w' (Ag.newA i l) e ∧ Below w.heap.size w w' := by
  obtain ⟨a, c, rfl⟩ := pins_slice hP
  have HC : Hid (l.length ≤ 12 → ∀ w', Below w.heap.size w w' → Calls Tryz.prog 43 #[.slice a l.length c] w' fun e w'' => (∃ y, e = .returned y ∧ PinsNew w'' w'.heap.size y l) ∧ Below w'.heap.size w' w'') := fun hl w' hb => clonePins_any _ l w' (hP.below hb) hl
  have HR : Hid (∀ w', Below w.heap.size w w' → Calls Tryz.prog 42 #[.agg #[.int .i64 i, .slice a l.length c]] w' fun e w'' => e = .returned (.int .i64 (Lk.chkRel i l)) ∧ Below w'.heap.size w' w'') := fun w' hb => release_any i _ l w' (hP.below hb)
  have F1 : Hid (¬ Lk.chkRel i l = 0 → Ag.newA i l = (Ag.Agent.none, Lk.chkRel i l)) := fun h => by unfold Ag.newA; rw [if_neg h]
  have F2 : Hid (Lk.chkRel i l = 0 → l.length ≤ 12 ∧ Ag.newA i l = (⟨l, i, 0, false, 0, [], true⟩, 0)) := fun h => ⟨chk_len (Ag.rel_parts h).2, by unfold Ag.newA; rw [if_pos h]; rfl⟩
  clear hP
  unfold relV
  generalize Ag.newA i l = Q at F1 F2 ⊢
  generalize Lk.chkRel i l = C at F1 F2 HR
  have HB0 : Hid (Below w.heap.size w ((w.alloc (.cells #[.int .i64 i, .slice a l.length c] 24)).alloc (.cells #[.slice none 0 0, .int .i64 0, .int .i64 0, .bool false, .int .i64 0, .slice none 0 0, .bool false] 27))) := ((Below.refl _ w).alloc (Nat.le_refl _) _).alloc (by simp) _
  have HK0 : Hid (Blk ((w.alloc (.cells #[.int .i64 i, .slice a l.length c] 24)).alloc (.cells #[.slice none 0 0, .int .i64 0, .int .i64 0, .bool false, .int .i64 0, .slice none 0 0, .bool false] 27)) w.heap.size #[.int .i64 i, .slice a l.length c] 24) := (blk_alloc w _ _).below ((Below.refl _ _).alloc (Nat.le_refl _) _)
  have HZ0 : Hid (Blk ((w.alloc (.cells #[.int .i64 i, .slice a l.length c] 24)).alloc (.cells #[.slice none 0 0, .int .i64 0, .int .i64 0, .bool false, .int .i64 0, .slice none 0 0, .bool false] 27)) (w.heap.size + 1) #[.slice none 0 0, .int .i64 0, .int .i64 0, .bool false, .int .i64 0, .slice none 0 0, .bool false] 27) := by
    have := blk_alloc (w.alloc (.cells #[.int .i64 i, .slice a l.length c] 24)) #[.slice none 0 0, .int .i64 0, .int .i64 0, .bool false, .int .i64 0, .slice none 0 0, .bool false] 27
    rwa [World.size_alloc] at this
  go_enter Tryz.func17, Tryz.ntmps17
  go_wp2_with fail
  generalize ((w.alloc (.cells #[.int .i64 i, .slice a l.length c] 24)).alloc (.cells #[.slice none 0 0, .int .i64 0, .int .i64 0, .bool false, .int .i64 0, .slice none 0 0, .bool false] 27)) = W at HB0 HK0 HZ0 ⊢
  refine (HR.out _ HB0.out).mono ?_
  rintro e w1 ⟨rfl, hb1⟩
  have HB1 : Hid (Below w.heap.size w w1) := HB0.out.trans (hb1.mono HB0.out.size)
  have HK1 : Hid (Blk w1 w.heap.size #[.int .i64 i, .slice a l.length c] 24) := HK0.out.below hb1
  have HZ1 : Hid (Blk w1 (w.heap.size + 1) #[.slice none 0 0, .int .i64 0, .int .i64 0, .bool false, .int .i64 0, .slice none 0 0, .bool false] 27) := HZ0.out.below hb1
  clear hb1 HB0 HK0 HZ0 HR
  by_cases h1 : C = 0
  rotate_left
  · have h1b : (C != 0) = true := by rw [bne_iff_ne]; exact h1
    have HQ : Hid (Q = (Ag.Agent.none, C)) := F1.out h1
    clear F1 F2 h1 HC HK1
    have d0 := HZ1.out.cell 0
    have d1 := HZ1.out.cell 1
    have d2 := HZ1.out.cell 2
    have d3 := HZ1.out.cell 3
    have d4 := HZ1.out.cell 4
    have d5 := HZ1.out.cell 5
    have d6 := HZ1.out.cell 6
    simp only [List.getElem?_toArray, List.getElem?_cons_zero, List.getElem?_cons_succ] at d0 d1 d2 d3 d4 d5 d6
    have df0 := HZ1.out.free 0
    have df1 := HZ1.out.free 1
    have df2 := HZ1.out.free 2
    have df3 := HZ1.out.free 3
    have df4 := HZ1.out.free 4
    have df5 := HZ1.out.free 5
    have df6 := HZ1.out.free 6
    clear HZ1
    go_wp2
    refine bodyPost_ret (v := .tuple #[.agg #[.slice none 0 0, .int .i64 0, .int .i64 0, .bool false, .int .i64 0, .slice none 0 0, .bool false], .int .i64 C]) (by simp [results, Tryz.results17, go_sem, d0, d1, d2, d3, d4, d5, d6]) rfl ⟨agR_none _ HQ.out, ?_⟩
    exact (((((((HB1.out.setCell (Nat.le_succ _) _).setCell (Nat.le_succ _) _).setCell (Nat.le_succ _) _).setCell (Nat.le_succ _) _).setCell (Nat.le_succ _) _).setCell (Nat.le_succ _) _).setCell (Nat.le_succ _) _)
  subst h1
  obtain ⟨hl, hq⟩ := F2.out rfl
  have HQ : Hid (Q = (⟨l, i, 0, false, 0, [], true⟩, 0)) := hq
  have HC' : Hid (∀ w', Below w.heap.size w w' → Calls Tryz.prog 43 #[.slice a l.length c] w' fun e w'' => (∃ y, e = .returned y ∧ PinsNew w'' w'.heap.size y l) ∧ Below w'.heap.size w' w'') := HC.out hl
  clear F1 F2 HC hl hq
  have HL1 : Hid (w.heap.size < w1.heap.size) := HK1.out.lt
  have HL2 : Hid (w.heap.size + 1 < w1.heap.size) := HZ1.out.lt
  have HB1d : Hid (Below w.heap.size w w1.drew) := HB1.out.drew
  have k0 := (show Blk w1.drew w.heap.size _ _ from HK1.out).cell 0
  have k1 := (show Blk w1.drew w.heap.size _ _ from HK1.out).cell 1
  simp only [List.getElem?_toArray, List.getElem?_cons_zero, List.getElem?_cons_succ] at k0 k1
  go_wp2_with fail
  go_region_with (go_at_call 43; refine (HC'.out _ HB1d.out).mono ?_; rintro e w2 ⟨⟨y, rfl, hy⟩, hb2⟩; obtain ⟨ya, yc, rfl⟩ := pins_slice hy.pins; have HY : Hid (PinsNew w2 w1.heap.size (.slice ya l.length yc) l) := hy; have HB2 : Hid (Below w.heap.size w w2) := HB1d.out.trans (hb2.mono HB1d.out.size); have kk0 := (Blk.below (show Blk w1.drew w.heap.size _ _ from HK1.out) hb2).cell 0; have hz2 : Blk w2 (w.heap.size + 1) _ _ := Blk.below (show Blk w1.drew (w.heap.size + 1) _ _ from HZ1.out) hb2; simp only [List.getElem?_toArray, List.getElem?_cons_zero] at kk0; clear hy hb2; have d0 := hz2.cell 0; have df0 := hz2.free 0; have d1 := hz2.cell 1; have df1 := hz2.free 1; have d2 := hz2.cell 2; have df2 := hz2.free 2; have d3 := hz2.cell 3; have df3 := hz2.free 3; have d4 := hz2.cell 4; have df4 := hz2.free 4; have d5 := hz2.cell 5; have df5 := hz2.free 5; have d6 := hz2.cell 6; have df6 := hz2.free 6; simp only [List.getElem?_toArray, List.getElem?_cons_zero, List.getElem?_cons_succ] at d0 d1 d2 d3 d4 d5 d6; clear hz2)
  all_goals
    go_wp2
    refine bodyPost_ret (v := .tuple #[.agg #[.slice ya l.length yc, .int .i64 i, .int .i64 0, .bool false, .int .i64 0, .slice none 0 0, .bool true], .int .i64 0]) (by simp [results, Tryz.results17, go_sem, d0, d1, d2, d3, d4, d5, d6]) rfl ⟨?_, ?_⟩
    · rw [HQ.out]
      exact ⟨_, _, rfl, ((((((((HY.out.set HL2.out).set HL2.out).set HL2.out).set HL2.out).set HL2.out).set HL2.out).set HL2.out)).pins, pins_none _⟩
    · exact (((((((HB2.out.setCell (Nat.le_succ _) _).setCell (Nat.le_succ _) _).setCell (Nat.le_succ _) _).setCell (Nat.le_succ _) _).setCell (Nat.le_succ _) _).setCell (Nat.le_succ _) _).setCell (Nat.le_succ _) _)
end Go.Proofs.YtpenkhehceglfaaGreatDoor
