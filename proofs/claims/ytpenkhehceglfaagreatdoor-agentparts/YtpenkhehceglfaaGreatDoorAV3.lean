/- The contracts of agent.copyOf and agent.checkTurn. -/
import Derived.Test.YtpenkhehceglfaaGreatDoorAV2
namespace Go.Proofs.YtpenkhehceglfaaGreatDoor
open Go.RowKit
set_option maxHeartbeats 4000000 in
theorem copyAg_any (L M : List (Int × Int)) (p t i : Int) (g d : Bool) (v u : Value) (w : World) (hP : PinsAt w v L) (hQ : PinsAt w u M) (hL : L.length ≤ 12) (hM : M.length ≤ 12) :
    Calls Tryz.prog 23 #[agV ⟨L, p, t, g, i, M, d⟩ v u] w fun e w' => (∃ y z, e = .returned (agV ⟨L, p, t, g, i, M, d⟩ y z) ∧ PinsNew w' w.heap.size y L ∧ PinsNew w' w.heap.size z M) ∧ Below w.heap.size w w' := by
  obtain ⟨a, c, rfl⟩ := pins_slice hP
  obtain ⟨a', c', rfl⟩ := pins_slice hQ
  have HC : Hid (∀ w', Below w.heap.size w w' → Calls Tryz.prog 43 #[.slice a L.length c] w' fun e w'' => (∃ y, e = .returned y ∧ PinsNew w'' w'.heap.size y L) ∧ Below w'.heap.size w' w'') := fun w' hb => clonePins_any _ L w' (hP.below hb) hL
  have HR : Hid (∀ w', Below w.heap.size w w' → Calls Tryz.prog 24 #[.agg #[.int .i64 i, .slice a' M.length c']] w' fun e w'' => (∃ y, e = .returned (.agg #[.int .i64 i, y]) ∧ PinsNew w'' w'.heap.size y M) ∧ Below w'.heap.size w' w'') := fun w' hb => copyRel_any i _ M w' (hQ.below hb) hM
  clear hP hQ hL hM
  unfold agV agC
  simp only
  generalize hn : L.length = n at HC ⊢
  generalize hm : M.length = m at HR ⊢
  have HB0 : Hid (Below w.heap.size w ((w.alloc (.cells #[.slice a n c, .int .i64 p, .int .i64 t, .bool g, .int .i64 i, .slice a' m c', .bool d] 27)).alloc (.cells #[.slice none 0 0, .int .i64 0, .int .i64 0, .bool false, .int .i64 0, .slice none 0 0, .bool false] 27))) := ((Below.refl _ w).alloc (Nat.le_refl _) _).alloc (by simp) _
  have HK0 : Hid (Blk ((w.alloc (.cells #[.slice a n c, .int .i64 p, .int .i64 t, .bool g, .int .i64 i, .slice a' m c', .bool d] 27)).alloc (.cells #[.slice none 0 0, .int .i64 0, .int .i64 0, .bool false, .int .i64 0, .slice none 0 0, .bool false] 27)) w.heap.size #[.slice a n c, .int .i64 p, .int .i64 t, .bool g, .int .i64 i, .slice a' m c', .bool d] 27) := (blk_alloc w _ _).below ((Below.refl _ _).alloc (Nat.le_refl _) _)
  have HZ0 : Hid (Blk ((w.alloc (.cells #[.slice a n c, .int .i64 p, .int .i64 t, .bool g, .int .i64 i, .slice a' m c', .bool d] 27)).alloc (.cells #[.slice none 0 0, .int .i64 0, .int .i64 0, .bool false, .int .i64 0, .slice none 0 0, .bool false] 27)) (w.heap.size + 1) #[.slice none 0 0, .int .i64 0, .int .i64 0, .bool false, .int .i64 0, .slice none 0 0, .bool false] 27) := by
    have := blk_alloc (w.alloc (.cells #[.slice a n c, .int .i64 p, .int .i64 t, .bool g, .int .i64 i, .slice a' m c', .bool d] 27)) #[.slice none 0 0, .int .i64 0, .int .i64 0, .bool false, .int .i64 0, .slice none 0 0, .bool false] 27
    rwa [World.size_alloc] at this
  have HN : Hid (L.length = n) := hn
  have HM : Hid (M.length = m) := hm
  clear hn hm
  go_enter Tryz.func23, Tryz.ntmps23
  go_upto_region 1 with fail
  generalize ((w.alloc (.cells #[.slice a n c, .int .i64 p, .int .i64 t, .bool g, .int .i64 i, .slice a' m c', .bool d] 27)).alloc (.cells #[.slice none 0 0, .int .i64 0, .int .i64 0, .bool false, .int .i64 0, .slice none 0 0, .bool false] 27)) = W at HB0 HK0 HZ0 ⊢
  go_cut [] from 3 to 10 (fun wx => ∃ ya yc za zc, Hid (Blk wx w.heap.size #[.slice ya n yc, .int .i64 p, .int .i64 t, .bool g, .int .i64 i, .slice za m zc, .bool d] 27 ∧ Blk wx (w.heap.size + 1) #[.slice none 0 0, .int .i64 0, .int .i64 0, .bool false, .int .i64 0, .slice none 0 0, .bool false] 27 ∧ PinsNew wx W.heap.size (.slice ya n yc) L ∧ PinsNew wx W.heap.size (.slice za m zc) M ∧ Below w.heap.size w wx))
  case first =>
    have hB : Below w.heap.size w W.drew := HB0.out.drew
    have hK : Blk W.drew w.heap.size #[.slice a n c, .int .i64 p, .int .i64 t, .bool g, .int .i64 i, .slice a' m c', .bool d] 27 := HK0.out
    have HL1 : Hid (w.heap.size < W.heap.size) := HK0.out.lt
    have hZ : Blk W.drew (w.heap.size + 1) #[.slice none 0 0, .int .i64 0, .int .i64 0, .bool false, .int .i64 0, .slice none 0 0, .bool false] 27 := HZ0.out
    have k0 := hK.cell 0
    have k4 := hK.cell 4
    have k5 := hK.cell 5
    simp only [List.getElem?_toArray, List.getElem?_cons_zero, List.getElem?_cons_succ] at k0 k4 k5
    have kf0 := hK.free 0
    have kf4 := hK.free 4
    have kf5 := hK.free 5
    go_region_with (first
      | (go_at_call 43; refine (HC.out _ (by assumption)).mono ?_; rintro e x1 ⟨⟨y, rfl, hy⟩, hx1⟩; obtain ⟨ya, yc, rfl⟩ := pins_slice hy.pins; rw [HN.out]; have PY : Hid (PinsNew x1 _ (.slice ya L.length yc) L) := hy; rw [HN.out] at PY; clear hy; have hBn : Below w.heap.size w x1 := Below.trans (by assumption) (hx1.mono (Below.size (by assumption))); have hKn : Blk x1 w.heap.size #[.slice a n c, .int .i64 p, .int .i64 t, .bool g, .int .i64 i, .slice a' m c', .bool d] 27 := Blk.below (by assumption) hx1; have hZn : Blk x1 (w.heap.size + 1) #[.slice none 0 0, .int .i64 0, .int .i64 0, .bool false, .int .i64 0, .slice none 0 0, .bool false] 27 := Blk.below (by assumption) hx1; have k0 := hKn.cell 0; have k4 := hKn.cell 4; have k5 := hKn.cell 5; simp only [List.getElem?_toArray, List.getElem?_cons_zero, List.getElem?_cons_succ] at k0 k4 k5; have kf0 := hKn.free 0; have kf4 := hKn.free 4; have kf5 := hKn.free 5;)
      | (go_at_call 24; refine (HR.out _ (by assumption)).mono ?_; rintro e x2 ⟨⟨y, rfl, hy⟩, hx2⟩; obtain ⟨za, zc, rfl⟩ := pins_slice hy.pins; rw [HM.out]; have PZ : Hid (PinsNew x2 _ (.slice za M.length zc) M) := hy; rw [HM.out] at PZ; clear hy; have hBn : Below w.heap.size w x2 := Below.trans (by assumption) (hx2.mono (Below.size (by assumption))); have hKn : Blk x2 w.heap.size #[.slice a n c, .int .i64 p, .int .i64 t, .bool g, .int .i64 i, .slice a' m c', .bool d] 27 := Blk.below (by assumption) hx2; have hZn : Blk x2 (w.heap.size + 1) #[.slice none 0 0, .int .i64 0, .int .i64 0, .bool false, .int .i64 0, .slice none 0 0, .bool false] 27 := Blk.below (by assumption) hx2; have k0 := hKn.cell 0; have k4 := hKn.cell 4; have k5 := hKn.cell 5; simp only [List.getElem?_toArray, List.getElem?_cons_zero, List.getElem?_cons_succ] at k0 k4 k5; have kf0 := hKn.free 0; have kf4 := hKn.free 4; have kf5 := hKn.free 5;))
    all_goals
      go_wp2_with fail
      go_meet
      refine ⟨ya, yc, za, zc, ⟨((hKn.put 0 (.slice ya n yc)).put 4 (.int .i64 i)).put 5 (.slice za m zc), ((hZn.off (by omega)).off (by omega)).off (by omega), ?_, ?_, ((hBn.setCell (Nat.le_refl _) _).setCell (Nat.le_refl _) _).setCell (Nat.le_refl _) _⟩⟩
      · first
          | exact (((PY.out.below hx2).set HL1.out).set HL1.out).set HL1.out
          | exact (((PY.out.mono hx2.size).set HL1.out).set HL1.out).set HL1.out
      · first
          | exact (((PZ.out.mono hx1.size).set HL1.out).set HL1.out).set HL1.out
          | exact (((PZ.out.below hx1).set HL1.out).set HL1.out).set HL1.out
  case rest =>
    obtain ⟨ya, yc, za, zc, HX⟩ := hcut
    have hK := HX.out.1
    have hZ := HX.out.2.1
    have HLa : Hid (w.heap.size + 1 < W.heap.size) := HZ0.out.lt
    have k0 := hK.cell 0
    have k1 := hK.cell 1
    have k2 := hK.cell 2
    have k3 := hK.cell 3
    have k4 := hK.cell 4
    have k5 := hK.cell 5
    have k6 := hK.cell 6
    simp only [List.getElem?_toArray, List.getElem?_cons_zero, List.getElem?_cons_succ] at k0 k1 k2 k3 k4 k5 k6
    have d0 := hZ.cell 0
    have d1 := hZ.cell 1
    have d2 := hZ.cell 2
    have d3 := hZ.cell 3
    have d4 := hZ.cell 4
    have d5 := hZ.cell 5
    have d6 := hZ.cell 6
    simp only [List.getElem?_toArray, List.getElem?_cons_zero, List.getElem?_cons_succ] at d0 d1 d2 d3 d4 d5 d6
    have df0 := hZ.free 0
    have df1 := hZ.free 1
    have df2 := hZ.free 2
    have df3 := hZ.free 3
    have df4 := hZ.free 4
    have df5 := hZ.free 5
    have df6 := hZ.free 6
    clear hK hZ HC HR
    go_wp2
    refine bodyPost_ret (v := .agg #[.slice ya n yc, .int .i64 p, .int .i64 t, .bool g, .int .i64 i, .slice za m zc, .bool d]) (by simp [results, Tryz.results23, go_sem, d0, d1, d2, d3, d4, d5, d6]) rfl ⟨⟨_, _, rfl, ?_, ?_⟩, ?_⟩
    · exact ((((((((HX.out.2.2.1.set HLa.out).set HLa.out).set HLa.out).set HLa.out).set HLa.out).set HLa.out).set HLa.out)).mono (by have := HLa.out; omega)
    · exact ((((((((HX.out.2.2.2.1.set HLa.out).set HLa.out).set HLa.out).set HLa.out).set HLa.out).set HLa.out).set HLa.out)).mono (by have := HLa.out; omega)
    · exact (((((((HX.out.2.2.2.2.setCell (Nat.le_succ _) _).setCell (Nat.le_succ _) _).setCell (Nat.le_succ _) _).setCell (Nat.le_succ _) _).setCell (Nat.le_succ _) _).setCell (Nat.le_succ _) _).setCell (Nat.le_succ _) _)
/-- is a record out of turn? -/
def turnE (g : Bool) (t k r : Int) (n : Nat) : Int :=
  if k = 1 then (if t < r then 0 else 7) else if k = 2 then (if (g && t == r && decide (0 < n)) = true then 0 else 7) else if k = 3 then (if (g && t == r && decide (n = 0)) = true then 0 else 7) else 4
set_option maxHeartbeats 4000000 in
theorem turnA_any (a a' b : Option Addr) (n c m c' q f : Nat) (p t i r1 r2 r3 r4 r6 : Int) (g d r5 : Bool) (k : Nat) (w : World) :
    Calls Tryz.prog 22 #[.agg #[.slice a n c, .int .i64 p, .int .i64 t, .bool g, .int .i64 i, .slice a' m c', .bool d], .agg #[.int .i64 r1, .int .i64 r2, .int .i64 r3, .int .i64 r4, .bool r5, .int .i64 r6, .slice b q f], .int .i64 k] w fun e w' => e = .returned (.int .i64 (turnE g t r1 r3 k)) ∧ Below w.heap.size w w' := by
  have HB : Hid (∀ O O', Below w.heap.size w ((w.alloc O).alloc O')) := fun O O' => ((Below.refl _ w).alloc (Nat.le_refl _) O).alloc (by simp) O'
  have HG : Hid (turnE g t r1 r3 k = if r1 = 1 then (if t < r3 then 0 else 7) else if r1 = 2 then (if (g && t == r3 && decide (0 < k)) = true then 0 else 7) else if r1 = 3 then (if (g && t == r3 && decide (k = 0)) = true then 0 else 7) else 4) := rfl
  generalize turnE g t r1 r3 k = Q at HG ⊢
  generalize hgt : (t == r3) = gt at HG
  by_cases e1 : r1 = 1
  · subst e1
    by_cases h : t < r3
    · have HQ : Hid (Q = 0) := (show Q = 0 from by have := HG.out; simpa [h] using this)
      have h' : decide (t < r3) = true := decide_eq_true h
      clear HG
      cases g <;> cases gt <;> (
        go_enter Tryz.func22, Tryz.ntmps22
        go_wp2
        go_ret
        exact ⟨by rw [HQ.out]; rfl, HB.out _ _⟩)
    · have HQ : Hid (Q = 7) := (show Q = 7 from by have := HG.out; simpa [h] using this)
      have h' : decide (t < r3) = false := decide_eq_false h
      have h'' : r3 ≤ t := by omega
      clear HG h
      cases g <;> cases gt <;> (
        go_enter Tryz.func22, Tryz.ntmps22
        go_wp2
        go_ret
        exact ⟨by rw [HQ.out]; rfl, HB.out _ _⟩)
  have e1' : (r1 == 1) = false := by simpa using e1
  by_cases e2 : r1 = 2
  · subst e2
    cases g
    · have HQ : Hid (Q = 7) := (show Q = 7 from by have := HG.out; simpa using this)
      clear HG e1
      go_enter Tryz.func22, Tryz.ntmps22
      go_wp2
      go_ret
      exact ⟨by rw [HQ.out]; rfl, HB.out _ _⟩
    cases gt
    · have HQ : Hid (Q = 7) := (show Q = 7 from by have := HG.out; simpa using this)
      clear HG e1
      go_enter Tryz.func22, Tryz.ntmps22
      go_wp2
      go_ret
      exact ⟨by rw [HQ.out]; rfl, HB.out _ _⟩
    cases k with
    | zero =>
      have HQ : Hid (Q = 7) := (show Q = 7 from by have := HG.out; simpa using this)
      clear HG e1
      go_enter Tryz.func22, Tryz.ntmps22
      go_wp2
      go_ret
      exact ⟨by rw [HQ.out]; rfl, HB.out _ _⟩
    | succ k =>
      have HQ : Hid (Q = 0) := (show Q = 0 from by have := HG.out; simpa using this)
      have hk : decide ((0 : Int) < ((k + 1 : Nat) : Int)) = true := decide_eq_true (by omega)
      have hk' : (0 : Int) < ((k + 1 : Nat) : Int) := by omega
      generalize ((k + 1 : Nat) : Int) = K at hk hk' ⊢
      clear HG e1
      go_enter Tryz.func22, Tryz.ntmps22
      go_wp2
      go_ret
      exact ⟨by rw [HQ.out]; rfl, HB.out _ _⟩
  have e2' : (r1 == 2) = false := by simpa using e2
  by_cases e3 : r1 = 3
  · subst e3
    cases g
    · have HQ : Hid (Q = 7) := (show Q = 7 from by have := HG.out; simpa using this)
      clear HG e1 e2
      go_enter Tryz.func22, Tryz.ntmps22
      go_wp2
      go_ret
      exact ⟨by rw [HQ.out]; rfl, HB.out _ _⟩
    cases gt
    · have HQ : Hid (Q = 7) := (show Q = 7 from by have := HG.out; simpa using this)
      clear HG e1 e2
      go_enter Tryz.func22, Tryz.ntmps22
      go_wp2
      go_ret
      exact ⟨by rw [HQ.out]; rfl, HB.out _ _⟩
    cases k with
    | zero =>
      have HQ : Hid (Q = 0) := (show Q = 0 from by have := HG.out; simpa using this)
      clear HG e1 e2
      go_enter Tryz.func22, Tryz.ntmps22
      go_wp2
      go_ret
      exact ⟨by rw [HQ.out]; rfl, HB.out _ _⟩
    | succ k =>
      have HQ : Hid (Q = 7) := (show Q = 7 from by have := HG.out; simpa using this)
      have hk : (((k + 1 : Nat) : Int) == 0) = false := by rw [beq_eq_false_iff_ne]; omega
      generalize ((k + 1 : Nat) : Int) = K at hk ⊢
      clear HG e1 e2
      go_enter Tryz.func22, Tryz.ntmps22
      go_wp2
      go_ret
      exact ⟨by rw [HQ.out]; rfl, HB.out _ _⟩
  have e3' : (r1 == 3) = false := by simpa using e3
  have HQ : Hid (Q = 4) := (show Q = 4 from by have := HG.out; simpa [e1, e2, e3] using this)
  clear HG e1 e2 e3
  cases g <;> cases gt <;> (
    go_enter Tryz.func22, Tryz.ntmps22
    go_wp2
    go_ret
    exact ⟨by rw [HQ.out]; rfl, HB.out _ _⟩)
end Go.Proofs.YtpenkhehceglfaaGreatDoor
