/- The contract of agent.Same. -/
import Derived.Test.YtpenkhehceglfaaGreatDoorMI
namespace Go.Proofs.YtpenkhehceglfaaGreatDoor
open Go.RowKit
set_option maxHeartbeats 4000000 in
theorem agSame_any (L1 M1 L2 M2 : List (Int × Int)) (p1 t1 i1 p2 t2 i2 : Int) (g1 d1 g2 d2 : Bool) (v1 u1 v2 u2 : Value) (w : World) (hP1 : PinsAt w v1 L1) (hQ1 : PinsAt w u1 M1) (hP2 : PinsAt w v2 L2) (hQ2 : PinsAt w u2 M2) :
    Calls Tryz.prog 10 #[agV ⟨L1, p1, t1, g1, i1, M1, d1⟩ v1 u1, agV ⟨L2, p2, t2, g2, i2, M2, d2⟩ v2 u2] w fun e w' => e = .returned (.bool (Ag.sameAgent ⟨L1, p1, t1, g1, i1, M1, d1⟩ ⟨L2, p2, t2, g2, i2, M2, d2⟩)) ∧ Below w.heap.size w w' := by
  obtain ⟨a1, c1, rfl⟩ := pins_slice hP1
  obtain ⟨m1, e1, rfl⟩ := pins_slice hQ1
  obtain ⟨a2, c2, rfl⟩ := pins_slice hP2
  obtain ⟨m2, e2, rfl⟩ := pins_slice hQ2
  unfold agV agC
  have HB0 : Hid (Below w.heap.size w ((w.alloc (.cells #[.slice a1 L1.length c1, .int .i64 p1, .int .i64 t1, .bool g1, .int .i64 i1, .slice m1 M1.length e1, .bool d1] 27)).alloc (.cells #[.slice a2 L2.length c2, .int .i64 p2, .int .i64 t2, .bool g2, .int .i64 i2, .slice m2 M2.length e2, .bool d2] 27))) := ((Below.refl _ w).alloc (Nat.le_refl _) _).alloc (by simp) _
  have HK1 : Hid (Blk ((w.alloc (.cells #[.slice a1 L1.length c1, .int .i64 p1, .int .i64 t1, .bool g1, .int .i64 i1, .slice m1 M1.length e1, .bool d1] 27)).alloc (.cells #[.slice a2 L2.length c2, .int .i64 p2, .int .i64 t2, .bool g2, .int .i64 i2, .slice m2 M2.length e2, .bool d2] 27)) w.heap.size #[.slice a1 L1.length c1, .int .i64 p1, .int .i64 t1, .bool g1, .int .i64 i1, .slice m1 M1.length e1, .bool d1] 27) := (blk_alloc w _ _).below ((Below.refl _ _).alloc (Nat.le_refl _) _)
  have HK2 : Hid (Blk ((w.alloc (.cells #[.slice a1 L1.length c1, .int .i64 p1, .int .i64 t1, .bool g1, .int .i64 i1, .slice m1 M1.length e1, .bool d1] 27)).alloc (.cells #[.slice a2 L2.length c2, .int .i64 p2, .int .i64 t2, .bool g2, .int .i64 i2, .slice m2 M2.length e2, .bool d2] 27)) (w.heap.size + 1) #[.slice a2 L2.length c2, .int .i64 p2, .int .i64 t2, .bool g2, .int .i64 i2, .slice m2 M2.length e2, .bool d2] 27) := by
    have := blk_alloc (w.alloc (.cells #[.slice a1 L1.length c1, .int .i64 p1, .int .i64 t1, .bool g1, .int .i64 i1, .slice m1 M1.length e1, .bool d1] 27)) #[.slice a2 L2.length c2, .int .i64 p2, .int .i64 t2, .bool g2, .int .i64 i2, .slice m2 M2.length e2, .bool d2] 27
    rwa [World.size_alloc] at this
  have HC : Hid (∀ w', Below w.heap.size w w' → Calls Tryz.prog 19 #[.slice a1 L1.length c1, .slice a2 L2.length c2] w' fun e w'' => e = .returned (.bool (Lk.same L1 L2)) ∧ Below w'.heap.size w' w'') := fun w' hb => equal_any _ _ L1 L2 w' (hP1.below hb) (hP2.below hb)
  have HA : Hid (∀ w', Below w.heap.size w w' → Calls Tryz.prog 29 #[.agg #[.int .i64 i1, .slice m1 M1.length e1], .agg #[.int .i64 i2, .slice m2 M2.length e2]] w' fun e w'' => e = .returned (.bool (Lk.alike i1 M1 i2 M2)) ∧ Below w'.heap.size w' w'') := fun w' hb => alike_any i1 i2 _ _ M1 M2 w' (hQ1.below hb) (hQ2.below hb)
  have HS : Hid (Ag.sameAgent ⟨L1, p1, t1, g1, i1, M1, d1⟩ ⟨L2, p2, t2, g2, i2, M2, d2⟩ = (Lk.same L1 L2 && p1 == p2 && t1 == t2 && g1 == g2 && Lk.alike i1 M1 i2 M2 && d1 == d2)) := rfl
  clear hP1 hQ1 hP2 hQ2
  generalize Ag.sameAgent ⟨L1, p1, t1, g1, i1, M1, d1⟩ ⟨L2, p2, t2, g2, i2, M2, d2⟩ = SS at HS ⊢
  generalize Lk.same L1 L2 = SL at HS HC
  generalize Lk.alike i1 M1 i2 M2 = AL at HS HA
  generalize L1.length = n1 at HB0 HK1 HK2 HC ⊢
  generalize M1.length = k1 at HB0 HK1 HK2 HA ⊢
  generalize L2.length = n2 at HB0 HK1 HK2 HC ⊢
  generalize M2.length = k2 at HB0 HK1 HK2 HA ⊢
  go_enter Tryz.func10, Tryz.ntmps10
  go_wp2_with fail
  refine (HC.out _ HB0.out).mono ?_
  rintro e w1 ⟨rfl, hb1⟩
  have HB1 : Hid (Below w.heap.size w w1) := HB0.out.trans (hb1.mono HB0.out.size)
  have hk1 := HK1.out.below hb1
  have hk2 := HK2.out.below hb1
  clear hb1 HB0 HK1 HK2 HC
  cases SL
  · have HS' : Hid (SS = false) := (show SS = false from by have := HS.out; simpa using this)
    clear HS HA hk1 hk2
    go_wp2
    go_ret
    exact ⟨by rw [HS'.out]; rfl, HB1.out⟩
  have x11 := hk1.cell 1
  have x12 := hk1.cell 2
  have x13 := hk1.cell 3
  have x14 := hk1.cell 4
  have x15 := hk1.cell 5
  have x16 := hk1.cell 6
  have x21 := hk2.cell 1
  have x22 := hk2.cell 2
  have x23 := hk2.cell 3
  have x24 := hk2.cell 4
  have x25 := hk2.cell 5
  have x26 := hk2.cell 6
  simp only [List.getElem?_toArray, List.getElem?_cons_zero, List.getElem?_cons_succ] at x11 x12 x13 x14 x15 x16 x21 x22 x23 x24 x25 x26
  have HK1 : Hid (Blk w1 w.heap.size _ _) := hk1
  have HK2 : Hid (Blk w1 (w.heap.size + 1) _ _) := hk2
  clear hk1 hk2
  generalize hb0 : (p1 == p2) = b0 at HS
  generalize hb1 : (t1 == t2) = b1 at HS
  generalize hb2 : (g1 == g2) = b2 at HS
  cases b0
  · have HS' : Hid (SS = false) := (show SS = false from by have := HS.out; simpa using this)
    clear HS HA HK1 HK2
    go_wp2
    go_ret
    exact ⟨by rw [HS'.out]; rfl, HB1.out⟩
  cases b1
  · have HS' : Hid (SS = false) := (show SS = false from by have := HS.out; simpa using this)
    clear HS HA HK1 HK2
    go_wp2
    go_ret
    exact ⟨by rw [HS'.out]; rfl, HB1.out⟩
  cases b2
  · have HS' : Hid (SS = false) := (show SS = false from by have := HS.out; simpa using this)
    clear HS HA HK1 HK2
    go_wp2
    go_ret
    exact ⟨by rw [HS'.out]; rfl, HB1.out⟩
  have HS' : Hid (SS = (AL && (d1 == d2))) := (show SS = (AL && (d1 == d2)) from by have := HS.out; simpa using this)
  clear HS
  go_wp2_with fail
  refine (HA.out _ HB1.out).mono ?_
  rintro e w2 ⟨rfl, hb2⟩
  have y1 := (HK1.out.below hb2).cell 6
  have y2 := (HK2.out.below hb2).cell 6
  simp only [List.getElem?_toArray, List.getElem?_cons_zero, List.getElem?_cons_succ] at y1 y2
  have HB2 : Hid (Below w.heap.size w w2) := HB1.out.trans (hb2.mono HB1.out.size)
  clear hb2 HB1 HA HK1 HK2 x11 x12 x13 x14 x15 x16 x21 x22 x23 x24 x25 x26
  cases AL
  · go_wp2
    go_ret
    exact ⟨by rw [HS'.out]; rfl, HB2.out⟩
  · go_wp2
    go_ret
    exact ⟨by rw [HS'.out]; simp, HB2.out⟩
end Go.Proofs.YtpenkhehceglfaaGreatDoor
