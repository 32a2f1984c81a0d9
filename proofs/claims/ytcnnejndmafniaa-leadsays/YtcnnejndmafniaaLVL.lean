/- The contract of lead.Same. -/
import Derived.Test.YtcnnejndmafniaaLVK
namespace Go.Proofs.Ytcnnejndmafniaa
open Go.RowKit
set_option maxHeartbeats 8000000 in
set_option maxRecDepth 100000 in
theorem ldSame_any (la lb : Ld.Leader) (Y Z Y2 Z2 : Value) (w : World) (hA : LdAt w la Y Z) (hB : LdAt w lb Y2 Z2) :
    Calls Try.prog 16 #[leV la Y Z, leV lb Y2 Z2] w fun e w' => e = .returned (.bool (Ld.sameLeader la lb)) ∧ Below w.heap.size w w' := by
  have HE : Hid (∀ w', Below w.heap.size w w' → Calls Try.prog 25 #[Y, Y2, .func (.func 26) #[] #[]] w' fun e w'' => e = .returned (.bool (Ld.sameRels la.rels lb.rels)) ∧ Below w'.heap.size w' w'') := fun w' hb => by
    obtain ⟨ps, h1, h2⟩ := hA.1.below hb
    obtain ⟨qs, h3, h4⟩ := hB.1.below hb
    have := equalFL_any 26 (fun _ _ => by simp [go_sem]) (fun x y => Lk.alike x.1 x.2 y.1 y.2) (fun r q v u w h h' => alike_any r.1 q.1 v u r.2 q.2 w h h') Y Y2 ps qs w' h1 h3
    rwa [all2r_rels, h2, h4] at this
  have HK : Hid (∀ w', Below w.heap.size w w' → Calls Try.prog 50 #[Z, Z2] w' fun e w'' => e = .returned (.bool (decide (la.ags = lb.ags))) ∧ Below w'.heap.size w' w'') := fun w' hb => equalK_any Z Z2 _ _ w' (hA.2.below hb) (hB.2.below hb)
  obtain ⟨rs, w1, g1, k1, ks, x1⟩ := la
  obtain ⟨rs2, w2, g2, k2, ks2, x2⟩ := lb
  obtain ⟨a4, c4, rfl⟩ := relA_slice hA.1
  obtain ⟨a5, c5, rfl⟩ := knows_slice hA.2
  obtain ⟨b4, e4, rfl⟩ := relA_slice hB.1
  obtain ⟨b5, e5, rfl⟩ := knows_slice hB.2
  have HS : Hid (Ld.sameLeader ⟨rs, w1, g1, k1, ks, x1⟩ ⟨rs2, w2, g2, k2, ks2, x2⟩ = (Ld.sameRels rs rs2 && w1 == w2 && g1 == g2 && k1 == k2 && decide (ks = ks2) && x1 == x2)) := rfl
  clear hA hB
  unfold leV leC
  simp only at HE HK HS ⊢
  generalize Ld.sameLeader ⟨rs, w1, g1, k1, ks, x1⟩ ⟨rs2, w2, g2, k2, ks2, x2⟩ = SS at HS ⊢
  generalize Ld.sameRels rs rs2 = SR at HS HE
  generalize decide (ks = ks2) = SK at HS HK
  generalize rs.length = n4 at HE ⊢
  generalize rs2.length = m4 at HE ⊢
  generalize ks.length = n5 at HK ⊢
  generalize ks2.length = m5 at HK ⊢
  obtain ⟨hB0, hK0, hK1⟩ := box2 w #[.slice a4 n4 c4, .int .i64 w1, .int .i64 g1, .bool k1, .slice a5 n5 c5, .int .i64 x1] #[.slice b4 m4 e4, .int .i64 w2, .int .i64 g2, .bool k2, .slice b5 m5 e5, .int .i64 x2] 32 32
  have p0 := hK0.cell 0
  have p1 := hK0.cell 1
  have p2 := hK0.cell 2
  have p3 := hK0.cell 3
  have p4 := hK0.cell 4
  have p5 := hK0.cell 5
  simp only [List.getElem?_toArray, List.getElem?_cons_zero, List.getElem?_cons_succ] at p0 p1 p2 p3 p4 p5
  have q0 := hK1.cell 0
  have q1 := hK1.cell 1
  have q2 := hK1.cell 2
  have q3 := hK1.cell 3
  have q4 := hK1.cell 4
  have q5 := hK1.cell 5
  simp only [List.getElem?_toArray, List.getElem?_cons_zero, List.getElem?_cons_succ] at q0 q1 q2 q3 q4 q5
  have HB0 : Hid (Below w.heap.size w _) := hB0
  have HK1 : Hid (Blk _ w.heap.size _ _) := hK0
  have HK2 : Hid (Blk _ (w.heap.size + 1) _ _) := hK1
  clear hB0 hK0 hK1
  go_enter Try.func16, Try.ntmps16
  go_wp2_with fail
  generalize ((w.alloc (.cells #[.slice a4 n4 c4, .int .i64 w1, .int .i64 g1, .bool k1, .slice a5 n5 c5, .int .i64 x1] 32)).alloc (.cells #[.slice b4 m4 e4, .int .i64 w2, .int .i64 g2, .bool k2, .slice b5 m5 e5, .int .i64 x2] 32)) = W at *
  refine (HE.out _ HB0.out).mono ?_
  rintro e y1 ⟨rfl, hb1⟩
  have HB1 : Hid (Below w.heap.size w y1) := HB0.out.trans (hb1.mono HB0.out.size)
  have hk1 := HK1.out.below hb1
  have hk2 := HK2.out.below hb1
  clear hb1 HB0 HE HK1 HK2 p0 p1 p2 p3 p4 p5 q0 q1 q2 q3 q4 q5
  have p1 := hk1.cell 1
  have p2 := hk1.cell 2
  have p3 := hk1.cell 3
  have p4 := hk1.cell 4
  have p5 := hk1.cell 5
  simp only [List.getElem?_toArray, List.getElem?_cons_zero, List.getElem?_cons_succ] at p1 p2 p3 p4 p5
  have q1 := hk2.cell 1
  have q2 := hk2.cell 2
  have q3 := hk2.cell 3
  have q4 := hk2.cell 4
  have q5 := hk2.cell 5
  simp only [List.getElem?_toArray, List.getElem?_cons_zero, List.getElem?_cons_succ] at q1 q2 q3 q4 q5
  have HK1 : Hid (Blk y1 w.heap.size _ _) := hk1
  have HK2 : Hid (Blk y1 (w.heap.size + 1) _ _) := hk2
  clear hk1 hk2
  generalize hv1 : (w1 == w2) = v1 at HS
  generalize hv2 : (g1 == g2) = v2 at HS
  generalize hv3 : (k1 == k2) = v3 at HS
  cases SR
  · have HN : Hid (SS = false) := by show _ = _; rw [HS.out]; simp
    clear HS HK HK1 HK2
    go_wp2
    go_ret
    exact ⟨by rw [HN.out]; rfl, HB1.out⟩
  cases v1
  · have HN : Hid (SS = false) := by show _ = _; rw [HS.out]; simp
    clear HS HK HK1 HK2
    go_wp2
    go_ret
    exact ⟨by rw [HN.out]; rfl, HB1.out⟩
  cases v2
  · have HN : Hid (SS = false) := by show _ = _; rw [HS.out]; simp
    clear HS HK HK1 HK2
    go_wp2
    go_ret
    exact ⟨by rw [HN.out]; rfl, HB1.out⟩
  cases v3
  · have HN : Hid (SS = false) := by show _ = _; rw [HS.out]; simp
    clear HS HK HK1 HK2
    go_wp2
    go_ret
    exact ⟨by rw [HN.out]; rfl, HB1.out⟩
  have HN : Hid (SS = (SK && (x1 == x2))) := by show _ = _; rw [HS.out]; simp
  clear HS
  go_wp2_with fail
  refine (HK.out _ HB1.out).mono ?_
  rintro e y2 ⟨rfl, hb2⟩
  have HB2 : Hid (Below w.heap.size w y2) := HB1.out.trans (hb2.mono HB1.out.size)
  have r5 := (HK1.out.below hb2).cell 5
  have s5 := (HK2.out.below hb2).cell 5
  simp only [List.getElem?_toArray, List.getElem?_cons_zero, List.getElem?_cons_succ] at r5 s5
  clear hb2 HK HB1 HK1 HK2
  cases SK
  · go_wp2
    go_ret
    exact ⟨by rw [HN.out]; rfl, HB2.out⟩
  · go_wp2
    go_ret
    exact ⟨by rw [HN.out]; simp, HB2.out⟩
end Go.Proofs.Ytcnnejndmafniaa
