/- The contract of note.Same. -/
import Derived.Test.YtpenkhehceglfaaGreatDoorN7
namespace Go.Proofs.YtpenkhehceglfaaGreatDoor
open Go.RowKit
set_option maxHeartbeats 8000000 in
set_option maxRecDepth 100000 in
theorem same_any (p q : Lk.Note) (v u : Value) (w : World) (hP : PinsAt w v p.lock) (hQ : PinsAt w u q.lock) :
    Calls Tryz.prog 12 #[recV p v, recV q u] w fun e w' => e = .returned (.bool (Lk.sameNote p q)) ∧ Below w.heap.size w w' := by
  obtain ⟨a, c, rfl⟩ := pins_slice hP
  obtain ⟨a', c', rfl⟩ := pins_slice hQ
  have HS : Hid (Lk.sameNote p q = (decide (p.nums = q.nums) && Lk.alike p.id p.lock q.id q.lock)) := same_nums p q
  have HA : Hid (∀ w, PinsAt w (.slice a p.lock.length c) p.lock → PinsAt w (.slice a' q.lock.length c') q.lock → Calls Tryz.prog 29 #[.agg #[.int .i64 p.id, .slice a p.lock.length c], .agg #[.int .i64 q.id, .slice a' q.lock.length c']] w fun e w' => e = .returned (.bool (Lk.alike p.id p.lock q.id q.lock)) ∧ Below w.heap.size w w') := fun w h1 h2 => alike_any p.id q.id _ _ p.lock q.lock w h1 h2
  have HN1 : Hid (∀ w, Calls Tryz.prog 30 #[recV p (.slice a p.lock.length c)] w fun e w' => e = .returned (numV p.nums) ∧ Below w.heap.size w w') := fun w => numbers_any p a _ c w
  have HN2 : Hid (∀ w, Calls Tryz.prog 30 #[recV q (.slice a' q.lock.length c')] w fun e w' => e = .returned (numV q.nums) ∧ Below w.heap.size w w') := fun w => numbers_any q a' _ c' w
  have heq : ∀ w, (binOp .eql 81 (numV p.nums) (numV q.nums)).run Tryz.prog w = .ok (.bool (decide (p.nums = q.nums))) w := fun w => eqlN p.nums q.nums rfl rfl w
  have HP : Hid (PinsAt w (.slice a p.lock.length c) p.lock) := hP
  have HQ : Hid (PinsAt w (.slice a' q.lock.length c') q.lock) := hQ
  clear hP hQ
  generalize Lk.sameNote p q = SS at HS ⊢
  generalize Lk.alike p.id p.lock q.id q.lock = AL at HS HA
  generalize decide (p.nums = q.nums) = E at HS heq
  change ∀ w, (binOp .eql 81 (.agg (ncells p.nums)) (.agg (ncells q.nums))).run Tryz.prog w = .ok (.bool E) w at heq
  change Hid (∀ w, Calls Tryz.prog 30 #[recV p (.slice a p.lock.length c)] w fun e w' => e = .returned (.agg (ncells p.nums)) ∧ Below w.heap.size w w') at HN1
  change Hid (∀ w, Calls Tryz.prog 30 #[recV q (.slice a' q.lock.length c')] w fun e w' => e = .returned (.agg (ncells q.nums)) ∧ Below w.heap.size w w') at HN2
  generalize ncells p.nums = NP at HN1 heq
  generalize ncells q.nums = NQ at HN2 heq
  unfold recV at HN1 HN2 ⊢
  obtain ⟨p1, p2, p3, p4, p5, p6, p7⟩ := p
  obtain ⟨q1, q2, q3, q4, q5, q6, q7⟩ := q
  simp only at HN1 HN2 HA HP HQ ⊢
  have HRP : Hid (RecAt ((w.alloc (.cells #[.int .i64 p1, .int .i64 p2, .int .i64 p3, .int .i64 p4, .bool p5, .int .i64 p6, .slice a p7.length c] 34)).alloc (.cells #[.int .i64 q1, .int .i64 q2, .int .i64 q3, .int .i64 q4, .bool q5, .int .i64 q6, .slice a' q7.length c'] 34)) w.heap.size p1 p2 p3 p4 p5 p6 (.slice a p7.length c)) :=
    (recAt_alloc w p1 p2 p3 p4 p5 p6 (.slice a p7.length c)).below ((Below.refl _ _).alloc (Nat.le_refl _) _)
  have HRQ : Hid (RecAt ((w.alloc (.cells #[.int .i64 p1, .int .i64 p2, .int .i64 p3, .int .i64 p4, .bool p5, .int .i64 p6, .slice a p7.length c] 34)).alloc (.cells #[.int .i64 q1, .int .i64 q2, .int .i64 q3, .int .i64 q4, .bool q5, .int .i64 q6, .slice a' q7.length c'] 34)) (w.heap.size + 1) q1 q2 q3 q4 q5 q6 (.slice a' q7.length c')) := by
    have := recAt_alloc (w.alloc (.cells #[.int .i64 p1, .int .i64 p2, .int .i64 p3, .int .i64 p4, .bool p5, .int .i64 p6, .slice a p7.length c] 34)) q1 q2 q3 q4 q5 q6 (.slice a' q7.length c')
    rwa [World.size_alloc] at this
  have HB : Hid (Below w.heap.size w ((w.alloc (.cells #[.int .i64 p1, .int .i64 p2, .int .i64 p3, .int .i64 p4, .bool p5, .int .i64 p6, .slice a p7.length c] 34)).alloc (.cells #[.int .i64 q1, .int .i64 q2, .int .i64 q3, .int .i64 q4, .bool q5, .int .i64 q6, .slice a' q7.length c'] 34))) := ((Below.refl _ w).alloc (Nat.le_refl _) _).alloc (by simp) _
  go_enter Tryz.func12, Tryz.ntmps12
  go_wp2_with fail
  generalize (w.alloc (.cells #[.int .i64 p1, .int .i64 p2, .int .i64 p3, .int .i64 p4, .bool p5, .int .i64 p6, .slice a p7.length c] 34)).alloc (.cells #[.int .i64 q1, .int .i64 q2, .int .i64 q3, .int .i64 q4, .bool q5, .int .i64 q6, .slice a' q7.length c'] 34) = W at HRP HRQ HB ⊢
  have hB : Below W.heap.size W W.drew := (Below.refl _ _).drew
  obtain ⟨c0, c1, c2, c3, c4, c5, c6, c7⟩ := HRP.out
  obtain ⟨d0, d1, d2, d3, d4, d5, d6, d7⟩ := HRQ.out
  cases E
  · have HS' : Hid (SS = false) := (show SS = false from by have := HS.out; simpa using this)
    clear HS
    first
    | (go_region_with (first
      | (go_at_call_of 30 (Value.agg #[.int .i64 p1, .int .i64 p2, .int .i64 p3, .int .i64 p4, .bool p5, .int .i64 p6, .slice a p7.length c]); refine (HN1.out _).mono ?_; rintro e w' ⟨rfl, hb'⟩; have hB' : Below W.heap.size W w' := Below.trans (by assumption) (hb'.mono (Below.size (by assumption))); obtain ⟨c0, c1, c2, c3, c4, c5, c6, c7⟩ := HRP.out.below hB'; obtain ⟨d0, d1, d2, d3, d4, d5, d6, d7⟩ := HRQ.out.below hB')
      | (go_at_call_of 30 (Value.agg #[.int .i64 q1, .int .i64 q2, .int .i64 q3, .int .i64 q4, .bool q5, .int .i64 q6, .slice a' q7.length c']); refine (HN2.out _).mono ?_; rintro e w' ⟨rfl, hb'⟩; have hB' : Below W.heap.size W w' := Below.trans (by assumption) (hb'.mono (Below.size (by assumption))); obtain ⟨c0, c1, c2, c3, c4, c5, c6, c7⟩ := HRP.out.below hB'; obtain ⟨d0, d1, d2, d3, d4, d5, d6, d7⟩ := HRQ.out.below hB')
      | (go_at_call 29; refine (HA.out _ (HP.out.below (HB.out.trans (Below.mono (by assumption) HB.out.size))) (HQ.out.below (HB.out.trans (Below.mono (by assumption) HB.out.size)))).mono ?_; rintro e w' ⟨rfl, hb'⟩; have hB' : Below W.heap.size W w' := Below.trans (by assumption) (hb'.mono (Below.size (by assumption))))))
    | fail
    all_goals
      go_wp2_with fail
      go_ret
      exact ⟨by rw [HS'.out]; rfl, HB.out.trans (Below.mono (by assumption) HB.out.size)⟩
  · have HS' : Hid (SS = AL) := (show SS = AL from by have := HS.out; simpa using this)
    clear HS
    first
    | (go_region_with (first
      | (go_at_call_of 30 (Value.agg #[.int .i64 p1, .int .i64 p2, .int .i64 p3, .int .i64 p4, .bool p5, .int .i64 p6, .slice a p7.length c]); refine (HN1.out _).mono ?_; rintro e w' ⟨rfl, hb'⟩; have hB' : Below W.heap.size W w' := Below.trans (by assumption) (hb'.mono (Below.size (by assumption))); obtain ⟨c0, c1, c2, c3, c4, c5, c6, c7⟩ := HRP.out.below hB'; obtain ⟨d0, d1, d2, d3, d4, d5, d6, d7⟩ := HRQ.out.below hB')
      | (go_at_call_of 30 (Value.agg #[.int .i64 q1, .int .i64 q2, .int .i64 q3, .int .i64 q4, .bool q5, .int .i64 q6, .slice a' q7.length c']); refine (HN2.out _).mono ?_; rintro e w' ⟨rfl, hb'⟩; have hB' : Below W.heap.size W w' := Below.trans (by assumption) (hb'.mono (Below.size (by assumption))); obtain ⟨c0, c1, c2, c3, c4, c5, c6, c7⟩ := HRP.out.below hB'; obtain ⟨d0, d1, d2, d3, d4, d5, d6, d7⟩ := HRQ.out.below hB')
      | (go_at_call 29; refine (HA.out _ (HP.out.below (HB.out.trans (Below.mono (by assumption) HB.out.size))) (HQ.out.below (HB.out.trans (Below.mono (by assumption) HB.out.size)))).mono ?_; rintro e w' ⟨rfl, hb'⟩; have hB' : Below W.heap.size W w' := Below.trans (by assumption) (hb'.mono (Below.size (by assumption))))))
    | fail
    all_goals
      go_wp2_with fail
      go_ret
      exact ⟨by rw [HS'.out]; rfl, HB.out.trans (Below.mono (by assumption) HB.out.size)⟩
end Go.Proofs.YtpenkhehceglfaaGreatDoor
