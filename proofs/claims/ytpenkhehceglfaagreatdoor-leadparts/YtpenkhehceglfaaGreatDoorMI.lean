import Derived.Test.YtpenkhehceglfaaGreatDoorMB
import Derived.Laws.StructEq
import Derived.Deep.RegionWith
import Derived.Deep.CutRange
/- Contracts of note.Same and of the document's SameRec. -/
namespace Go.Proofs.YtpenkhehceglfaaGreatDoor
open Go.RowKit
/-- an array's comparison, as a list of places -/
def eqAll (d : Nat) (e : TypeId) (n : Nat) (xs ys : Array Value) : List Nat → Sem Bool
  | [] => pure true
  | i :: r => do
    let a ← part e xs (i * n)
    let b ← part e ys (i * n)
    let q ← Op.equalIn d e a b
    if (!q) = true then pure false else eqAll d e n xs ys r
theorem run_equalIn_array {P : Program} (w : World) (d : Nat) (t e : TypeId) (len n : Nat) (xs ys : Array Value) (ht : P.underlying t = some (.array len e)) (hn : ∀ w, (sizeOf e).run P w = .ok n w) :
    (Op.equalIn (d + 1) t (.agg xs) (.agg ys)).run P w = (eqAll d e n xs ys (List.range' 0 len)).run P w := by
  simp only [Op.equalIn, Sem.run_bind, run_underlying ht, Result.andThen_ok, hn]
  simp only [Std.Legacy.Range.forIn_eq_forIn_range', Std.Legacy.Range.size]
  rw [show (len - 0 + 1 - 1) / 1 = len from by simp]
  generalize List.range' 0 len = fs
  clear ht hn
  induction fs generalizing w with
  | nil => simp [eqAll]
  | cons i fs ih =>
    simp only [List.forIn_cons, eqAll, Sem.run_bind]
    generalize (part e xs (i * n)).run P w = r1
    cases r1 with
    | ok a w1 =>
      simp only [Result.andThen_ok]
      generalize (part e ys (i * n)).run P w1 = r2
      cases r2 with
      | ok b w2 =>
        simp only [Result.andThen_ok]
        generalize (Op.equalIn d e a b).run P w2 = r3
        cases r3 with
        | ok r w3 =>
          cases r
          · simp only [Result.andThen_ok, Bool.not_false, if_true, Sem.run_pure]
          · simp only [Result.andThen_ok, Bool.not_true, Bool.false_eq_true, if_false, Sem.run_pure]
            exact ih w3
        | halt x w3 => simp [Result.andThen]
      | halt x w2 => simp [Result.andThen]
    | halt x w1 => simp [Result.andThen]
def ncells (s : List Int) : Array Value := (s.map fun n => Value.int .i64 n).toArray
theorem ncells_get (s : List Int) (k : Nat) (h : k < s.length) : (ncells s)[k]? = some (.int .i64 (s.getD k 0)) := by
  simp [ncells, List.getElem?_eq_getElem h]
theorem eqAll_ints {P : Program} (w : World) (d : Nat) (e : TypeId) (s t : List Int) (hl : s.length = t.length) (hu : P.underlying e = some (.int .i64)) (ha : ∀ w, (isAgg e).run P w = .ok false w) : ∀ L : List Nat, (∀ i ∈ L, i < s.length) →
    (eqAll (d + 1) e 1 (ncells s) (ncells t) L).run P w = .ok (L.all fun i => s.getD i 0 == t.getD i 0) w := by
  intro L
  induction L with
  | nil => intro _; rfl
  | cons i L ih =>
    intro h
    have hi : i < s.length := h i (by simp)
    have e1 : (part e (ncells s) (i * 1)).run P w = .ok (.int .i64 (s.getD i 0)) w := by
      simp only [part, Sem.run_bind, ha, Result.andThen_ok, Nat.mul_one]
      simp [ncells_get s i hi]
    have e2 : (part e (ncells t) (i * 1)).run P w = .ok (.int .i64 (t.getD i 0)) w := by
      simp only [part, Sem.run_bind, ha, Result.andThen_ok, Nat.mul_one]
      simp [ncells_get t i (by omega)]
    simp only [eqAll, Sem.run_bind, e1, e2, Result.andThen_ok, run_equalIn_int w d e .i64 .i64 _ _ hu, List.all_cons]
    cases hq : (s.getD i 0 == t.getD i 0) with
    | false => simp
    | true =>
      simp only [Bool.not_true, Bool.false_eq_true, if_false, Bool.true_and]
      exact ih fun j hj => h j (by simp [hj])
theorem all_eq6 {s t : List Int} (hs : s.length = 6) (ht : t.length = 6) : ((List.range' 0 6).all fun i => s.getD i 0 == t.getD i 0) = decide (s = t) := by
  by_cases h : s = t
  · subst h
    rw [decide_eq_true rfl]
    simp
  · rw [decide_eq_false h]
    refine Bool.eq_false_iff.2 fun e => h (List.ext_getElem (by omega) fun n h1 h2 => ?_)
    have := List.all_eq_true.1 e n (List.mem_range'_1.2 (by omega))
    simp only [beq_iff_eq, List.getD_eq_getElem?_getD, List.getElem?_eq_getElem h1, List.getElem?_eq_getElem h2, Option.getD_some] at this
    exact this
theorem eqlN (s t : List Int) (hs : s.length = 6) (ht : t.length = 6) (w : World) : (binOp .eql 81 (numV s) (numV t)).run Tryz.prog w = .ok (.bool (decide (s = t))) w := by
  show (binOp .eql 81 (.agg (ncells s)) (.agg (ncells t))).run Tryz.prog w = _
  rw [run_eql_struct, show (10000 : Nat) = 9998 + 1 + 1 from rfl, run_equalIn_array w (9998 + 1) 81 3 6 1 _ _ Tryz.underlying81 Tryz.sizeOf3, eqAll_ints w 9998 3 s t (by omega) Tryz.underlying3 Tryz.isAgg3 _ (fun i hi => by have := (List.mem_range'_1.1 hi).2; omega), all_eq6 hs ht]
  rfl
theorem goodNum_inj {a b : Bool} (h : Lk.goodNum a = Lk.goodNum b) : a = b := by cases a <;> cases b <;> first | rfl | (revert h; decide)
theorem same_nums (a b : Lk.Note) : Lk.sameNote a b = (decide (a.nums = b.nums) && Lk.alike a.id a.lock b.id b.lock) := by
  by_cases h : a = b
  · subst h
    rw [Lk.sameNote_self, decide_eq_true rfl]
    simp [Lk.alike, Lk.same]
  · have h1 : Lk.sameNote a b = false := Bool.eq_false_iff.2 fun e => h ((Lk.sameNote_iff a b).1 e)
    rw [h1]
    refine (Bool.eq_false_iff.2 fun e => h ?_).symm
    obtain ⟨a1, a2, a3, a4, a5, a6, a7⟩ := a
    obtain ⟨b1, b2, b3, b4, b5, b6, b7⟩ := b
    simp only [Bool.and_eq_true, decide_eq_true_eq, Lk.Note.nums, List.cons.injEq, Lk.alike, Lk.same, beq_iff_eq, and_true] at e
    obtain ⟨⟨e1, e2, e3, e4, e5, e6⟩, e7, e8⟩ := e
    rw [e1, e2, e3, e4, goodNum_inj e5, e6, e8]
end Go.Proofs.YtpenkhehceglfaaGreatDoor
/- The contract of note.Same. -/
namespace Go.Proofs.YtpenkhehceglfaaGreatDoor
open Go.RowKit
set_option maxHeartbeats 8000000 in
set_option maxRecDepth 100000 in
theorem same_any (p q : Lk.Note) (v u : Value) (w : World) (hP : PinsAt w v p.lock) (hQ : PinsAt w u q.lock) :
    Calls Tryz.prog 12 #[recV p v, recV q u] w fun e w' => e = .returned (.bool (Lk.sameNote p q)) ∧ Below w.heap.size w w' := by
  obtain ⟨a, c, rfl⟩ := pins_slice hP
  obtain ⟨a', c', rfl⟩ := pins_slice hQ
  have HS : Hid (Lk.sameNote p q = (decide (p.nums = q.nums) && Lk.alike p.id p.lock q.id q.lock)) := same_nums p q
  have HA : Hid (∀ w, PinsAt w (.slice a p.lock.length c) p.lock → PinsAt w (.slice a' q.lock.length c') q.lock → Calls Tryz.prog 29 #[.agg #[.int .i64 p.id, .slice a p.lock.length c], .agg #[.int .i64 q.id, .slice a' q.lock.length c']] w fun e w' => e = .returned (.bool (Lk.alike p.id p.lock q.id q.lock)) ∧ Below w.heap.size w w') := fun w h1 h2 => alike_any p.id q.id _ _ p.lock q.lock w h1 h2
  have HN1 : Hid (∀ w, Calls Tryz.prog 30 #[recV p (.slice a p.lock.length c)] w fun e w' => e = .returned (numV p.nums) ∧ Below w.heap.size w w') := fun w => numbers_any p a _ c w
  have HN2 : Hid (∀ w, Calls Tryz.prog 30 #[recV q (.slice a' q.lock.length c')] w fun e w' => e = .returned (numV q.nums) ∧ Below w.heap.size w w') := fun w => numbers_any q a' _ c' w
  have heq : ∀ w, (binOp .eql 81 (numV p.nums) (numV q.nums)).run Tryz.prog w = .ok (.bool (decide (p.nums = q.nums))) w := fun w => eqlN p.nums q.nums rfl rfl w
  have HP : Hid (PinsAt w (.slice a p.lock.length c) p.lock) := hP
  have HQ : Hid (PinsAt w (.slice a' q.lock.length c') q.lock) := hQ
  clear hP hQ
  generalize Lk.sameNote p q = SS at HS ⊢
  generalize Lk.alike p.id p.lock q.id q.lock = AL at HS HA
  generalize decide (p.nums = q.nums) = E at HS heq
  change ∀ w, (binOp .eql 81 (.agg (ncells p.nums)) (.agg (ncells q.nums))).run Tryz.prog w = .ok (.bool E) w at heq
  change Hid (∀ w, Calls Tryz.prog 30 #[recV p (.slice a p.lock.length c)] w fun e w' => e = .returned (.agg (ncells p.nums)) ∧ Below w.heap.size w w') at HN1
  change Hid (∀ w, Calls Tryz.prog 30 #[recV q (.slice a' q.lock.length c')] w fun e w' => e = .returned (.agg (ncells q.nums)) ∧ Below w.heap.size w w') at HN2
  generalize ncells p.nums = NP at HN1 heq
  generalize ncells q.nums = NQ at HN2 heq
  unfold recV at HN1 HN2 ⊢
  obtain ⟨p1, p2, p3, p4, p5, p6, p7⟩ := p
  obtain ⟨q1, q2, q3, q4, q5, q6, q7⟩ := q
  simp only at HN1 HN2 HA HP HQ ⊢
  have HRP : Hid (RecAt ((w.alloc (.cells #[.int .i64 p1, .int .i64 p2, .int .i64 p3, .int .i64 p4, .bool p5, .int .i64 p6, .slice a p7.length c] 34)).alloc (.cells #[.int .i64 q1, .int .i64 q2, .int .i64 q3, .int .i64 q4, .bool q5, .int .i64 q6, .slice a' q7.length c'] 34)) w.heap.size p1 p2 p3 p4 p5 p6 (.slice a p7.length c)) :=
    (recAt_alloc w p1 p2 p3 p4 p5 p6 (.slice a p7.length c)).below ((Below.refl _ _).alloc (Nat.le_refl _) _)
  have HRQ : Hid (RecAt ((w.alloc (.cells #[.int .i64 p1, .int .i64 p2, .int .i64 p3, .int .i64 p4, .bool p5, .int .i64 p6, .slice a p7.length c] 34)).alloc (.cells #[.int .i64 q1, .int .i64 q2, .int .i64 q3, .int .i64 q4, .bool q5, .int .i64 q6, .slice a' q7.length c'] 34)) (w.heap.size + 1) q1 q2 q3 q4 q5 q6 (.slice a' q7.length c')) := by
    have := recAt_alloc (w.alloc (.cells #[.int .i64 p1, .int .i64 p2, .int .i64 p3, .int .i64 p4, .bool p5, .int .i64 p6, .slice a p7.length c] 34)) q1 q2 q3 q4 q5 q6 (.slice a' q7.length c')
    rwa [World.size_alloc] at this
  have HB : Hid (Below w.heap.size w ((w.alloc (.cells #[.int .i64 p1, .int .i64 p2, .int .i64 p3, .int .i64 p4, .bool p5, .int .i64 p6, .slice a p7.length c] 34)).alloc (.cells #[.int .i64 q1, .int .i64 q2, .int .i64 q3, .int .i64 q4, .bool q5, .int .i64 q6, .slice a' q7.length c'] 34))) := ((Below.refl _ w).alloc (Nat.le_refl _) _).alloc (by simp) _
  go_enter Tryz.func12, Tryz.ntmps12
  go_wp2_with fail
  generalize (w.alloc (.cells #[.int .i64 p1, .int .i64 p2, .int .i64 p3, .int .i64 p4, .bool p5, .int .i64 p6, .slice a p7.length c] 34)).alloc (.cells #[.int .i64 q1, .int .i64 q2, .int .i64 q3, .int .i64 q4, .bool q5, .int .i64 q6, .slice a' q7.length c'] 34) = W at HRP HRQ HB ⊢
  have hB : Below W.heap.size W W.drew := (Below.refl _ _).drew
  obtain ⟨c0, c1, c2, c3, c4, c5, c6, c7⟩ := HRP.out
  obtain ⟨d0, d1, d2, d3, d4, d5, d6, d7⟩ := HRQ.out
  cases E
  · have HS' : Hid (SS = false) := (show SS = false from by have := HS.out; simpa using this)
    clear HS
    first
    | (go_region_with (first
      | (go_at_call_of 30 (Value.agg #[.int .i64 p1, .int .i64 p2, .int .i64 p3, .int .i64 p4, .bool p5, .int .i64 p6, .slice a p7.length c]); refine (HN1.out _).mono ?_; rintro e w' ⟨rfl, hb'⟩; have hB' : Below W.heap.size W w' := Below.trans (by assumption) (hb'.mono (Below.size (by assumption))); obtain ⟨c0, c1, c2, c3, c4, c5, c6, c7⟩ := HRP.out.below hB'; obtain ⟨d0, d1, d2, d3, d4, d5, d6, d7⟩ := HRQ.out.below hB')
      | (go_at_call_of 30 (Value.agg #[.int .i64 q1, .int .i64 q2, .int .i64 q3, .int .i64 q4, .bool q5, .int .i64 q6, .slice a' q7.length c']); refine (HN2.out _).mono ?_; rintro e w' ⟨rfl, hb'⟩; have hB' : Below W.heap.size W w' := Below.trans (by assumption) (hb'.mono (Below.size (by assumption))); obtain ⟨c0, c1, c2, c3, c4, c5, c6, c7⟩ := HRP.out.below hB'; obtain ⟨d0, d1, d2, d3, d4, d5, d6, d7⟩ := HRQ.out.below hB')
      | (go_at_call 29; refine (HA.out _ (HP.out.below (HB.out.trans (Below.mono (by assumption) HB.out.size))) (HQ.out.below (HB.out.trans (Below.mono (by assumption) HB.out.size)))).mono ?_; rintro e w' ⟨rfl, hb'⟩; have hB' : Below W.heap.size W w' := Below.trans (by assumption) (hb'.mono (Below.size (by assumption))))))
    | fail
    all_goals
      go_wp2_with fail
      go_ret
      exact ⟨by rw [HS'.out]; rfl, HB.out.trans (Below.mono (by assumption) HB.out.size)⟩
  · have HS' : Hid (SS = AL) := (show SS = AL from by have := HS.out; simpa using this)
    clear HS
    first
    | (go_region_with (first
      | (go_at_call_of 30 (Value.agg #[.int .i64 p1, .int .i64 p2, .int .i64 p3, .int .i64 p4, .bool p5, .int .i64 p6, .slice a p7.length c]); refine (HN1.out _).mono ?_; rintro e w' ⟨rfl, hb'⟩; have hB' : Below W.heap.size W w' := Below.trans (by assumption) (hb'.mono (Below.size (by assumption))); obtain ⟨c0, c1, c2, c3, c4, c5, c6, c7⟩ := HRP.out.below hB'; obtain ⟨d0, d1, d2, d3, d4, d5, d6, d7⟩ := HRQ.out.below hB')
      | (go_at_call_of 30 (Value.agg #[.int .i64 q1, .int .i64 q2, .int .i64 q3, .int .i64 q4, .bool q5, .int .i64 q6, .slice a' q7.length c']); refine (HN2.out _).mono ?_; rintro e w' ⟨rfl, hb'⟩; have hB' : Below W.heap.size W w' := Below.trans (by assumption) (hb'.mono (Below.size (by assumption))); obtain ⟨c0, c1, c2, c3, c4, c5, c6, c7⟩ := HRP.out.below hB'; obtain ⟨d0, d1, d2, d3, d4, d5, d6, d7⟩ := HRQ.out.below hB')
      | (go_at_call 29; refine (HA.out _ (HP.out.below (HB.out.trans (Below.mono (by assumption) HB.out.size))) (HQ.out.below (HB.out.trans (Below.mono (by assumption) HB.out.size)))).mono ?_; rintro e w' ⟨rfl, hb'⟩; have hB' : Below W.heap.size W w' := Below.trans (by assumption) (hb'.mono (Below.size (by assumption))))))
    | fail
    all_goals
      go_wp2_with fail
      go_ret
      exact ⟨by rw [HS'.out]; rfl, HB.out.trans (Below.mono (by assumption) HB.out.size)⟩
end Go.Proofs.YtpenkhehceglfaaGreatDoor
