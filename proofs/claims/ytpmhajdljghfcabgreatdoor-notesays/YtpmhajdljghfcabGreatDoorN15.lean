/- The walk of NoteSays, out of the contracts: it returns true, and nothing old has turned. -/
import Derived.Test.YtpmhajdljghfcabGreatDoorN13
import Derived.Test.YtpmhajdljghfcabGreatDoorN14
import Derived.Deep.RegionHeld3
namespace Go.Proofs.YtpmhajdljghfcabGreatDoor
open Go.RowKit
/-- what any text is read as -/
def ans (s : ByteArray) : Lk.Note × Int := if s.size ≤ 60000 then Lk.readNote s.data.toList else (Lk.Note.none, 2)
theorem noteParse_all (s : ByteArray) (w : World) (hE : Env w) : Calls Tryz.prog 5 #[.string s] w fun e w' => parsed w' (ans s) e ∧ Below w.heap.size w w' := by
  by_cases hs : s.size ≤ 60000
  · rw [show ans s = Lk.readNote s.data.toList from if_pos hs]
    exact noteParse_any s hs w hE
  · rw [show ans s = (Lk.Note.none, 2) from if_neg hs]
    refine (noteParse_long s (by omega) w).mono ?_
    rintro e w' ⟨rfl, hb⟩
    exact ⟨parsed_none _ _, hb⟩
set_option maxHeartbeats 8000000 in
set_option maxRecDepth 100000 in
theorem noteSays_any (r q : Lk.Note) (v u : Value) (s : ByteArray) (w : World) (hE : Env w) (hP : PinsAt w v r.lock) (hQ : PinsAt w u q.lock) (hw : (Lit.int .i64 r.kind).wf = true) :
    Calls Tryz.prog 3 #[recV r v, recV q u, .string s] w fun e w' => e = .returned (.bool true) ∧ Below w.heap.size w w' := by
  obtain ⟨a, c, rfl⟩ := pins_slice hP
  obtain ⟨a', c', rfl⟩ := pins_slice hQ
  have HPr : Hid (∀ w, PinsAt w (.slice a r.lock.length c) r.lock → Env w → Calls Tryz.prog 4 #[recV r (.slice a r.lock.length c)] w fun e w' => e = .returned (.tuple #[.string ⟨(Lk.notePrinted r).toArray⟩, .int .i64 (Lk.chkNote r)]) ∧ Below w.heap.size w w') := fun w h hE => notePrint_any r _ w h hE
  have HTx : Hid (∀ w, PinsAt w (.slice a r.lock.length c) r.lock → Env w → Calls Tryz.prog 6 #[recV r (.slice a r.lock.length c)] w fun e w' => e = .returned (.tuple #[.string ⟨(Lk.notePrinted r).toArray⟩, .int .i64 (Lk.chkNote r)]) ∧ Below w.heap.size w w') := fun w h hE => recTextR_any r _ w h hw hE
  have HCk : Hid (∀ w, PinsAt w (.slice a r.lock.length c) r.lock → Calls Tryz.prog 10 #[recV r (.slice a r.lock.length c)] w fun e w' => e = .returned (.int .i64 (Lk.chkNote r)) ∧ Below w.heap.size w w') := fun w h => noteCheck_any r _ w h
  have HRl : Hid (∀ w, PinsAt w (.slice a r.lock.length c) r.lock → Calls Tryz.prog 8 #[.agg #[.int .i64 r.id, .slice a r.lock.length c]] w fun e w' => e = .returned (.int .i64 (Lk.chkRel r.id r.lock)) ∧ Below w.heap.size w w') := fun w h => release_any r.id _ r.lock w h
  have HRR : Hid (∀ w, PinsAt w (.slice a r.lock.length c) r.lock → Calls Tryz.prog 9 #[.agg #[.int .i64 r.id, .slice a r.lock.length c]] w fun e w' => e = .returned (.int .i64 (Lk.chkRel r.id r.lock)) ∧ Below w.heap.size w w') := fun w h => releaseR_any r.id _ r.lock w h
  have HSm : Hid (∀ w, PinsAt w (.slice a r.lock.length c) r.lock → PinsAt w (.slice a' q.lock.length c') q.lock → Calls Tryz.prog 11 #[recV r (.slice a r.lock.length c), recV q (.slice a' q.lock.length c')] w fun e w' => e = .returned (.bool (Lk.sameNote r q)) ∧ Below w.heap.size w w') := fun w h h' => same_any r q _ _ w h h'
  have HSR : Hid (∀ w, PinsAt w (.slice a r.lock.length c) r.lock → PinsAt w (.slice a' q.lock.length c') q.lock → Calls Tryz.prog 12 #[recV r (.slice a r.lock.length c), recV q (.slice a' q.lock.length c')] w fun e w' => e = .returned (.bool (Lk.sameNote r q)) ∧ Below w.heap.size w w') := fun w h h' => sameR_any r q _ _ w h h'
  have HAl : Hid (∀ w, PinsAt w (.slice a r.lock.length c) r.lock → PinsAt w (.slice a' q.lock.length c') q.lock → Calls Tryz.prog 13 #[.agg #[.int .i64 r.id, .slice a r.lock.length c], .agg #[.int .i64 q.id, .slice a' q.lock.length c']] w fun e w' => e = .returned (.bool (Lk.alike r.id r.lock q.id q.lock)) ∧ Below w.heap.size w w') := fun w h h' => alike_any r.id q.id _ _ r.lock q.lock w h h'
  have HAR : Hid (∀ w, PinsAt w (.slice a r.lock.length c) r.lock → PinsAt w (.slice a' q.lock.length c') q.lock → Calls Tryz.prog 14 #[.agg #[.int .i64 r.id, .slice a r.lock.length c], .agg #[.int .i64 q.id, .slice a' q.lock.length c']] w fun e w' => e = .returned (.bool (Lk.alike r.id r.lock q.id q.lock)) ∧ Below w.heap.size w w') := fun w h h' => alikeR_any r.id q.id _ _ r.lock q.lock w h h'
  have HPa : Hid (∀ w, Env w → Calls Tryz.prog 5 #[.string s] w fun e w' => parsed w' (ans s) e ∧ Below w.heap.size w w') := fun w hE => noteParse_all s w hE
  have HRd : Hid (s.size ≤ 60000 → ∀ w, Env w → Calls Tryz.prog 15 #[.string s] w fun e w' => parsed w' (ans s) e ∧ Below w.heap.size w w') := fun hs w hE => by
    rw [show ans s = Lk.readNote s.data.toList from if_pos hs]
    exact recRead_any s hs w hE
  have HLg : Hid (¬ s.size ≤ 60000 → ans s = (Lk.Note.none, 2)) := fun h => if_neg h
  have HP : Hid (PinsAt w (.slice a r.lock.length c) r.lock) := hP
  have HQ : Hid (PinsAt w (.slice a' q.lock.length c') q.lock) := hQ
  have HE : Hid (Env w) := hE
  clear hP hQ hE hw
  generalize (⟨(Lk.notePrinted r).toArray⟩ : ByteArray) = TX at HPr HTx
  generalize Lk.chkNote r = CN at HPr HTx HCk
  generalize Lk.chkRel r.id r.lock = CR at HRl HRR
  generalize Lk.sameNote r q = SS at HSm HSR
  generalize Lk.alike r.id r.lock q.id q.lock = AL at HAl HAR
  unfold recV at HPr HTx HCk HSm HSR ⊢
  obtain ⟨r1, r2, r3, r4, r5, r6, r7⟩ := r
  obtain ⟨q1, q2, q3, q4, q5, q6, q7⟩ := q
  simp only at HPr HTx HCk HSm HSR HRl HRR HAl HAR HP HQ ⊢
  have HRP : Hid (RecAt ((w.alloc (.cells #[.int .i64 r1, .int .i64 r2, .int .i64 r3, .int .i64 r4, .bool r5, .int .i64 r6, .slice a r7.length c] 26)).alloc (.cells #[.int .i64 q1, .int .i64 q2, .int .i64 q3, .int .i64 q4, .bool q5, .int .i64 q6, .slice a' q7.length c'] 26)) w.heap.size r1 r2 r3 r4 r5 r6 (.slice a r7.length c)) :=
    (recAt_alloc w r1 r2 r3 r4 r5 r6 (.slice a r7.length c)).below ((Below.refl _ _).alloc (Nat.le_refl _) _)
  have HRQ : Hid (RecAt ((w.alloc (.cells #[.int .i64 r1, .int .i64 r2, .int .i64 r3, .int .i64 r4, .bool r5, .int .i64 r6, .slice a r7.length c] 26)).alloc (.cells #[.int .i64 q1, .int .i64 q2, .int .i64 q3, .int .i64 q4, .bool q5, .int .i64 q6, .slice a' q7.length c'] 26)) (w.heap.size + 1) q1 q2 q3 q4 q5 q6 (.slice a' q7.length c')) := by
    have := recAt_alloc (w.alloc (.cells #[.int .i64 r1, .int .i64 r2, .int .i64 r3, .int .i64 r4, .bool r5, .int .i64 r6, .slice a r7.length c] 26)) q1 q2 q3 q4 q5 q6 (.slice a' q7.length c')
    rwa [World.size_alloc] at this
  have HB : Hid (Below w.heap.size w ((w.alloc (.cells #[.int .i64 r1, .int .i64 r2, .int .i64 r3, .int .i64 r4, .bool r5, .int .i64 r6, .slice a r7.length c] 26)).alloc (.cells #[.int .i64 q1, .int .i64 q2, .int .i64 q3, .int .i64 q4, .bool q5, .int .i64 q6, .slice a' q7.length c'] 26))) := ((Below.refl _ w).alloc (Nat.le_refl _) _).alloc (by simp) _
  go_enter Tryz.func3, Tryz.ntmps3
  go_wp2_with fail
  generalize (w.alloc (.cells #[.int .i64 r1, .int .i64 r2, .int .i64 r3, .int .i64 r4, .bool r5, .int .i64 r6, .slice a r7.length c] 26)).alloc (.cells #[.int .i64 q1, .int .i64 q2, .int .i64 q3, .int .i64 q4, .bool q5, .int .i64 q6, .slice a' q7.length c'] 26) = W at HRP HRQ HB ⊢
  refine (HPr.out _ (HP.out.below HB.out) (HE.out.below HB.out)).mono ?_
  rintro e w1 ⟨rfl, hb1⟩
  have HB1 : Hid (Below w.heap.size w w1) := HB.out.trans (hb1.mono HB.out.size)
  have HRP1 : Hid (RecAt w1 w.heap.size r1 r2 r3 r4 r5 r6 (.slice a r7.length c)) := HRP.out.below hb1
  have HRQ1 : Hid (RecAt w1 (w.heap.size + 1) q1 q2 q3 q4 q5 q6 (.slice a' q7.length c')) := HRQ.out.below hb1
  clear hb1 HB HRP HRQ HPr
  go_wp2_with fail
  refine (HPa.out _ (HE.out.below HB1.out)).mono ?_
  rintro e w2 ⟨⟨z, rfl, hz⟩, hb2⟩
  generalize ans s = X at hz HRd HLg
  obtain ⟨X1, XE⟩ := X
  simp only at hz ⊢
  obtain ⟨za, zc, rfl⟩ := pins_slice hz
  have HZ : Hid (PinsAt w2 (.slice za X1.lock.length zc) X1.lock) := hz
  have HB2 : Hid (Below w.heap.size w w2) := HB1.out.trans (hb2.mono HB1.out.size)
  have HRP2 : Hid (RecAt w2 w.heap.size r1 r2 r3 r4 r5 r6 (.slice a r7.length c)) := HRP1.out.below hb2
  have HRQ2 : Hid (RecAt w2 (w.heap.size + 1) q1 q2 q3 q4 q5 q6 (.slice a' q7.length c')) := HRQ1.out.below hb2
  clear hb2 HB1 HRP1 HRQ1 HPa hz
  -- REST
  have HSX : Hid (∀ w v1 v2, PinsAt w v1 X1.lock → PinsAt w v2 X1.lock → Calls Tryz.prog 12 #[recV X1 v1, recV X1 v2] w fun e w' => e = .returned (.bool true) ∧ Below w.heap.size w w') := fun w v1 v2 h h' => by
    have := sameR_any X1 X1 v1 v2 w h h'
    rw [Lk.sameNote_self] at this
    exact this
  obtain ⟨x1, x2, x3, x4, x5, x6, x7⟩ := X1
  unfold recV at HSX ⊢
  simp only at HSX
  simp only at HZ ⊢
  have hbA : Below w2.heap.size w2 (w2.alloc (.cells #[.int .i64 x1, .int .i64 x2, .int .i64 x3, .int .i64 x4, .bool x5, .int .i64 x6, .slice za x7.length zc] 26)) := (Below.refl _ _).alloc (Nat.le_refl _) _
  have HB3 : Hid (Below w.heap.size w (w2.alloc (.cells #[.int .i64 x1, .int .i64 x2, .int .i64 x3, .int .i64 x4, .bool x5, .int .i64 x6, .slice za x7.length zc] 26))) := HB2.out.trans (hbA.mono HB2.out.size)
  have HRP3 : Hid (RecAt (w2.alloc (.cells #[.int .i64 x1, .int .i64 x2, .int .i64 x3, .int .i64 x4, .bool x5, .int .i64 x6, .slice za x7.length zc] 26)) w.heap.size r1 r2 r3 r4 r5 r6 (.slice a r7.length c)) := HRP2.out.below hbA
  have HRQ3 : Hid (RecAt (w2.alloc (.cells #[.int .i64 x1, .int .i64 x2, .int .i64 x3, .int .i64 x4, .bool x5, .int .i64 x6, .slice za x7.length zc] 26)) (w.heap.size + 1) q1 q2 q3 q4 q5 q6 (.slice a' q7.length c')) := HRQ2.out.below hbA
  have HRX3 : Hid (RecAt (w2.alloc (.cells #[.int .i64 x1, .int .i64 x2, .int .i64 x3, .int .i64 x4, .bool x5, .int .i64 x6, .slice za x7.length zc] 26)) w2.heap.size x1 x2 x3 x4 x5 x6 (.slice za x7.length zc)) := recAt_alloc w2 x1 x2 x3 x4 x5 x6 _
  have HZ3 : Hid (PinsAt (w2.alloc (.cells #[.int .i64 x1, .int .i64 x2, .int .i64 x3, .int .i64 x4, .bool x5, .int .i64 x6, .slice za x7.length zc] 26)) (.slice za x7.length zc) x7) := HZ.out.below hbA
  clear hbA HB2 HRQ2 HZ
  obtain ⟨c0, c1, c2, c3, c4, c5, c6, c7⟩ := HRP2.out
  go_wp2_with fail
  clear c0 c1 c2 c3 c4 c5 c6 c7 HRP2
  generalize (w2.alloc (.cells #[.int .i64 x1, .int .i64 x2, .int .i64 x3, .int .i64 x4, .bool x5, .int .i64 x6, .slice za x7.length zc] 26)) = W3 at HB3 HRP3 HRQ3 HRX3 HZ3 ⊢
  generalize w2.heap.size = g9 at HRX3 ⊢
  refine (HTx.out _ (HP.out.below HB3.out) (HE.out.below HB3.out)).mono ?_
  rintro e w4 ⟨rfl, hb4⟩
  have HB4 : Hid (Below w.heap.size w w4) := HB3.out.trans (hb4.mono HB3.out.size)
  have HRP4 : Hid (RecAt w4 w.heap.size r1 r2 r3 r4 r5 r6 (.slice a r7.length c)) := HRP3.out.below hb4
  have HRQ4 : Hid (RecAt w4 (w.heap.size + 1) q1 q2 q3 q4 q5 q6 (.slice a' q7.length c')) := HRQ3.out.below hb4
  have HRX4 : Hid (RecAt w4 g9 x1 x2 x3 x4 x5 x6 (.slice za x7.length zc)) := HRX3.out.below hb4
  have HZ4 : Hid (PinsAt w4 (.slice za x7.length zc) x7) := HZ3.out.below hb4
  clear hb4 HB3 HRP3 HRQ3 HRX3 HZ3 HTx
  have S0 : Hid (w4.drew.cell? ⟨w.heap.size, 0, none⟩ = some (.int .i64 r1) ∧ w4.drew.cell? ⟨w.heap.size, 1, none⟩ = some (.int .i64 r2) ∧ w4.drew.cell? ⟨w.heap.size, 2, none⟩ = some (.int .i64 r3) ∧ w4.drew.cell? ⟨w.heap.size, 3, none⟩ = some (.int .i64 r4) ∧ w4.drew.cell? ⟨w.heap.size, 4, none⟩ = some (.bool r5) ∧ w4.drew.cell? ⟨w.heap.size, 5, none⟩ = some (.int .i64 r6) ∧ w4.drew.cell? ⟨w.heap.size, 6, none⟩ = some (.slice a r7.length c) ∧ w4.drew.cell? ⟨w.heap.size + 1, 0, none⟩ = some (.int .i64 q1) ∧ w4.drew.cell? ⟨w.heap.size + 1, 1, none⟩ = some (.int .i64 q2) ∧ w4.drew.cell? ⟨w.heap.size + 1, 2, none⟩ = some (.int .i64 q3) ∧ w4.drew.cell? ⟨w.heap.size + 1, 3, none⟩ = some (.int .i64 q4) ∧ w4.drew.cell? ⟨w.heap.size + 1, 4, none⟩ = some (.bool q5) ∧ w4.drew.cell? ⟨w.heap.size + 1, 5, none⟩ = some (.int .i64 q6) ∧ w4.drew.cell? ⟨w.heap.size + 1, 6, none⟩ = some (.slice a' q7.length c') ∧ Hid (Below w4.heap.size w4 w4.drew)) := ⟨HRP4.out.2.1, HRP4.out.2.2.1, HRP4.out.2.2.2.1, HRP4.out.2.2.2.2.1, HRP4.out.2.2.2.2.2.1, HRP4.out.2.2.2.2.2.2.1, HRP4.out.2.2.2.2.2.2.2, HRQ4.out.2.1, HRQ4.out.2.2.1, HRQ4.out.2.2.2.1, HRQ4.out.2.2.2.2.1, HRQ4.out.2.2.2.2.2.1, HRQ4.out.2.2.2.2.2.2.1, HRQ4.out.2.2.2.2.2.2.2, (Below.refl _ w4).drew⟩
  have KP : Hid (∀ x y : World, Below x.heap.size x y → (x.cell? ⟨w.heap.size, 0, none⟩ = some (.int .i64 r1) ∧ x.cell? ⟨w.heap.size, 1, none⟩ = some (.int .i64 r2) ∧ x.cell? ⟨w.heap.size, 2, none⟩ = some (.int .i64 r3) ∧ x.cell? ⟨w.heap.size, 3, none⟩ = some (.int .i64 r4) ∧ x.cell? ⟨w.heap.size, 4, none⟩ = some (.bool r5) ∧ x.cell? ⟨w.heap.size, 5, none⟩ = some (.int .i64 r6) ∧ x.cell? ⟨w.heap.size, 6, none⟩ = some (.slice a r7.length c) ∧ x.cell? ⟨w.heap.size + 1, 0, none⟩ = some (.int .i64 q1) ∧ x.cell? ⟨w.heap.size + 1, 1, none⟩ = some (.int .i64 q2) ∧ x.cell? ⟨w.heap.size + 1, 2, none⟩ = some (.int .i64 q3) ∧ x.cell? ⟨w.heap.size + 1, 3, none⟩ = some (.int .i64 q4) ∧ x.cell? ⟨w.heap.size + 1, 4, none⟩ = some (.bool q5) ∧ x.cell? ⟨w.heap.size + 1, 5, none⟩ = some (.int .i64 q6) ∧ x.cell? ⟨w.heap.size + 1, 6, none⟩ = some (.slice a' q7.length c') ∧ Hid (Below w4.heap.size w4 x)) → (y.cell? ⟨w.heap.size, 0, none⟩ = some (.int .i64 r1) ∧ y.cell? ⟨w.heap.size, 1, none⟩ = some (.int .i64 r2) ∧ y.cell? ⟨w.heap.size, 2, none⟩ = some (.int .i64 r3) ∧ y.cell? ⟨w.heap.size, 3, none⟩ = some (.int .i64 r4) ∧ y.cell? ⟨w.heap.size, 4, none⟩ = some (.bool r5) ∧ y.cell? ⟨w.heap.size, 5, none⟩ = some (.int .i64 r6) ∧ y.cell? ⟨w.heap.size, 6, none⟩ = some (.slice a r7.length c) ∧ y.cell? ⟨w.heap.size + 1, 0, none⟩ = some (.int .i64 q1) ∧ y.cell? ⟨w.heap.size + 1, 1, none⟩ = some (.int .i64 q2) ∧ y.cell? ⟨w.heap.size + 1, 2, none⟩ = some (.int .i64 q3) ∧ y.cell? ⟨w.heap.size + 1, 3, none⟩ = some (.int .i64 q4) ∧ y.cell? ⟨w.heap.size + 1, 4, none⟩ = some (.bool q5) ∧ y.cell? ⟨w.heap.size + 1, 5, none⟩ = some (.int .i64 q6) ∧ y.cell? ⟨w.heap.size + 1, 6, none⟩ = some (.slice a' q7.length c') ∧ Hid (Below w4.heap.size w4 y))) := fun x y hb h => by
    obtain ⟨h1, h2, h3, h4, h5, h6, h7, k1, k2, k3, k4, k5, k6, k7, hB⟩ := h
    have e : ∀ b o v, x.cell? ⟨b, o, none⟩ = some v → y.cell? ⟨b, o, none⟩ = some v := fun b o v hc => (hb.cell (p := ⟨b, o, none⟩) (World.block_lt_of_cell? x _ hc)).trans hc
    exact ⟨e _ _ _ h1, e _ _ _ h2, e _ _ _ h3, e _ _ _ h4, e _ _ _ h5, e _ _ _ h6, e _ _ _ h7, e _ _ _ k1, e _ _ _ k2, e _ _ _ k3, e _ _ _ k4, e _ _ _ k5, e _ _ _ k6, e _ _ _ k7, hB.out.trans (hb.mono hB.out.size)⟩
  have SP : Hid (∀ x : World, (x.cell? ⟨w.heap.size, 0, none⟩ = some (.int .i64 r1) ∧ x.cell? ⟨w.heap.size, 1, none⟩ = some (.int .i64 r2) ∧ x.cell? ⟨w.heap.size, 2, none⟩ = some (.int .i64 r3) ∧ x.cell? ⟨w.heap.size, 3, none⟩ = some (.int .i64 r4) ∧ x.cell? ⟨w.heap.size, 4, none⟩ = some (.bool r5) ∧ x.cell? ⟨w.heap.size, 5, none⟩ = some (.int .i64 r6) ∧ x.cell? ⟨w.heap.size, 6, none⟩ = some (.slice a r7.length c) ∧ x.cell? ⟨w.heap.size + 1, 0, none⟩ = some (.int .i64 q1) ∧ x.cell? ⟨w.heap.size + 1, 1, none⟩ = some (.int .i64 q2) ∧ x.cell? ⟨w.heap.size + 1, 2, none⟩ = some (.int .i64 q3) ∧ x.cell? ⟨w.heap.size + 1, 3, none⟩ = some (.int .i64 q4) ∧ x.cell? ⟨w.heap.size + 1, 4, none⟩ = some (.bool q5) ∧ x.cell? ⟨w.heap.size + 1, 5, none⟩ = some (.int .i64 q6) ∧ x.cell? ⟨w.heap.size + 1, 6, none⟩ = some (.slice a' q7.length c') ∧ Hid (Below w4.heap.size w4 x)) → Below w.heap.size w x) := fun x h => HB4.out.trans (h.2.2.2.2.2.2.2.2.2.2.2.2.2.2.out.mono HB4.out.size)
  have SQ : Hid (∀ x : World, (x.cell? ⟨w.heap.size, 0, none⟩ = some (.int .i64 r1) ∧ x.cell? ⟨w.heap.size, 1, none⟩ = some (.int .i64 r2) ∧ x.cell? ⟨w.heap.size, 2, none⟩ = some (.int .i64 r3) ∧ x.cell? ⟨w.heap.size, 3, none⟩ = some (.int .i64 r4) ∧ x.cell? ⟨w.heap.size, 4, none⟩ = some (.bool r5) ∧ x.cell? ⟨w.heap.size, 5, none⟩ = some (.int .i64 r6) ∧ x.cell? ⟨w.heap.size, 6, none⟩ = some (.slice a r7.length c) ∧ x.cell? ⟨w.heap.size + 1, 0, none⟩ = some (.int .i64 q1) ∧ x.cell? ⟨w.heap.size + 1, 1, none⟩ = some (.int .i64 q2) ∧ x.cell? ⟨w.heap.size + 1, 2, none⟩ = some (.int .i64 q3) ∧ x.cell? ⟨w.heap.size + 1, 3, none⟩ = some (.int .i64 q4) ∧ x.cell? ⟨w.heap.size + 1, 4, none⟩ = some (.bool q5) ∧ x.cell? ⟨w.heap.size + 1, 5, none⟩ = some (.int .i64 q6) ∧ x.cell? ⟨w.heap.size + 1, 6, none⟩ = some (.slice a' q7.length c') ∧ Hid (Below w4.heap.size w4 x)) → Below w4.heap.size w4 x) := fun x h => h.2.2.2.2.2.2.2.2.2.2.2.2.2.2.out
  go_wp2_with fail
  go_region_held3 (fun w' => w'.cell? ⟨w.heap.size, 0, none⟩ = some (.int .i64 r1) ∧ w'.cell? ⟨w.heap.size, 1, none⟩ = some (.int .i64 r2) ∧ w'.cell? ⟨w.heap.size, 2, none⟩ = some (.int .i64 r3) ∧ w'.cell? ⟨w.heap.size, 3, none⟩ = some (.int .i64 r4) ∧ w'.cell? ⟨w.heap.size, 4, none⟩ = some (.bool r5) ∧ w'.cell? ⟨w.heap.size, 5, none⟩ = some (.int .i64 r6) ∧ w'.cell? ⟨w.heap.size, 6, none⟩ = some (.slice a r7.length c) ∧ w'.cell? ⟨w.heap.size + 1, 0, none⟩ = some (.int .i64 q1) ∧ w'.cell? ⟨w.heap.size + 1, 1, none⟩ = some (.int .i64 q2) ∧ w'.cell? ⟨w.heap.size + 1, 2, none⟩ = some (.int .i64 q3) ∧ w'.cell? ⟨w.heap.size + 1, 3, none⟩ = some (.int .i64 q4) ∧ w'.cell? ⟨w.heap.size + 1, 4, none⟩ = some (.bool q5) ∧ w'.cell? ⟨w.heap.size + 1, 5, none⟩ = some (.int .i64 q6) ∧ w'.cell? ⟨w.heap.size + 1, 6, none⟩ = some (.slice a' q7.length c') ∧ Hid (Below w4.heap.size w4 w')) (first | exact KP.out _ _ (by assumption) (by assumption) | exact S0.out)
    (first
      | (go_at_call 7; refine (lined_any _ (HE.out.below (SP.out _ (by assumption)))).mono ?_; rintro e y ⟨rfl, hby⟩)
      | (go_at_call 8; refine (HRl.out _ (HP.out.below (SP.out _ (by assumption)))).mono ?_; rintro e y ⟨rfl, hby⟩)
      | (go_at_call 9; refine (HRR.out _ (HP.out.below (SP.out _ (by assumption)))).mono ?_; rintro e y ⟨rfl, hby⟩)
      | (go_at_call 10; refine (HCk.out _ (HP.out.below (SP.out _ (by assumption)))).mono ?_; rintro e y ⟨rfl, hby⟩)
      | (go_at_call 11; refine (HSm.out _ (HP.out.below (SP.out _ (by assumption))) (HQ.out.below (SP.out _ (by assumption)))).mono ?_; rintro e y ⟨rfl, hby⟩)
      | (go_at_call 12; refine (HSR.out _ (HP.out.below (SP.out _ (by assumption))) (HQ.out.below (SP.out _ (by assumption)))).mono ?_; rintro e y ⟨rfl, hby⟩)
      | (go_at_call 13; refine (HAl.out _ (HP.out.below (SP.out _ (by assumption))) (HQ.out.below (SP.out _ (by assumption)))).mono ?_; rintro e y ⟨rfl, hby⟩)
      | (go_at_call 14; refine (HAR.out _ (HP.out.below (SP.out _ (by assumption))) (HQ.out.below (SP.out _ (by assumption)))).mono ?_; rintro e y ⟨rfl, hby⟩))
  have HB5 : Hid (Below w.heap.size w y) := SP.out _ (by assumption)
  have hb5 : Below w4.heap.size w4 y := SQ.out _ (by assumption)
  have HRX5 : Hid (RecAt y g9 x1 x2 x3 x4 x5 x6 (.slice za x7.length zc)) := HRX4.out.below hb5
  have HZ5 : Hid (PinsAt y (.slice za x7.length zc) x7) := HZ4.out.below hb5
  clear hb5 HRX4 HZ4 HRP4 HRQ4 HB4 S0 KP SP SQ
  clear HCk HRl HRR HSm HSR HAl HAR
  by_cases hs : s.size ≤ 60000
  · have hs' : (s.size : Int) ≤ 60000 := by omega
    go_wp2_with fail
    refine (HRd.out hs _ (HE.out.below HB5.out)).mono ?_
    rintro e w6 ⟨⟨z2, rfl, hz2⟩, hb6⟩
    simp only at hz2
    obtain ⟨ya, yc, rfl⟩ := pins_slice hz2
    have HB6 : Hid (Below w.heap.size w w6) := HB5.out.trans (hb6.mono HB5.out.size)
    have HRX6 : Hid (RecAt w6 g9 x1 x2 x3 x4 x5 x6 (.slice za x7.length zc)) := HRX5.out.below hb6
    have HZ6 : Hid (PinsAt w6 (.slice za x7.length zc) x7) := HZ5.out.below hb6
    have HY6 : Hid (PinsAt w6 (.slice ya x7.length yc) x7) := hz2
    clear hz2 hb6 HB5 HRX5 HZ5
    unfold recV
    simp only
    have hbA : Below w6.heap.size w6 (w6.alloc (.cells #[.int .i64 x1, .int .i64 x2, .int .i64 x3, .int .i64 x4, .bool x5, .int .i64 x6, .slice ya x7.length yc] 26)) := (Below.refl _ _).alloc (Nat.le_refl _) _
    have HB7 : Hid (Below w.heap.size w (w6.alloc (.cells #[.int .i64 x1, .int .i64 x2, .int .i64 x3, .int .i64 x4, .bool x5, .int .i64 x6, .slice ya x7.length yc] 26))) := HB6.out.trans (hbA.mono HB6.out.size)
    have HRX7 : Hid (RecAt (w6.alloc (.cells #[.int .i64 x1, .int .i64 x2, .int .i64 x3, .int .i64 x4, .bool x5, .int .i64 x6, .slice ya x7.length yc] 26)) g9 x1 x2 x3 x4 x5 x6 (.slice za x7.length zc)) := HRX6.out.below hbA
    have HRY7 : Hid (RecAt (w6.alloc (.cells #[.int .i64 x1, .int .i64 x2, .int .i64 x3, .int .i64 x4, .bool x5, .int .i64 x6, .slice ya x7.length yc] 26)) w6.heap.size x1 x2 x3 x4 x5 x6 (.slice ya x7.length yc)) := recAt_alloc w6 x1 x2 x3 x4 x5 x6 _
    have HZ7 : Hid (PinsAt (w6.alloc (.cells #[.int .i64 x1, .int .i64 x2, .int .i64 x3, .int .i64 x4, .bool x5, .int .i64 x6, .slice ya x7.length yc] 26)) (.slice za x7.length zc) x7) := HZ6.out.below hbA
    have HY7 : Hid (PinsAt (w6.alloc (.cells #[.int .i64 x1, .int .i64 x2, .int .i64 x3, .int .i64 x4, .bool x5, .int .i64 x6, .slice ya x7.length yc] 26)) (.slice ya x7.length yc) x7) := HY6.out.below hbA
    clear hbA HB6 HZ6 HY6 HRX6
    go_upto_region 9 with fail
    generalize (w6.alloc (.cells #[.int .i64 x1, .int .i64 x2, .int .i64 x3, .int .i64 x4, .bool x5, .int .i64 x6, .slice ya x7.length yc] 26)) = W7 at HB7 HRX7 HRY7 HZ7 HY7 ⊢
    generalize w6.heap.size = g6 at HRY7 ⊢
    obtain ⟨c0, c1, c2, c3, c4, c5, c6, c7⟩ := HRX7.out
    obtain ⟨d0, d1, d2, d3, d4, d5, d6, d7⟩ := HRY7.out
    go_wp2_with fail
    refine (HSX.out _ _ _ HZ7.out HY7.out).mono ?_
    rintro e w8 ⟨rfl, hb8⟩
    go_wp2
    go_ret
    exact ⟨rfl, HB7.out.trans (hb8.mono HB7.out.size)⟩
  · have hX := HLg.out hs
    have hs' : (60000 : Int) < (s.size : Int) := by omega
    simp only [Lk.Note.none, Prod.mk.injEq, Lk.Note.mk.injEq] at hX
    obtain ⟨⟨rfl, rfl, rfl, rfl, rfl, rfl, rfl⟩, rfl⟩ := hX
    obtain ⟨c0, c1, c2, c3, c4, c5, c6, c7⟩ := HRX5.out
    go_wp2_with fail
    refine (HSX.out _ _ _ HZ5.out (pins_none _)).mono ?_
    rintro e w8 ⟨rfl, hb8⟩
    go_wp2
    go_ret
    exact ⟨rfl, HB5.out.trans (hb8.mono HB5.out.size)⟩
end Go.Proofs.YtpmhajdljghfcabGreatDoor
