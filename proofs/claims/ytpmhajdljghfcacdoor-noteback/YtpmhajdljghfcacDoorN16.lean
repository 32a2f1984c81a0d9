/- The walk of NoteBack, out of the contracts: it returns true, and nothing old has turned. -/
import Derived.Test.YtpmhajdljghfcacDoorN12
import Derived.Test.YtpmhajdljghfcacDoorN14
namespace Go.Proofs.YtpmhajdljghfcacDoor
open Go.RowKit
/-- what any text is read as -/
def ans (s : ByteArray) : Lk.Note × Int := if s.size ≤ 60000 then Lk.readNote s.data.toList else (Lk.Note.none, 2)
theorem noteParse_all (s : ByteArray) (w : World) (hE : Env w) : Calls Tryd.prog 7 #[.string s] w fun e w' => parsed w' (ans s) e ∧ Below w.heap.size w w' := by
  by_cases hs : s.size ≤ 60000
  · rw [show ans s = Lk.readNote s.data.toList from if_pos hs]
    exact noteParse_any s hs w hE
  · rw [show ans s = (Lk.Note.none, 2) from if_neg hs]
    refine (noteParse_long s (by omega) w).mono ?_
    rintro e w' ⟨rfl, hb⟩
    exact ⟨parsed_none _ _, hb⟩
theorem ans_back {s : ByteArray} (h : (ans s).2 = 0) : Lk.chkNote (ans s).1 = 0 ∧ Lk.noteText (ans s).1 = s.data.toList := by
  by_cases hs : s.size ≤ 60000
  · rw [show ans s = Lk.readNote s.data.toList from if_pos hs] at h ⊢
    exact Lk.read_back h
  · rw [show ans s = (Lk.Note.none, 2) from if_neg hs] at h
    cases h
theorem text_small {r : Lk.Note} (h : Lk.chkNote r = 0) : (⟨(Lk.noteText r).toArray⟩ : ByteArray).size ≤ 60000 := by
  show (Lk.noteText r).toArray.size ≤ 60000
  obtain ⟨hn, hl⟩ := Lk.note_ok h
  obtain ⟨h1, h2⟩ := chk_ok hl
  have ht := text_len r.lock h2
  have := note_len r.nums (Lk.text r.lock) rfl (fun k hk => by
    have hkl : k < r.nums.length := hk
    refine hn _ ?_
    rw [List.getD_eq_getElem?_getD, List.getElem?_eq_getElem hkl]
    exact List.getElem_mem hkl) (by omega)
  rw [join_words] at this
  have e : Lk.noteText r = (r.nums.map fun n => Lib.itoa n ++ [32]).flatten ++ 61 :: Lk.text r.lock := rfl
  rw [List.size_toArray, e]
  omega
theorem parse_printed {r : Lk.Note} (h : Lk.chkNote r = 0) (w : World) (hE : Env w) : Calls Tryd.prog 7 #[.string ⟨(Lk.noteText r).toArray⟩] w fun e w' => (∃ v, e = .returned (.tuple #[recV r v, .int .i64 0]) ∧ PinsAt w' v r.lock) ∧ Below w.heap.size w w' := by
  have := noteParse_any ⟨(Lk.noteText r).toArray⟩ (text_small h) w hE
  rw [show (⟨(Lk.noteText r).toArray⟩ : ByteArray).data.toList = Lk.noteText r from by simp, Lk.note_back h] at this
  exact this
theorem same_texts {r q : Lk.Note} (h : Lk.chkNote r = 0) (h' : Lk.chkNote q = 0) : ((⟨(Lk.noteText r).toArray⟩ : ByteArray).toList == (⟨(Lk.noteText q).toArray⟩ : ByteArray).toList) = Lk.sameNote r q := by
  rw [toList_eq, toList_eq]
  show (Lk.noteText r == Lk.noteText q) = _
  by_cases e : r = q
  · subst e
    rw [Lk.sameNote_self]; simp
  · rw [show Lk.sameNote r q = false from Bool.eq_false_iff.2 fun x => e ((Lk.sameNote_iff r q).1 x), beq_eq_false_iff_ne]
    exact fun x => e ((Lk.note_unlike h h').1 x)
set_option maxHeartbeats 4000000 in
set_option maxRecDepth 100000 in
theorem back_bbb (r q : Lk.Note) (v u : Value) (s : ByteArray) (w : World) (hE : Env w) (hP : PinsAt w v r.lock) (hQ : PinsAt w u q.lock) (hr : ¬ Lk.chkNote r = 0) (hq : ¬ Lk.chkNote q = 0) (hx : ¬ (ans s).2 = 0) :
    Calls Tryd.prog 3 #[recV r v, recV q u, .string s] w fun e w' => e = .returned (.bool true) ∧ Below w.heap.size w w' := by
  obtain ⟨a, c, rfl⟩ := pins_slice hP
  obtain ⟨a', c', rfl⟩ := pins_slice hQ
  have HPr : Hid (∀ w, PinsAt w (.slice a r.lock.length c) r.lock → Env w → Calls Tryd.prog 4 #[recV r (.slice a r.lock.length c)] w fun e w' => e = .returned (.tuple #[.string ⟨#[]⟩, .int .i64 (Lk.chkNote r)]) ∧ Below w.heap.size w w') := fun w h hE => by
    have := notePrint_any r _ w h hE
    rw [show Lk.notePrinted r = [] from if_neg hr] at this
    exact this
  have HPq : Hid (∀ w, PinsAt w (.slice a' q.lock.length c') q.lock → Env w → Calls Tryd.prog 4 #[recV q (.slice a' q.lock.length c')] w fun e w' => e = .returned (.tuple #[.string ⟨#[]⟩, .int .i64 (Lk.chkNote q)]) ∧ Below w.heap.size w w') := fun w h hE => by
    have := notePrint_any q _ w h hE
    rw [show Lk.notePrinted q = [] from if_neg hq] at this
    exact this
  have HPa : Hid (∀ w, Env w → Calls Tryd.prog 7 #[.string s] w fun e w' => parsed w' (ans s) e ∧ Below w.heap.size w w') := fun w hE => noteParse_all s w hE
  have hxb : ((ans s).2 != 0) = true := by rw [bne_iff_ne]; exact hx
  have hrb : (Lk.chkNote r == 0) = false := by rw [beq_eq_false_iff_ne]; exact hr
  have hqb : (Lk.chkNote q == 0) = false := by rw [beq_eq_false_iff_ne]; exact hq
  have HP : Hid (PinsAt w (.slice a r.lock.length c) r.lock) := hP
  have HQ : Hid (PinsAt w (.slice a' q.lock.length c') q.lock) := hQ
  have HE : Hid (Env w) := hE
  clear hP hQ hE hr hq hx
  generalize Lk.chkNote r = CR at HPr hrb
  generalize Lk.chkNote q = CQ at HPq hqb
  generalize ans s = X at HPa hxb
  obtain ⟨X1, XE⟩ := X
  simp only at hxb
  unfold recV at HPr HPq ⊢
  obtain ⟨r1, r2, r3, r4, r5, r6, r7⟩ := r
  obtain ⟨q1, q2, q3, q4, q5, q6, q7⟩ := q
  simp only at HPr HPq HP HQ ⊢
  have HRP : Hid (RecAt ((w.alloc (.cells #[.int .i64 r1, .int .i64 r2, .int .i64 r3, .int .i64 r4, .bool r5, .int .i64 r6, .slice a r7.length c] 26)).alloc (.cells #[.int .i64 q1, .int .i64 q2, .int .i64 q3, .int .i64 q4, .bool q5, .int .i64 q6, .slice a' q7.length c'] 26)) w.heap.size r1 r2 r3 r4 r5 r6 (.slice a r7.length c)) := (recAt_alloc w r1 r2 r3 r4 r5 r6 (.slice a r7.length c)).below ((Below.refl _ _).alloc (Nat.le_refl _) _)
  have HRQ : Hid (RecAt ((w.alloc (.cells #[.int .i64 r1, .int .i64 r2, .int .i64 r3, .int .i64 r4, .bool r5, .int .i64 r6, .slice a r7.length c] 26)).alloc (.cells #[.int .i64 q1, .int .i64 q2, .int .i64 q3, .int .i64 q4, .bool q5, .int .i64 q6, .slice a' q7.length c'] 26)) (w.heap.size + 1) q1 q2 q3 q4 q5 q6 (.slice a' q7.length c')) := by
    have := recAt_alloc (w.alloc (.cells #[.int .i64 r1, .int .i64 r2, .int .i64 r3, .int .i64 r4, .bool r5, .int .i64 r6, .slice a r7.length c] 26)) q1 q2 q3 q4 q5 q6 (.slice a' q7.length c')
    rwa [World.size_alloc] at this
  have HB : Hid (Below w.heap.size w ((w.alloc (.cells #[.int .i64 r1, .int .i64 r2, .int .i64 r3, .int .i64 r4, .bool r5, .int .i64 r6, .slice a r7.length c] 26)).alloc (.cells #[.int .i64 q1, .int .i64 q2, .int .i64 q3, .int .i64 q4, .bool q5, .int .i64 q6, .slice a' q7.length c'] 26))) := ((Below.refl _ w).alloc (Nat.le_refl _) _).alloc (by simp) _
  go_enter Tryd.func3, Tryd.ntmps3
  go_wp2_with fail
  generalize ((w.alloc (.cells #[.int .i64 r1, .int .i64 r2, .int .i64 r3, .int .i64 r4, .bool r5, .int .i64 r6, .slice a r7.length c] 26)).alloc (.cells #[.int .i64 q1, .int .i64 q2, .int .i64 q3, .int .i64 q4, .bool q5, .int .i64 q6, .slice a' q7.length c'] 26)) = W at HRP HRQ HB ⊢
  refine (HPr.out _ (HP.out.below HB.out) (HE.out.below HB.out)).mono ?_
  rintro e w1 ⟨rfl, hb1⟩
  have HB1 : Hid (Below w.heap.size w w1) := HB.out.trans (hb1.mono HB.out.size)
  have HRP1 : Hid (RecAt w1 w.heap.size r1 r2 r3 r4 r5 r6 (.slice a r7.length c)) := HRP.out.below hb1
  have HRQ1 : Hid (RecAt w1 (w.heap.size + 1) q1 q2 q3 q4 q5 q6 (.slice a' q7.length c')) := HRQ.out.below hb1
  clear hb1 HB HRP HRQ HPr
  obtain ⟨d0, d1, d2, d3, d4, d5, d6, d7⟩ := HRQ1.out
  go_wp2_with fail
  clear d0 d1 d2 d3 d4 d5 d6 d7
  refine (HPq.out _ (HQ.out.below HB1.out) (HE.out.below HB1.out)).mono ?_
  rintro e w2 ⟨rfl, hb2⟩
  have HB2 : Hid (Below w.heap.size w w2) := HB1.out.trans (hb2.mono HB1.out.size)
  have HRP2 : Hid (RecAt w2 w.heap.size r1 r2 r3 r4 r5 r6 (.slice a r7.length c)) := HRP1.out.below hb2
  have HRQ2 : Hid (RecAt w2 (w.heap.size + 1) q1 q2 q3 q4 q5 q6 (.slice a' q7.length c')) := HRQ1.out.below hb2
  clear hb2 HB1 HRP1 HRQ1 HPq
  go_wp2_with fail
  refine (lined_any _ (HE.out.below HB2.out)).mono ?_
  rintro e w3 ⟨rfl, hb3⟩
  have HB3 : Hid (Below w.heap.size w w3) := HB2.out.trans (hb3.mono HB2.out.size)
  have HRP3 : Hid (RecAt w3 w.heap.size r1 r2 r3 r4 r5 r6 (.slice a r7.length c)) := HRP2.out.below hb3
  have HRQ3 : Hid (RecAt w3 (w.heap.size + 1) q1 q2 q3 q4 q5 q6 (.slice a' q7.length c')) := HRQ2.out.below hb3
  clear hb3 HB2 HRP2 HRQ2
  clear HRP3 HRQ3
  go_wp2_with fail
  refine (HPa.out _ (HE.out.below HB3.out)).mono ?_
  rintro e w7 ⟨⟨z, rfl, hz⟩, hb7⟩
  simp only at hz
  obtain ⟨za, zc, rfl⟩ := pins_slice hz
  obtain ⟨x1, x2, x3, x4, x5, x6, x7⟩ := X1
  unfold recV
  simp only at hz ⊢
  have hbA : Below w7.heap.size w7 (w7.alloc (.cells #[.int .i64 x1, .int .i64 x2, .int .i64 x3, .int .i64 x4, .bool x5, .int .i64 x6, .slice za x7.length zc] 26)) := (Below.refl _ _).alloc (Nat.le_refl _) _
  have HB8 : Hid (Below w.heap.size w (w7.alloc (.cells #[.int .i64 x1, .int .i64 x2, .int .i64 x3, .int .i64 x4, .bool x5, .int .i64 x6, .slice za x7.length zc] 26))) := HB3.out.trans ((hb7.trans (hbA.mono hb7.size)).mono HB3.out.size)
  clear hbA hb7 hz HB3 HPa
  go_wp2
  go_ret
  exact ⟨rfl, HB8.out⟩
set_option maxHeartbeats 4000000 in
set_option maxRecDepth 100000 in
theorem back_bbg (r q : Lk.Note) (v u : Value) (s : ByteArray) (w : World) (hE : Env w) (hP : PinsAt w v r.lock) (hQ : PinsAt w u q.lock) (hr : ¬ Lk.chkNote r = 0) (hq : ¬ Lk.chkNote q = 0) (hx : (ans s).2 = 0) :
    Calls Tryd.prog 3 #[recV r v, recV q u, .string s] w fun e w' => e = .returned (.bool true) ∧ Below w.heap.size w w' := by
  obtain ⟨a, c, rfl⟩ := pins_slice hP
  obtain ⟨a', c', rfl⟩ := pins_slice hQ
  have HPr : Hid (∀ w, PinsAt w (.slice a r.lock.length c) r.lock → Env w → Calls Tryd.prog 4 #[recV r (.slice a r.lock.length c)] w fun e w' => e = .returned (.tuple #[.string ⟨#[]⟩, .int .i64 (Lk.chkNote r)]) ∧ Below w.heap.size w w') := fun w h hE => by
    have := notePrint_any r _ w h hE
    rw [show Lk.notePrinted r = [] from if_neg hr] at this
    exact this
  have HPq : Hid (∀ w, PinsAt w (.slice a' q.lock.length c') q.lock → Env w → Calls Tryd.prog 4 #[recV q (.slice a' q.lock.length c')] w fun e w' => e = .returned (.tuple #[.string ⟨#[]⟩, .int .i64 (Lk.chkNote q)]) ∧ Below w.heap.size w w') := fun w h hE => by
    have := notePrint_any q _ w h hE
    rw [show Lk.notePrinted q = [] from if_neg hq] at this
    exact this
  have HPa : Hid (∀ w, Env w → Calls Tryd.prog 7 #[.string s] w fun e w' => parsed w' (ans s) e ∧ Below w.heap.size w w') := fun w hE => noteParse_all s w hE
  have HPx : Hid (∀ w v, PinsAt w v (ans s).1.lock → Env w → Calls Tryd.prog 4 #[recV (ans s).1 v] w fun e w' => e = .returned (.tuple #[.string s, .int .i64 0]) ∧ Below w.heap.size w w') := fun w v h hE => by
    obtain ⟨x1, x2⟩ := ans_back hx
    have := notePrint_any (ans s).1 v w h hE
    rw [show Lk.notePrinted (ans s).1 = Lk.noteText (ans s).1 from if_pos x1, x1, x2, show (⟨s.data.toList.toArray⟩ : ByteArray) = s from by simp] at this
    exact this
  have hrb : (Lk.chkNote r == 0) = false := by rw [beq_eq_false_iff_ne]; exact hr
  have hqb : (Lk.chkNote q == 0) = false := by rw [beq_eq_false_iff_ne]; exact hq
  have HP : Hid (PinsAt w (.slice a r.lock.length c) r.lock) := hP
  have HQ : Hid (PinsAt w (.slice a' q.lock.length c') q.lock) := hQ
  have HE : Hid (Env w) := hE
  have HX0 : Hid ((ans s).2 = 0) := hx
  clear hP hQ hE hr hq hx
  generalize Lk.chkNote r = CR at HPr hrb
  generalize Lk.chkNote q = CQ at HPq hqb
  generalize ans s = X at HPa HPx HX0
  obtain ⟨X1, XE⟩ := X
  simp only at HPx HX0
  have hxe : XE = 0 := HX0.out
  subst hxe
  clear HX0
  unfold recV at HPr HPq HPx ⊢
  obtain ⟨r1, r2, r3, r4, r5, r6, r7⟩ := r
  obtain ⟨q1, q2, q3, q4, q5, q6, q7⟩ := q
  simp only at HPr HPq HP HQ ⊢
  have HRP : Hid (RecAt ((w.alloc (.cells #[.int .i64 r1, .int .i64 r2, .int .i64 r3, .int .i64 r4, .bool r5, .int .i64 r6, .slice a r7.length c] 26)).alloc (.cells #[.int .i64 q1, .int .i64 q2, .int .i64 q3, .int .i64 q4, .bool q5, .int .i64 q6, .slice a' q7.length c'] 26)) w.heap.size r1 r2 r3 r4 r5 r6 (.slice a r7.length c)) := (recAt_alloc w r1 r2 r3 r4 r5 r6 (.slice a r7.length c)).below ((Below.refl _ _).alloc (Nat.le_refl _) _)
  have HRQ : Hid (RecAt ((w.alloc (.cells #[.int .i64 r1, .int .i64 r2, .int .i64 r3, .int .i64 r4, .bool r5, .int .i64 r6, .slice a r7.length c] 26)).alloc (.cells #[.int .i64 q1, .int .i64 q2, .int .i64 q3, .int .i64 q4, .bool q5, .int .i64 q6, .slice a' q7.length c'] 26)) (w.heap.size + 1) q1 q2 q3 q4 q5 q6 (.slice a' q7.length c')) := by
    have := recAt_alloc (w.alloc (.cells #[.int .i64 r1, .int .i64 r2, .int .i64 r3, .int .i64 r4, .bool r5, .int .i64 r6, .slice a r7.length c] 26)) q1 q2 q3 q4 q5 q6 (.slice a' q7.length c')
    rwa [World.size_alloc] at this
  have HB : Hid (Below w.heap.size w ((w.alloc (.cells #[.int .i64 r1, .int .i64 r2, .int .i64 r3, .int .i64 r4, .bool r5, .int .i64 r6, .slice a r7.length c] 26)).alloc (.cells #[.int .i64 q1, .int .i64 q2, .int .i64 q3, .int .i64 q4, .bool q5, .int .i64 q6, .slice a' q7.length c'] 26))) := ((Below.refl _ w).alloc (Nat.le_refl _) _).alloc (by simp) _
  go_enter Tryd.func3, Tryd.ntmps3
  go_wp2_with fail
  generalize ((w.alloc (.cells #[.int .i64 r1, .int .i64 r2, .int .i64 r3, .int .i64 r4, .bool r5, .int .i64 r6, .slice a r7.length c] 26)).alloc (.cells #[.int .i64 q1, .int .i64 q2, .int .i64 q3, .int .i64 q4, .bool q5, .int .i64 q6, .slice a' q7.length c'] 26)) = W at HRP HRQ HB ⊢
  refine (HPr.out _ (HP.out.below HB.out) (HE.out.below HB.out)).mono ?_
  rintro e w1 ⟨rfl, hb1⟩
  have HB1 : Hid (Below w.heap.size w w1) := HB.out.trans (hb1.mono HB.out.size)
  have HRP1 : Hid (RecAt w1 w.heap.size r1 r2 r3 r4 r5 r6 (.slice a r7.length c)) := HRP.out.below hb1
  have HRQ1 : Hid (RecAt w1 (w.heap.size + 1) q1 q2 q3 q4 q5 q6 (.slice a' q7.length c')) := HRQ.out.below hb1
  clear hb1 HB HRP HRQ HPr
  obtain ⟨d0, d1, d2, d3, d4, d5, d6, d7⟩ := HRQ1.out
  go_wp2_with fail
  clear d0 d1 d2 d3 d4 d5 d6 d7
  refine (HPq.out _ (HQ.out.below HB1.out) (HE.out.below HB1.out)).mono ?_
  rintro e w2 ⟨rfl, hb2⟩
  have HB2 : Hid (Below w.heap.size w w2) := HB1.out.trans (hb2.mono HB1.out.size)
  have HRP2 : Hid (RecAt w2 w.heap.size r1 r2 r3 r4 r5 r6 (.slice a r7.length c)) := HRP1.out.below hb2
  have HRQ2 : Hid (RecAt w2 (w.heap.size + 1) q1 q2 q3 q4 q5 q6 (.slice a' q7.length c')) := HRQ1.out.below hb2
  clear hb2 HB1 HRP1 HRQ1 HPq
  go_wp2_with fail
  refine (lined_any _ (HE.out.below HB2.out)).mono ?_
  rintro e w3 ⟨rfl, hb3⟩
  have HB3 : Hid (Below w.heap.size w w3) := HB2.out.trans (hb3.mono HB2.out.size)
  have HRP3 : Hid (RecAt w3 w.heap.size r1 r2 r3 r4 r5 r6 (.slice a r7.length c)) := HRP2.out.below hb3
  have HRQ3 : Hid (RecAt w3 (w.heap.size + 1) q1 q2 q3 q4 q5 q6 (.slice a' q7.length c')) := HRQ2.out.below hb3
  clear hb3 HB2 HRP2 HRQ2
  clear HRP3 HRQ3
  go_wp2_with fail
  refine (HPa.out _ (HE.out.below HB3.out)).mono ?_
  rintro e w7 ⟨⟨z, rfl, hz⟩, hb7⟩
  simp only at hz
  obtain ⟨za, zc, rfl⟩ := pins_slice hz
  obtain ⟨x1, x2, x3, x4, x5, x6, x7⟩ := X1
  unfold recV
  simp only at hz HPx ⊢
  have hbA : Below w7.heap.size w7 (w7.alloc (.cells #[.int .i64 x1, .int .i64 x2, .int .i64 x3, .int .i64 x4, .bool x5, .int .i64 x6, .slice za x7.length zc] 26)) := (Below.refl _ _).alloc (Nat.le_refl _) _
  have HB8 : Hid (Below w.heap.size w (w7.alloc (.cells #[.int .i64 x1, .int .i64 x2, .int .i64 x3, .int .i64 x4, .bool x5, .int .i64 x6, .slice za x7.length zc] 26))) := HB3.out.trans ((hb7.trans (hbA.mono hb7.size)).mono HB3.out.size)
  have HRX8 : Hid (RecAt (w7.alloc (.cells #[.int .i64 x1, .int .i64 x2, .int .i64 x3, .int .i64 x4, .bool x5, .int .i64 x6, .slice za x7.length zc] 26)) w7.heap.size x1 x2 x3 x4 x5 x6 (.slice za x7.length zc)) := recAt_alloc w7 x1 x2 x3 x4 x5 x6 _
  have HX8 : Hid (PinsAt (w7.alloc (.cells #[.int .i64 x1, .int .i64 x2, .int .i64 x3, .int .i64 x4, .bool x5, .int .i64 x6, .slice za x7.length zc] 26)) (.slice za x7.length zc) x7) := hz.below hbA
  clear hbA hb7 hz HB3 HPa
  go_upto_region 12 with fail
  generalize (w7.alloc (.cells #[.int .i64 x1, .int .i64 x2, .int .i64 x3, .int .i64 x4, .bool x5, .int .i64 x6, .slice za x7.length zc] 26)) = W8 at HB8 HRX8 HX8 ⊢
  generalize w7.heap.size = g7 at HRX8 ⊢
  obtain ⟨c0, c1, c2, c3, c4, c5, c6, c7⟩ := HRX8.out
  go_wp2_with fail
  refine (HPx.out _ _ HX8.out (HE.out.below HB8.out)).mono ?_
  rintro e w9 ⟨rfl, hb9⟩
  go_wp2
  go_ret
  exact ⟨by simp, HB8.out.trans (hb9.mono HB8.out.size)⟩
set_option maxHeartbeats 4000000 in
set_option maxRecDepth 100000 in
theorem back_bgb (r q : Lk.Note) (v u : Value) (s : ByteArray) (w : World) (hE : Env w) (hP : PinsAt w v r.lock) (hQ : PinsAt w u q.lock) (hr : ¬ Lk.chkNote r = 0) (hq : Lk.chkNote q = 0) (hx : ¬ (ans s).2 = 0) :
    Calls Tryd.prog 3 #[recV r v, recV q u, .string s] w fun e w' => e = .returned (.bool true) ∧ Below w.heap.size w w' := by
  obtain ⟨a, c, rfl⟩ := pins_slice hP
  obtain ⟨a', c', rfl⟩ := pins_slice hQ
  have HPr : Hid (∀ w, PinsAt w (.slice a r.lock.length c) r.lock → Env w → Calls Tryd.prog 4 #[recV r (.slice a r.lock.length c)] w fun e w' => e = .returned (.tuple #[.string ⟨#[]⟩, .int .i64 (Lk.chkNote r)]) ∧ Below w.heap.size w w') := fun w h hE => by
    have := notePrint_any r _ w h hE
    rw [show Lk.notePrinted r = [] from if_neg hr] at this
    exact this
  have HPq : Hid (∀ w, PinsAt w (.slice a' q.lock.length c') q.lock → Env w → Calls Tryd.prog 4 #[recV q (.slice a' q.lock.length c')] w fun e w' => e = .returned (.tuple #[.string ⟨(Lk.noteText q).toArray⟩, .int .i64 0]) ∧ Below w.heap.size w w') := fun w h hE => by
    have := notePrint_any q _ w h hE
    rw [show Lk.notePrinted q = Lk.noteText q from if_pos hq, hq] at this
    exact this
  have HPa : Hid (∀ w, Env w → Calls Tryd.prog 7 #[.string s] w fun e w' => parsed w' (ans s) e ∧ Below w.heap.size w w') := fun w hE => noteParse_all s w hE
  have hxb : ((ans s).2 != 0) = true := by rw [bne_iff_ne]; exact hx
  have hrb : (Lk.chkNote r == 0) = false := by rw [beq_eq_false_iff_ne]; exact hr
  have HP : Hid (PinsAt w (.slice a r.lock.length c) r.lock) := hP
  have HQ : Hid (PinsAt w (.slice a' q.lock.length c') q.lock) := hQ
  have HE : Hid (Env w) := hE
  clear hP hQ hE hr hq hx
  generalize Lk.chkNote r = CR at HPr hrb
  generalize (⟨(Lk.noteText q).toArray⟩ : ByteArray) = TQ at HPq
  generalize ans s = X at HPa hxb
  obtain ⟨X1, XE⟩ := X
  simp only at hxb
  unfold recV at HPr HPq ⊢
  obtain ⟨r1, r2, r3, r4, r5, r6, r7⟩ := r
  obtain ⟨q1, q2, q3, q4, q5, q6, q7⟩ := q
  simp only at HPr HPq HP HQ ⊢
  have HRP : Hid (RecAt ((w.alloc (.cells #[.int .i64 r1, .int .i64 r2, .int .i64 r3, .int .i64 r4, .bool r5, .int .i64 r6, .slice a r7.length c] 26)).alloc (.cells #[.int .i64 q1, .int .i64 q2, .int .i64 q3, .int .i64 q4, .bool q5, .int .i64 q6, .slice a' q7.length c'] 26)) w.heap.size r1 r2 r3 r4 r5 r6 (.slice a r7.length c)) := (recAt_alloc w r1 r2 r3 r4 r5 r6 (.slice a r7.length c)).below ((Below.refl _ _).alloc (Nat.le_refl _) _)
  have HRQ : Hid (RecAt ((w.alloc (.cells #[.int .i64 r1, .int .i64 r2, .int .i64 r3, .int .i64 r4, .bool r5, .int .i64 r6, .slice a r7.length c] 26)).alloc (.cells #[.int .i64 q1, .int .i64 q2, .int .i64 q3, .int .i64 q4, .bool q5, .int .i64 q6, .slice a' q7.length c'] 26)) (w.heap.size + 1) q1 q2 q3 q4 q5 q6 (.slice a' q7.length c')) := by
    have := recAt_alloc (w.alloc (.cells #[.int .i64 r1, .int .i64 r2, .int .i64 r3, .int .i64 r4, .bool r5, .int .i64 r6, .slice a r7.length c] 26)) q1 q2 q3 q4 q5 q6 (.slice a' q7.length c')
    rwa [World.size_alloc] at this
  have HB : Hid (Below w.heap.size w ((w.alloc (.cells #[.int .i64 r1, .int .i64 r2, .int .i64 r3, .int .i64 r4, .bool r5, .int .i64 r6, .slice a r7.length c] 26)).alloc (.cells #[.int .i64 q1, .int .i64 q2, .int .i64 q3, .int .i64 q4, .bool q5, .int .i64 q6, .slice a' q7.length c'] 26))) := ((Below.refl _ w).alloc (Nat.le_refl _) _).alloc (by simp) _
  go_enter Tryd.func3, Tryd.ntmps3
  go_wp2_with fail
  generalize ((w.alloc (.cells #[.int .i64 r1, .int .i64 r2, .int .i64 r3, .int .i64 r4, .bool r5, .int .i64 r6, .slice a r7.length c] 26)).alloc (.cells #[.int .i64 q1, .int .i64 q2, .int .i64 q3, .int .i64 q4, .bool q5, .int .i64 q6, .slice a' q7.length c'] 26)) = W at HRP HRQ HB ⊢
  refine (HPr.out _ (HP.out.below HB.out) (HE.out.below HB.out)).mono ?_
  rintro e w1 ⟨rfl, hb1⟩
  have HB1 : Hid (Below w.heap.size w w1) := HB.out.trans (hb1.mono HB.out.size)
  have HRP1 : Hid (RecAt w1 w.heap.size r1 r2 r3 r4 r5 r6 (.slice a r7.length c)) := HRP.out.below hb1
  have HRQ1 : Hid (RecAt w1 (w.heap.size + 1) q1 q2 q3 q4 q5 q6 (.slice a' q7.length c')) := HRQ.out.below hb1
  clear hb1 HB HRP HRQ HPr
  obtain ⟨d0, d1, d2, d3, d4, d5, d6, d7⟩ := HRQ1.out
  go_wp2_with fail
  clear d0 d1 d2 d3 d4 d5 d6 d7
  refine (HPq.out _ (HQ.out.below HB1.out) (HE.out.below HB1.out)).mono ?_
  rintro e w2 ⟨rfl, hb2⟩
  have HB2 : Hid (Below w.heap.size w w2) := HB1.out.trans (hb2.mono HB1.out.size)
  have HRP2 : Hid (RecAt w2 w.heap.size r1 r2 r3 r4 r5 r6 (.slice a r7.length c)) := HRP1.out.below hb2
  have HRQ2 : Hid (RecAt w2 (w.heap.size + 1) q1 q2 q3 q4 q5 q6 (.slice a' q7.length c')) := HRQ1.out.below hb2
  clear hb2 HB1 HRP1 HRQ1 HPq
  go_wp2_with fail
  refine (lined_any _ (HE.out.below HB2.out)).mono ?_
  rintro e w3 ⟨rfl, hb3⟩
  have HB3 : Hid (Below w.heap.size w w3) := HB2.out.trans (hb3.mono HB2.out.size)
  have HRP3 : Hid (RecAt w3 w.heap.size r1 r2 r3 r4 r5 r6 (.slice a r7.length c)) := HRP2.out.below hb3
  have HRQ3 : Hid (RecAt w3 (w.heap.size + 1) q1 q2 q3 q4 q5 q6 (.slice a' q7.length c')) := HRQ2.out.below hb3
  clear hb3 HB2 HRP2 HRQ2
  clear HRP3 HRQ3
  go_wp2_with fail
  refine (HPa.out _ (HE.out.below HB3.out)).mono ?_
  rintro e w7 ⟨⟨z, rfl, hz⟩, hb7⟩
  simp only at hz
  obtain ⟨za, zc, rfl⟩ := pins_slice hz
  obtain ⟨x1, x2, x3, x4, x5, x6, x7⟩ := X1
  unfold recV
  simp only at hz ⊢
  have hbA : Below w7.heap.size w7 (w7.alloc (.cells #[.int .i64 x1, .int .i64 x2, .int .i64 x3, .int .i64 x4, .bool x5, .int .i64 x6, .slice za x7.length zc] 26)) := (Below.refl _ _).alloc (Nat.le_refl _) _
  have HB8 : Hid (Below w.heap.size w (w7.alloc (.cells #[.int .i64 x1, .int .i64 x2, .int .i64 x3, .int .i64 x4, .bool x5, .int .i64 x6, .slice za x7.length zc] 26))) := HB3.out.trans ((hb7.trans (hbA.mono hb7.size)).mono HB3.out.size)
  clear hbA hb7 hz HB3 HPa
  go_wp2
  go_ret
  exact ⟨rfl, HB8.out⟩
set_option maxHeartbeats 4000000 in
set_option maxRecDepth 100000 in
theorem back_bgg (r q : Lk.Note) (v u : Value) (s : ByteArray) (w : World) (hE : Env w) (hP : PinsAt w v r.lock) (hQ : PinsAt w u q.lock) (hr : ¬ Lk.chkNote r = 0) (hq : Lk.chkNote q = 0) (hx : (ans s).2 = 0) :
    Calls Tryd.prog 3 #[recV r v, recV q u, .string s] w fun e w' => e = .returned (.bool true) ∧ Below w.heap.size w w' := by
  obtain ⟨a, c, rfl⟩ := pins_slice hP
  obtain ⟨a', c', rfl⟩ := pins_slice hQ
  have HPr : Hid (∀ w, PinsAt w (.slice a r.lock.length c) r.lock → Env w → Calls Tryd.prog 4 #[recV r (.slice a r.lock.length c)] w fun e w' => e = .returned (.tuple #[.string ⟨#[]⟩, .int .i64 (Lk.chkNote r)]) ∧ Below w.heap.size w w') := fun w h hE => by
    have := notePrint_any r _ w h hE
    rw [show Lk.notePrinted r = [] from if_neg hr] at this
    exact this
  have HPq : Hid (∀ w, PinsAt w (.slice a' q.lock.length c') q.lock → Env w → Calls Tryd.prog 4 #[recV q (.slice a' q.lock.length c')] w fun e w' => e = .returned (.tuple #[.string ⟨(Lk.noteText q).toArray⟩, .int .i64 0]) ∧ Below w.heap.size w w') := fun w h hE => by
    have := notePrint_any q _ w h hE
    rw [show Lk.notePrinted q = Lk.noteText q from if_pos hq, hq] at this
    exact this
  have HPa : Hid (∀ w, Env w → Calls Tryd.prog 7 #[.string s] w fun e w' => parsed w' (ans s) e ∧ Below w.heap.size w w') := fun w hE => noteParse_all s w hE
  have HPx : Hid (∀ w v, PinsAt w v (ans s).1.lock → Env w → Calls Tryd.prog 4 #[recV (ans s).1 v] w fun e w' => e = .returned (.tuple #[.string s, .int .i64 0]) ∧ Below w.heap.size w w') := fun w v h hE => by
    obtain ⟨x1, x2⟩ := ans_back hx
    have := notePrint_any (ans s).1 v w h hE
    rw [show Lk.notePrinted (ans s).1 = Lk.noteText (ans s).1 from if_pos x1, x1, x2, show (⟨s.data.toList.toArray⟩ : ByteArray) = s from by simp] at this
    exact this
  have hrb : (Lk.chkNote r == 0) = false := by rw [beq_eq_false_iff_ne]; exact hr
  have HP : Hid (PinsAt w (.slice a r.lock.length c) r.lock) := hP
  have HQ : Hid (PinsAt w (.slice a' q.lock.length c') q.lock) := hQ
  have HE : Hid (Env w) := hE
  have HX0 : Hid ((ans s).2 = 0) := hx
  clear hP hQ hE hr hq hx
  generalize Lk.chkNote r = CR at HPr hrb
  generalize (⟨(Lk.noteText q).toArray⟩ : ByteArray) = TQ at HPq
  generalize ans s = X at HPa HPx HX0
  obtain ⟨X1, XE⟩ := X
  simp only at HPx HX0
  have hxe : XE = 0 := HX0.out
  subst hxe
  clear HX0
  unfold recV at HPr HPq HPx ⊢
  obtain ⟨r1, r2, r3, r4, r5, r6, r7⟩ := r
  obtain ⟨q1, q2, q3, q4, q5, q6, q7⟩ := q
  simp only at HPr HPq HP HQ ⊢
  have HRP : Hid (RecAt ((w.alloc (.cells #[.int .i64 r1, .int .i64 r2, .int .i64 r3, .int .i64 r4, .bool r5, .int .i64 r6, .slice a r7.length c] 26)).alloc (.cells #[.int .i64 q1, .int .i64 q2, .int .i64 q3, .int .i64 q4, .bool q5, .int .i64 q6, .slice a' q7.length c'] 26)) w.heap.size r1 r2 r3 r4 r5 r6 (.slice a r7.length c)) := (recAt_alloc w r1 r2 r3 r4 r5 r6 (.slice a r7.length c)).below ((Below.refl _ _).alloc (Nat.le_refl _) _)
  have HRQ : Hid (RecAt ((w.alloc (.cells #[.int .i64 r1, .int .i64 r2, .int .i64 r3, .int .i64 r4, .bool r5, .int .i64 r6, .slice a r7.length c] 26)).alloc (.cells #[.int .i64 q1, .int .i64 q2, .int .i64 q3, .int .i64 q4, .bool q5, .int .i64 q6, .slice a' q7.length c'] 26)) (w.heap.size + 1) q1 q2 q3 q4 q5 q6 (.slice a' q7.length c')) := by
    have := recAt_alloc (w.alloc (.cells #[.int .i64 r1, .int .i64 r2, .int .i64 r3, .int .i64 r4, .bool r5, .int .i64 r6, .slice a r7.length c] 26)) q1 q2 q3 q4 q5 q6 (.slice a' q7.length c')
    rwa [World.size_alloc] at this
  have HB : Hid (Below w.heap.size w ((w.alloc (.cells #[.int .i64 r1, .int .i64 r2, .int .i64 r3, .int .i64 r4, .bool r5, .int .i64 r6, .slice a r7.length c] 26)).alloc (.cells #[.int .i64 q1, .int .i64 q2, .int .i64 q3, .int .i64 q4, .bool q5, .int .i64 q6, .slice a' q7.length c'] 26))) := ((Below.refl _ w).alloc (Nat.le_refl _) _).alloc (by simp) _
  go_enter Tryd.func3, Tryd.ntmps3
  go_wp2_with fail
  generalize ((w.alloc (.cells #[.int .i64 r1, .int .i64 r2, .int .i64 r3, .int .i64 r4, .bool r5, .int .i64 r6, .slice a r7.length c] 26)).alloc (.cells #[.int .i64 q1, .int .i64 q2, .int .i64 q3, .int .i64 q4, .bool q5, .int .i64 q6, .slice a' q7.length c'] 26)) = W at HRP HRQ HB ⊢
  refine (HPr.out _ (HP.out.below HB.out) (HE.out.below HB.out)).mono ?_
  rintro e w1 ⟨rfl, hb1⟩
  have HB1 : Hid (Below w.heap.size w w1) := HB.out.trans (hb1.mono HB.out.size)
  have HRP1 : Hid (RecAt w1 w.heap.size r1 r2 r3 r4 r5 r6 (.slice a r7.length c)) := HRP.out.below hb1
  have HRQ1 : Hid (RecAt w1 (w.heap.size + 1) q1 q2 q3 q4 q5 q6 (.slice a' q7.length c')) := HRQ.out.below hb1
  clear hb1 HB HRP HRQ HPr
  obtain ⟨d0, d1, d2, d3, d4, d5, d6, d7⟩ := HRQ1.out
  go_wp2_with fail
  clear d0 d1 d2 d3 d4 d5 d6 d7
  refine (HPq.out _ (HQ.out.below HB1.out) (HE.out.below HB1.out)).mono ?_
  rintro e w2 ⟨rfl, hb2⟩
  have HB2 : Hid (Below w.heap.size w w2) := HB1.out.trans (hb2.mono HB1.out.size)
  have HRP2 : Hid (RecAt w2 w.heap.size r1 r2 r3 r4 r5 r6 (.slice a r7.length c)) := HRP1.out.below hb2
  have HRQ2 : Hid (RecAt w2 (w.heap.size + 1) q1 q2 q3 q4 q5 q6 (.slice a' q7.length c')) := HRQ1.out.below hb2
  clear hb2 HB1 HRP1 HRQ1 HPq
  go_wp2_with fail
  refine (lined_any _ (HE.out.below HB2.out)).mono ?_
  rintro e w3 ⟨rfl, hb3⟩
  have HB3 : Hid (Below w.heap.size w w3) := HB2.out.trans (hb3.mono HB2.out.size)
  have HRP3 : Hid (RecAt w3 w.heap.size r1 r2 r3 r4 r5 r6 (.slice a r7.length c)) := HRP2.out.below hb3
  have HRQ3 : Hid (RecAt w3 (w.heap.size + 1) q1 q2 q3 q4 q5 q6 (.slice a' q7.length c')) := HRQ2.out.below hb3
  clear hb3 HB2 HRP2 HRQ2
  clear HRP3 HRQ3
  go_wp2_with fail
  refine (HPa.out _ (HE.out.below HB3.out)).mono ?_
  rintro e w7 ⟨⟨z, rfl, hz⟩, hb7⟩
  simp only at hz
  obtain ⟨za, zc, rfl⟩ := pins_slice hz
  obtain ⟨x1, x2, x3, x4, x5, x6, x7⟩ := X1
  unfold recV
  simp only at hz HPx ⊢
  have hbA : Below w7.heap.size w7 (w7.alloc (.cells #[.int .i64 x1, .int .i64 x2, .int .i64 x3, .int .i64 x4, .bool x5, .int .i64 x6, .slice za x7.length zc] 26)) := (Below.refl _ _).alloc (Nat.le_refl _) _
  have HB8 : Hid (Below w.heap.size w (w7.alloc (.cells #[.int .i64 x1, .int .i64 x2, .int .i64 x3, .int .i64 x4, .bool x5, .int .i64 x6, .slice za x7.length zc] 26))) := HB3.out.trans ((hb7.trans (hbA.mono hb7.size)).mono HB3.out.size)
  have HRX8 : Hid (RecAt (w7.alloc (.cells #[.int .i64 x1, .int .i64 x2, .int .i64 x3, .int .i64 x4, .bool x5, .int .i64 x6, .slice za x7.length zc] 26)) w7.heap.size x1 x2 x3 x4 x5 x6 (.slice za x7.length zc)) := recAt_alloc w7 x1 x2 x3 x4 x5 x6 _
  have HX8 : Hid (PinsAt (w7.alloc (.cells #[.int .i64 x1, .int .i64 x2, .int .i64 x3, .int .i64 x4, .bool x5, .int .i64 x6, .slice za x7.length zc] 26)) (.slice za x7.length zc) x7) := hz.below hbA
  clear hbA hb7 hz HB3 HPa
  go_upto_region 12 with fail
  generalize (w7.alloc (.cells #[.int .i64 x1, .int .i64 x2, .int .i64 x3, .int .i64 x4, .bool x5, .int .i64 x6, .slice za x7.length zc] 26)) = W8 at HB8 HRX8 HX8 ⊢
  generalize w7.heap.size = g7 at HRX8 ⊢
  obtain ⟨c0, c1, c2, c3, c4, c5, c6, c7⟩ := HRX8.out
  go_wp2_with fail
  refine (HPx.out _ _ HX8.out (HE.out.below HB8.out)).mono ?_
  rintro e w9 ⟨rfl, hb9⟩
  go_wp2
  go_ret
  exact ⟨by simp, HB8.out.trans (hb9.mono HB8.out.size)⟩
set_option maxHeartbeats 4000000 in
set_option maxRecDepth 100000 in
theorem back_gbb (r q : Lk.Note) (v u : Value) (s : ByteArray) (w : World) (hE : Env w) (hP : PinsAt w v r.lock) (hQ : PinsAt w u q.lock) (hr : Lk.chkNote r = 0) (hq : ¬ Lk.chkNote q = 0) (hx : ¬ (ans s).2 = 0) :
    Calls Tryd.prog 3 #[recV r v, recV q u, .string s] w fun e w' => e = .returned (.bool true) ∧ Below w.heap.size w w' := by
  obtain ⟨a, c, rfl⟩ := pins_slice hP
  obtain ⟨a', c', rfl⟩ := pins_slice hQ
  have HPr : Hid (∀ w, PinsAt w (.slice a r.lock.length c) r.lock → Env w → Calls Tryd.prog 4 #[recV r (.slice a r.lock.length c)] w fun e w' => e = .returned (.tuple #[.string ⟨(Lk.noteText r).toArray⟩, .int .i64 0]) ∧ Below w.heap.size w w') := fun w h hE => by
    have := notePrint_any r _ w h hE
    rw [show Lk.notePrinted r = Lk.noteText r from if_pos hr, hr] at this
    exact this
  have HPq : Hid (∀ w, PinsAt w (.slice a' q.lock.length c') q.lock → Env w → Calls Tryd.prog 4 #[recV q (.slice a' q.lock.length c')] w fun e w' => e = .returned (.tuple #[.string ⟨#[]⟩, .int .i64 (Lk.chkNote q)]) ∧ Below w.heap.size w w') := fun w h hE => by
    have := notePrint_any q _ w h hE
    rw [show Lk.notePrinted q = [] from if_neg hq] at this
    exact this
  have HPt : Hid (∀ w, Env w → Calls Tryd.prog 7 #[.string ⟨(Lk.noteText r).toArray⟩] w fun e w' => (∃ v, e = .returned (.tuple #[recV r v, .int .i64 0]) ∧ PinsAt w' v r.lock) ∧ Below w.heap.size w w') := fun w hE => parse_printed hr w hE
  have HSr : Hid (∀ w v1 v2, PinsAt w v1 r.lock → PinsAt w v2 r.lock → Calls Tryd.prog 6 #[recV r v1, recV r v2] w fun e w' => e = .returned (.bool true) ∧ Below w.heap.size w w') := fun w v1 v2 h h' => by
    have := same_any r r v1 v2 w h h'
    rw [Lk.sameNote_self] at this
    exact this
  have HPa : Hid (∀ w, Env w → Calls Tryd.prog 7 #[.string s] w fun e w' => parsed w' (ans s) e ∧ Below w.heap.size w w') := fun w hE => noteParse_all s w hE
  have hxb : ((ans s).2 != 0) = true := by rw [bne_iff_ne]; exact hx
  have hqb : (Lk.chkNote q == 0) = false := by rw [beq_eq_false_iff_ne]; exact hq
  have HP : Hid (PinsAt w (.slice a r.lock.length c) r.lock) := hP
  have HQ : Hid (PinsAt w (.slice a' q.lock.length c') q.lock) := hQ
  have HE : Hid (Env w) := hE
  clear hP hQ hE hr hq hx
  generalize (⟨(Lk.noteText r).toArray⟩ : ByteArray) = TR at HPr HPt
  generalize Lk.chkNote q = CQ at HPq hqb
  generalize ans s = X at HPa hxb
  obtain ⟨X1, XE⟩ := X
  simp only at hxb
  unfold recV at HPr HPq HPt HSr ⊢
  obtain ⟨r1, r2, r3, r4, r5, r6, r7⟩ := r
  obtain ⟨q1, q2, q3, q4, q5, q6, q7⟩ := q
  simp only at HPr HPq HPt HSr HP HQ ⊢
  have HRP : Hid (RecAt ((w.alloc (.cells #[.int .i64 r1, .int .i64 r2, .int .i64 r3, .int .i64 r4, .bool r5, .int .i64 r6, .slice a r7.length c] 26)).alloc (.cells #[.int .i64 q1, .int .i64 q2, .int .i64 q3, .int .i64 q4, .bool q5, .int .i64 q6, .slice a' q7.length c'] 26)) w.heap.size r1 r2 r3 r4 r5 r6 (.slice a r7.length c)) := (recAt_alloc w r1 r2 r3 r4 r5 r6 (.slice a r7.length c)).below ((Below.refl _ _).alloc (Nat.le_refl _) _)
  have HRQ : Hid (RecAt ((w.alloc (.cells #[.int .i64 r1, .int .i64 r2, .int .i64 r3, .int .i64 r4, .bool r5, .int .i64 r6, .slice a r7.length c] 26)).alloc (.cells #[.int .i64 q1, .int .i64 q2, .int .i64 q3, .int .i64 q4, .bool q5, .int .i64 q6, .slice a' q7.length c'] 26)) (w.heap.size + 1) q1 q2 q3 q4 q5 q6 (.slice a' q7.length c')) := by
    have := recAt_alloc (w.alloc (.cells #[.int .i64 r1, .int .i64 r2, .int .i64 r3, .int .i64 r4, .bool r5, .int .i64 r6, .slice a r7.length c] 26)) q1 q2 q3 q4 q5 q6 (.slice a' q7.length c')
    rwa [World.size_alloc] at this
  have HB : Hid (Below w.heap.size w ((w.alloc (.cells #[.int .i64 r1, .int .i64 r2, .int .i64 r3, .int .i64 r4, .bool r5, .int .i64 r6, .slice a r7.length c] 26)).alloc (.cells #[.int .i64 q1, .int .i64 q2, .int .i64 q3, .int .i64 q4, .bool q5, .int .i64 q6, .slice a' q7.length c'] 26))) := ((Below.refl _ w).alloc (Nat.le_refl _) _).alloc (by simp) _
  go_enter Tryd.func3, Tryd.ntmps3
  go_wp2_with fail
  generalize ((w.alloc (.cells #[.int .i64 r1, .int .i64 r2, .int .i64 r3, .int .i64 r4, .bool r5, .int .i64 r6, .slice a r7.length c] 26)).alloc (.cells #[.int .i64 q1, .int .i64 q2, .int .i64 q3, .int .i64 q4, .bool q5, .int .i64 q6, .slice a' q7.length c'] 26)) = W at HRP HRQ HB ⊢
  refine (HPr.out _ (HP.out.below HB.out) (HE.out.below HB.out)).mono ?_
  rintro e w1 ⟨rfl, hb1⟩
  have HB1 : Hid (Below w.heap.size w w1) := HB.out.trans (hb1.mono HB.out.size)
  have HRP1 : Hid (RecAt w1 w.heap.size r1 r2 r3 r4 r5 r6 (.slice a r7.length c)) := HRP.out.below hb1
  have HRQ1 : Hid (RecAt w1 (w.heap.size + 1) q1 q2 q3 q4 q5 q6 (.slice a' q7.length c')) := HRQ.out.below hb1
  clear hb1 HB HRP HRQ HPr
  obtain ⟨d0, d1, d2, d3, d4, d5, d6, d7⟩ := HRQ1.out
  go_wp2_with fail
  clear d0 d1 d2 d3 d4 d5 d6 d7
  refine (HPq.out _ (HQ.out.below HB1.out) (HE.out.below HB1.out)).mono ?_
  rintro e w2 ⟨rfl, hb2⟩
  have HB2 : Hid (Below w.heap.size w w2) := HB1.out.trans (hb2.mono HB1.out.size)
  have HRP2 : Hid (RecAt w2 w.heap.size r1 r2 r3 r4 r5 r6 (.slice a r7.length c)) := HRP1.out.below hb2
  have HRQ2 : Hid (RecAt w2 (w.heap.size + 1) q1 q2 q3 q4 q5 q6 (.slice a' q7.length c')) := HRQ1.out.below hb2
  clear hb2 HB1 HRP1 HRQ1 HPq
  go_wp2_with fail
  refine (lined_any _ (HE.out.below HB2.out)).mono ?_
  rintro e w3 ⟨rfl, hb3⟩
  have HB3 : Hid (Below w.heap.size w w3) := HB2.out.trans (hb3.mono HB2.out.size)
  have HRP3 : Hid (RecAt w3 w.heap.size r1 r2 r3 r4 r5 r6 (.slice a r7.length c)) := HRP2.out.below hb3
  have HRQ3 : Hid (RecAt w3 (w.heap.size + 1) q1 q2 q3 q4 q5 q6 (.slice a' q7.length c')) := HRQ2.out.below hb3
  clear hb3 HB2 HRP2 HRQ2
  go_wp2_with fail
  refine (HPt.out _ (HE.out.below HB3.out)).mono ?_
  rintro e w5 ⟨⟨t, rfl, ht⟩, hb5⟩
  obtain ⟨ta, tc, rfl⟩ := pins_slice ht
  have hbA : Below w5.heap.size w5 (w5.alloc (.cells #[.int .i64 r1, .int .i64 r2, .int .i64 r3, .int .i64 r4, .bool r5, .int .i64 r6, .slice ta r7.length tc] 26)) := (Below.refl _ _).alloc (Nat.le_refl _) _
  have HB5 : Hid (Below w.heap.size w (w5.alloc (.cells #[.int .i64 r1, .int .i64 r2, .int .i64 r3, .int .i64 r4, .bool r5, .int .i64 r6, .slice ta r7.length tc] 26))) := HB3.out.trans ((hb5.trans (hbA.mono hb5.size)).mono HB3.out.size)
  have HRP5 : Hid (RecAt (w5.alloc (.cells #[.int .i64 r1, .int .i64 r2, .int .i64 r3, .int .i64 r4, .bool r5, .int .i64 r6, .slice ta r7.length tc] 26)) w.heap.size r1 r2 r3 r4 r5 r6 (.slice a r7.length c)) := (HRP3.out.below hb5).below hbA
  have HRT5 : Hid (RecAt (w5.alloc (.cells #[.int .i64 r1, .int .i64 r2, .int .i64 r3, .int .i64 r4, .bool r5, .int .i64 r6, .slice ta r7.length tc] 26)) w5.heap.size r1 r2 r3 r4 r5 r6 (.slice ta r7.length tc)) := recAt_alloc w5 r1 r2 r3 r4 r5 r6 _
  have HT5 : Hid (PinsAt (w5.alloc (.cells #[.int .i64 r1, .int .i64 r2, .int .i64 r3, .int .i64 r4, .bool r5, .int .i64 r6, .slice ta r7.length tc] 26)) (.slice ta r7.length tc) r7) := ht.below hbA
  clear hbA hb5 ht HB3 HRP3 HPt
  go_upto_region 7 with fail
  generalize (w5.alloc (.cells #[.int .i64 r1, .int .i64 r2, .int .i64 r3, .int .i64 r4, .bool r5, .int .i64 r6, .slice ta r7.length tc] 26)) = W5 at HB5 HRP5 HRT5 HT5 ⊢
  generalize w5.heap.size = g5 at HRT5 ⊢
  obtain ⟨c0, c1, c2, c3, c4, c5, c6, c7⟩ := HRP5.out
  obtain ⟨d0, d1, d2, d3, d4, d5, d6, d7⟩ := HRT5.out
  go_wp2_with fail
  clear c0 c1 c2 c3 c4 c5 c6 c7 d0 d1 d2 d3 d4 d5 d6 d7
  refine (HSr.out _ _ _ HT5.out (HP.out.below HB5.out)).mono ?_
  rintro e w6 ⟨rfl, hb6⟩
  have HB6 : Hid (Below w.heap.size w w6) := HB5.out.trans (hb6.mono HB5.out.size)
  clear hb6 HB5 HRP5 HRT5 HT5 HSr
  go_wp2_with fail
  refine (HPa.out _ (HE.out.below HB6.out)).mono ?_
  rintro e w7 ⟨⟨z, rfl, hz⟩, hb7⟩
  simp only at hz
  obtain ⟨za, zc, rfl⟩ := pins_slice hz
  obtain ⟨x1, x2, x3, x4, x5, x6, x7⟩ := X1
  unfold recV
  simp only at hz ⊢
  have hbA : Below w7.heap.size w7 (w7.alloc (.cells #[.int .i64 x1, .int .i64 x2, .int .i64 x3, .int .i64 x4, .bool x5, .int .i64 x6, .slice za x7.length zc] 26)) := (Below.refl _ _).alloc (Nat.le_refl _) _
  have HB8 : Hid (Below w.heap.size w (w7.alloc (.cells #[.int .i64 x1, .int .i64 x2, .int .i64 x3, .int .i64 x4, .bool x5, .int .i64 x6, .slice za x7.length zc] 26))) := HB6.out.trans ((hb7.trans (hbA.mono hb7.size)).mono HB6.out.size)
  clear hbA hb7 hz HB6 HPa
  go_wp2
  go_ret
  exact ⟨rfl, HB8.out⟩
set_option maxHeartbeats 4000000 in
set_option maxRecDepth 100000 in
theorem back_gbg (r q : Lk.Note) (v u : Value) (s : ByteArray) (w : World) (hE : Env w) (hP : PinsAt w v r.lock) (hQ : PinsAt w u q.lock) (hr : Lk.chkNote r = 0) (hq : ¬ Lk.chkNote q = 0) (hx : (ans s).2 = 0) :
    Calls Tryd.prog 3 #[recV r v, recV q u, .string s] w fun e w' => e = .returned (.bool true) ∧ Below w.heap.size w w' := by
  obtain ⟨a, c, rfl⟩ := pins_slice hP
  obtain ⟨a', c', rfl⟩ := pins_slice hQ
  have HPr : Hid (∀ w, PinsAt w (.slice a r.lock.length c) r.lock → Env w → Calls Tryd.prog 4 #[recV r (.slice a r.lock.length c)] w fun e w' => e = .returned (.tuple #[.string ⟨(Lk.noteText r).toArray⟩, .int .i64 0]) ∧ Below w.heap.size w w') := fun w h hE => by
    have := notePrint_any r _ w h hE
    rw [show Lk.notePrinted r = Lk.noteText r from if_pos hr, hr] at this
    exact this
  have HPq : Hid (∀ w, PinsAt w (.slice a' q.lock.length c') q.lock → Env w → Calls Tryd.prog 4 #[recV q (.slice a' q.lock.length c')] w fun e w' => e = .returned (.tuple #[.string ⟨#[]⟩, .int .i64 (Lk.chkNote q)]) ∧ Below w.heap.size w w') := fun w h hE => by
    have := notePrint_any q _ w h hE
    rw [show Lk.notePrinted q = [] from if_neg hq] at this
    exact this
  have HPt : Hid (∀ w, Env w → Calls Tryd.prog 7 #[.string ⟨(Lk.noteText r).toArray⟩] w fun e w' => (∃ v, e = .returned (.tuple #[recV r v, .int .i64 0]) ∧ PinsAt w' v r.lock) ∧ Below w.heap.size w w') := fun w hE => parse_printed hr w hE
  have HSr : Hid (∀ w v1 v2, PinsAt w v1 r.lock → PinsAt w v2 r.lock → Calls Tryd.prog 6 #[recV r v1, recV r v2] w fun e w' => e = .returned (.bool true) ∧ Below w.heap.size w w') := fun w v1 v2 h h' => by
    have := same_any r r v1 v2 w h h'
    rw [Lk.sameNote_self] at this
    exact this
  have HPa : Hid (∀ w, Env w → Calls Tryd.prog 7 #[.string s] w fun e w' => parsed w' (ans s) e ∧ Below w.heap.size w w') := fun w hE => noteParse_all s w hE
  have HPx : Hid (∀ w v, PinsAt w v (ans s).1.lock → Env w → Calls Tryd.prog 4 #[recV (ans s).1 v] w fun e w' => e = .returned (.tuple #[.string s, .int .i64 0]) ∧ Below w.heap.size w w') := fun w v h hE => by
    obtain ⟨x1, x2⟩ := ans_back hx
    have := notePrint_any (ans s).1 v w h hE
    rw [show Lk.notePrinted (ans s).1 = Lk.noteText (ans s).1 from if_pos x1, x1, x2, show (⟨s.data.toList.toArray⟩ : ByteArray) = s from by simp] at this
    exact this
  have hqb : (Lk.chkNote q == 0) = false := by rw [beq_eq_false_iff_ne]; exact hq
  have HP : Hid (PinsAt w (.slice a r.lock.length c) r.lock) := hP
  have HQ : Hid (PinsAt w (.slice a' q.lock.length c') q.lock) := hQ
  have HE : Hid (Env w) := hE
  have HX0 : Hid ((ans s).2 = 0) := hx
  clear hP hQ hE hr hq hx
  generalize (⟨(Lk.noteText r).toArray⟩ : ByteArray) = TR at HPr HPt
  generalize Lk.chkNote q = CQ at HPq hqb
  generalize ans s = X at HPa HPx HX0
  obtain ⟨X1, XE⟩ := X
  simp only at HPx HX0
  have hxe : XE = 0 := HX0.out
  subst hxe
  clear HX0
  unfold recV at HPr HPq HPt HSr HPx ⊢
  obtain ⟨r1, r2, r3, r4, r5, r6, r7⟩ := r
  obtain ⟨q1, q2, q3, q4, q5, q6, q7⟩ := q
  simp only at HPr HPq HPt HSr HP HQ ⊢
  have HRP : Hid (RecAt ((w.alloc (.cells #[.int .i64 r1, .int .i64 r2, .int .i64 r3, .int .i64 r4, .bool r5, .int .i64 r6, .slice a r7.length c] 26)).alloc (.cells #[.int .i64 q1, .int .i64 q2, .int .i64 q3, .int .i64 q4, .bool q5, .int .i64 q6, .slice a' q7.length c'] 26)) w.heap.size r1 r2 r3 r4 r5 r6 (.slice a r7.length c)) := (recAt_alloc w r1 r2 r3 r4 r5 r6 (.slice a r7.length c)).below ((Below.refl _ _).alloc (Nat.le_refl _) _)
  have HRQ : Hid (RecAt ((w.alloc (.cells #[.int .i64 r1, .int .i64 r2, .int .i64 r3, .int .i64 r4, .bool r5, .int .i64 r6, .slice a r7.length c] 26)).alloc (.cells #[.int .i64 q1, .int .i64 q2, .int .i64 q3, .int .i64 q4, .bool q5, .int .i64 q6, .slice a' q7.length c'] 26)) (w.heap.size + 1) q1 q2 q3 q4 q5 q6 (.slice a' q7.length c')) := by
    have := recAt_alloc (w.alloc (.cells #[.int .i64 r1, .int .i64 r2, .int .i64 r3, .int .i64 r4, .bool r5, .int .i64 r6, .slice a r7.length c] 26)) q1 q2 q3 q4 q5 q6 (.slice a' q7.length c')
    rwa [World.size_alloc] at this
  have HB : Hid (Below w.heap.size w ((w.alloc (.cells #[.int .i64 r1, .int .i64 r2, .int .i64 r3, .int .i64 r4, .bool r5, .int .i64 r6, .slice a r7.length c] 26)).alloc (.cells #[.int .i64 q1, .int .i64 q2, .int .i64 q3, .int .i64 q4, .bool q5, .int .i64 q6, .slice a' q7.length c'] 26))) := ((Below.refl _ w).alloc (Nat.le_refl _) _).alloc (by simp) _
  go_enter Tryd.func3, Tryd.ntmps3
  go_wp2_with fail
  generalize ((w.alloc (.cells #[.int .i64 r1, .int .i64 r2, .int .i64 r3, .int .i64 r4, .bool r5, .int .i64 r6, .slice a r7.length c] 26)).alloc (.cells #[.int .i64 q1, .int .i64 q2, .int .i64 q3, .int .i64 q4, .bool q5, .int .i64 q6, .slice a' q7.length c'] 26)) = W at HRP HRQ HB ⊢
  refine (HPr.out _ (HP.out.below HB.out) (HE.out.below HB.out)).mono ?_
  rintro e w1 ⟨rfl, hb1⟩
  have HB1 : Hid (Below w.heap.size w w1) := HB.out.trans (hb1.mono HB.out.size)
  have HRP1 : Hid (RecAt w1 w.heap.size r1 r2 r3 r4 r5 r6 (.slice a r7.length c)) := HRP.out.below hb1
  have HRQ1 : Hid (RecAt w1 (w.heap.size + 1) q1 q2 q3 q4 q5 q6 (.slice a' q7.length c')) := HRQ.out.below hb1
  clear hb1 HB HRP HRQ HPr
  obtain ⟨d0, d1, d2, d3, d4, d5, d6, d7⟩ := HRQ1.out
  go_wp2_with fail
  clear d0 d1 d2 d3 d4 d5 d6 d7
  refine (HPq.out _ (HQ.out.below HB1.out) (HE.out.below HB1.out)).mono ?_
  rintro e w2 ⟨rfl, hb2⟩
  have HB2 : Hid (Below w.heap.size w w2) := HB1.out.trans (hb2.mono HB1.out.size)
  have HRP2 : Hid (RecAt w2 w.heap.size r1 r2 r3 r4 r5 r6 (.slice a r7.length c)) := HRP1.out.below hb2
  have HRQ2 : Hid (RecAt w2 (w.heap.size + 1) q1 q2 q3 q4 q5 q6 (.slice a' q7.length c')) := HRQ1.out.below hb2
  clear hb2 HB1 HRP1 HRQ1 HPq
  go_wp2_with fail
  refine (lined_any _ (HE.out.below HB2.out)).mono ?_
  rintro e w3 ⟨rfl, hb3⟩
  have HB3 : Hid (Below w.heap.size w w3) := HB2.out.trans (hb3.mono HB2.out.size)
  have HRP3 : Hid (RecAt w3 w.heap.size r1 r2 r3 r4 r5 r6 (.slice a r7.length c)) := HRP2.out.below hb3
  have HRQ3 : Hid (RecAt w3 (w.heap.size + 1) q1 q2 q3 q4 q5 q6 (.slice a' q7.length c')) := HRQ2.out.below hb3
  clear hb3 HB2 HRP2 HRQ2
  go_wp2_with fail
  refine (HPt.out _ (HE.out.below HB3.out)).mono ?_
  rintro e w5 ⟨⟨t, rfl, ht⟩, hb5⟩
  obtain ⟨ta, tc, rfl⟩ := pins_slice ht
  have hbA : Below w5.heap.size w5 (w5.alloc (.cells #[.int .i64 r1, .int .i64 r2, .int .i64 r3, .int .i64 r4, .bool r5, .int .i64 r6, .slice ta r7.length tc] 26)) := (Below.refl _ _).alloc (Nat.le_refl _) _
  have HB5 : Hid (Below w.heap.size w (w5.alloc (.cells #[.int .i64 r1, .int .i64 r2, .int .i64 r3, .int .i64 r4, .bool r5, .int .i64 r6, .slice ta r7.length tc] 26))) := HB3.out.trans ((hb5.trans (hbA.mono hb5.size)).mono HB3.out.size)
  have HRP5 : Hid (RecAt (w5.alloc (.cells #[.int .i64 r1, .int .i64 r2, .int .i64 r3, .int .i64 r4, .bool r5, .int .i64 r6, .slice ta r7.length tc] 26)) w.heap.size r1 r2 r3 r4 r5 r6 (.slice a r7.length c)) := (HRP3.out.below hb5).below hbA
  have HRT5 : Hid (RecAt (w5.alloc (.cells #[.int .i64 r1, .int .i64 r2, .int .i64 r3, .int .i64 r4, .bool r5, .int .i64 r6, .slice ta r7.length tc] 26)) w5.heap.size r1 r2 r3 r4 r5 r6 (.slice ta r7.length tc)) := recAt_alloc w5 r1 r2 r3 r4 r5 r6 _
  have HT5 : Hid (PinsAt (w5.alloc (.cells #[.int .i64 r1, .int .i64 r2, .int .i64 r3, .int .i64 r4, .bool r5, .int .i64 r6, .slice ta r7.length tc] 26)) (.slice ta r7.length tc) r7) := ht.below hbA
  clear hbA hb5 ht HB3 HRP3 HPt
  go_upto_region 7 with fail
  generalize (w5.alloc (.cells #[.int .i64 r1, .int .i64 r2, .int .i64 r3, .int .i64 r4, .bool r5, .int .i64 r6, .slice ta r7.length tc] 26)) = W5 at HB5 HRP5 HRT5 HT5 ⊢
  generalize w5.heap.size = g5 at HRT5 ⊢
  obtain ⟨c0, c1, c2, c3, c4, c5, c6, c7⟩ := HRP5.out
  obtain ⟨d0, d1, d2, d3, d4, d5, d6, d7⟩ := HRT5.out
  go_wp2_with fail
  clear c0 c1 c2 c3 c4 c5 c6 c7 d0 d1 d2 d3 d4 d5 d6 d7
  refine (HSr.out _ _ _ HT5.out (HP.out.below HB5.out)).mono ?_
  rintro e w6 ⟨rfl, hb6⟩
  have HB6 : Hid (Below w.heap.size w w6) := HB5.out.trans (hb6.mono HB5.out.size)
  clear hb6 HB5 HRP5 HRT5 HT5 HSr
  go_wp2_with fail
  refine (HPa.out _ (HE.out.below HB6.out)).mono ?_
  rintro e w7 ⟨⟨z, rfl, hz⟩, hb7⟩
  simp only at hz
  obtain ⟨za, zc, rfl⟩ := pins_slice hz
  obtain ⟨x1, x2, x3, x4, x5, x6, x7⟩ := X1
  unfold recV
  simp only at hz HPx ⊢
  have hbA : Below w7.heap.size w7 (w7.alloc (.cells #[.int .i64 x1, .int .i64 x2, .int .i64 x3, .int .i64 x4, .bool x5, .int .i64 x6, .slice za x7.length zc] 26)) := (Below.refl _ _).alloc (Nat.le_refl _) _
  have HB8 : Hid (Below w.heap.size w (w7.alloc (.cells #[.int .i64 x1, .int .i64 x2, .int .i64 x3, .int .i64 x4, .bool x5, .int .i64 x6, .slice za x7.length zc] 26))) := HB6.out.trans ((hb7.trans (hbA.mono hb7.size)).mono HB6.out.size)
  have HRX8 : Hid (RecAt (w7.alloc (.cells #[.int .i64 x1, .int .i64 x2, .int .i64 x3, .int .i64 x4, .bool x5, .int .i64 x6, .slice za x7.length zc] 26)) w7.heap.size x1 x2 x3 x4 x5 x6 (.slice za x7.length zc)) := recAt_alloc w7 x1 x2 x3 x4 x5 x6 _
  have HX8 : Hid (PinsAt (w7.alloc (.cells #[.int .i64 x1, .int .i64 x2, .int .i64 x3, .int .i64 x4, .bool x5, .int .i64 x6, .slice za x7.length zc] 26)) (.slice za x7.length zc) x7) := hz.below hbA
  clear hbA hb7 hz HB6 HPa
  go_upto_region 12 with fail
  generalize (w7.alloc (.cells #[.int .i64 x1, .int .i64 x2, .int .i64 x3, .int .i64 x4, .bool x5, .int .i64 x6, .slice za x7.length zc] 26)) = W8 at HB8 HRX8 HX8 ⊢
  generalize w7.heap.size = g7 at HRX8 ⊢
  obtain ⟨c0, c1, c2, c3, c4, c5, c6, c7⟩ := HRX8.out
  go_wp2_with fail
  refine (HPx.out _ _ HX8.out (HE.out.below HB8.out)).mono ?_
  rintro e w9 ⟨rfl, hb9⟩
  go_wp2
  go_ret
  exact ⟨by simp, HB8.out.trans (hb9.mono HB8.out.size)⟩
set_option maxHeartbeats 4000000 in
set_option maxRecDepth 100000 in
theorem back_ggb (r q : Lk.Note) (v u : Value) (s : ByteArray) (w : World) (hE : Env w) (hP : PinsAt w v r.lock) (hQ : PinsAt w u q.lock) (hr : Lk.chkNote r = 0) (hq : Lk.chkNote q = 0) (hx : ¬ (ans s).2 = 0) :
    Calls Tryd.prog 3 #[recV r v, recV q u, .string s] w fun e w' => e = .returned (.bool true) ∧ Below w.heap.size w w' := by
  obtain ⟨a, c, rfl⟩ := pins_slice hP
  obtain ⟨a', c', rfl⟩ := pins_slice hQ
  have HPr : Hid (∀ w, PinsAt w (.slice a r.lock.length c) r.lock → Env w → Calls Tryd.prog 4 #[recV r (.slice a r.lock.length c)] w fun e w' => e = .returned (.tuple #[.string ⟨(Lk.noteText r).toArray⟩, .int .i64 0]) ∧ Below w.heap.size w w') := fun w h hE => by
    have := notePrint_any r _ w h hE
    rw [show Lk.notePrinted r = Lk.noteText r from if_pos hr, hr] at this
    exact this
  have HPq : Hid (∀ w, PinsAt w (.slice a' q.lock.length c') q.lock → Env w → Calls Tryd.prog 4 #[recV q (.slice a' q.lock.length c')] w fun e w' => e = .returned (.tuple #[.string ⟨(Lk.noteText q).toArray⟩, .int .i64 0]) ∧ Below w.heap.size w w') := fun w h hE => by
    have := notePrint_any q _ w h hE
    rw [show Lk.notePrinted q = Lk.noteText q from if_pos hq, hq] at this
    exact this
  have HSm : Hid (∀ w, PinsAt w (.slice a r.lock.length c) r.lock → PinsAt w (.slice a' q.lock.length c') q.lock → Calls Tryd.prog 6 #[recV r (.slice a r.lock.length c), recV q (.slice a' q.lock.length c')] w fun e w' => e = .returned (.bool (Lk.sameNote r q)) ∧ Below w.heap.size w w') := fun w h h' => same_any r q _ _ w h h'
  have hst := same_texts hr hq
  have HPt : Hid (∀ w, Env w → Calls Tryd.prog 7 #[.string ⟨(Lk.noteText r).toArray⟩] w fun e w' => (∃ v, e = .returned (.tuple #[recV r v, .int .i64 0]) ∧ PinsAt w' v r.lock) ∧ Below w.heap.size w w') := fun w hE => parse_printed hr w hE
  have HSr : Hid (∀ w v1 v2, PinsAt w v1 r.lock → PinsAt w v2 r.lock → Calls Tryd.prog 6 #[recV r v1, recV r v2] w fun e w' => e = .returned (.bool true) ∧ Below w.heap.size w w') := fun w v1 v2 h h' => by
    have := same_any r r v1 v2 w h h'
    rw [Lk.sameNote_self] at this
    exact this
  have HPa : Hid (∀ w, Env w → Calls Tryd.prog 7 #[.string s] w fun e w' => parsed w' (ans s) e ∧ Below w.heap.size w w') := fun w hE => noteParse_all s w hE
  have hxb : ((ans s).2 != 0) = true := by rw [bne_iff_ne]; exact hx
  have HP : Hid (PinsAt w (.slice a r.lock.length c) r.lock) := hP
  have HQ : Hid (PinsAt w (.slice a' q.lock.length c') q.lock) := hQ
  have HE : Hid (Env w) := hE
  clear hP hQ hE hr hq hx
  generalize (⟨(Lk.noteText r).toArray⟩ : ByteArray) = TR at HPr HPt hst
  generalize (⟨(Lk.noteText q).toArray⟩ : ByteArray) = TQ at HPq hst
  generalize Lk.sameNote r q = SS at HSm hst
  generalize ans s = X at HPa hxb
  obtain ⟨X1, XE⟩ := X
  simp only at hxb
  unfold recV at HPr HPq HSm HPt HSr ⊢
  obtain ⟨r1, r2, r3, r4, r5, r6, r7⟩ := r
  obtain ⟨q1, q2, q3, q4, q5, q6, q7⟩ := q
  simp only at HPr HPq HSm HPt HSr HP HQ ⊢
  have HRP : Hid (RecAt ((w.alloc (.cells #[.int .i64 r1, .int .i64 r2, .int .i64 r3, .int .i64 r4, .bool r5, .int .i64 r6, .slice a r7.length c] 26)).alloc (.cells #[.int .i64 q1, .int .i64 q2, .int .i64 q3, .int .i64 q4, .bool q5, .int .i64 q6, .slice a' q7.length c'] 26)) w.heap.size r1 r2 r3 r4 r5 r6 (.slice a r7.length c)) := (recAt_alloc w r1 r2 r3 r4 r5 r6 (.slice a r7.length c)).below ((Below.refl _ _).alloc (Nat.le_refl _) _)
  have HRQ : Hid (RecAt ((w.alloc (.cells #[.int .i64 r1, .int .i64 r2, .int .i64 r3, .int .i64 r4, .bool r5, .int .i64 r6, .slice a r7.length c] 26)).alloc (.cells #[.int .i64 q1, .int .i64 q2, .int .i64 q3, .int .i64 q4, .bool q5, .int .i64 q6, .slice a' q7.length c'] 26)) (w.heap.size + 1) q1 q2 q3 q4 q5 q6 (.slice a' q7.length c')) := by
    have := recAt_alloc (w.alloc (.cells #[.int .i64 r1, .int .i64 r2, .int .i64 r3, .int .i64 r4, .bool r5, .int .i64 r6, .slice a r7.length c] 26)) q1 q2 q3 q4 q5 q6 (.slice a' q7.length c')
    rwa [World.size_alloc] at this
  have HB : Hid (Below w.heap.size w ((w.alloc (.cells #[.int .i64 r1, .int .i64 r2, .int .i64 r3, .int .i64 r4, .bool r5, .int .i64 r6, .slice a r7.length c] 26)).alloc (.cells #[.int .i64 q1, .int .i64 q2, .int .i64 q3, .int .i64 q4, .bool q5, .int .i64 q6, .slice a' q7.length c'] 26))) := ((Below.refl _ w).alloc (Nat.le_refl _) _).alloc (by simp) _
  go_enter Tryd.func3, Tryd.ntmps3
  go_wp2_with fail
  generalize ((w.alloc (.cells #[.int .i64 r1, .int .i64 r2, .int .i64 r3, .int .i64 r4, .bool r5, .int .i64 r6, .slice a r7.length c] 26)).alloc (.cells #[.int .i64 q1, .int .i64 q2, .int .i64 q3, .int .i64 q4, .bool q5, .int .i64 q6, .slice a' q7.length c'] 26)) = W at HRP HRQ HB ⊢
  refine (HPr.out _ (HP.out.below HB.out) (HE.out.below HB.out)).mono ?_
  rintro e w1 ⟨rfl, hb1⟩
  have HB1 : Hid (Below w.heap.size w w1) := HB.out.trans (hb1.mono HB.out.size)
  have HRP1 : Hid (RecAt w1 w.heap.size r1 r2 r3 r4 r5 r6 (.slice a r7.length c)) := HRP.out.below hb1
  have HRQ1 : Hid (RecAt w1 (w.heap.size + 1) q1 q2 q3 q4 q5 q6 (.slice a' q7.length c')) := HRQ.out.below hb1
  clear hb1 HB HRP HRQ HPr
  obtain ⟨d0, d1, d2, d3, d4, d5, d6, d7⟩ := HRQ1.out
  go_wp2_with fail
  clear d0 d1 d2 d3 d4 d5 d6 d7
  refine (HPq.out _ (HQ.out.below HB1.out) (HE.out.below HB1.out)).mono ?_
  rintro e w2 ⟨rfl, hb2⟩
  have HB2 : Hid (Below w.heap.size w w2) := HB1.out.trans (hb2.mono HB1.out.size)
  have HRP2 : Hid (RecAt w2 w.heap.size r1 r2 r3 r4 r5 r6 (.slice a r7.length c)) := HRP1.out.below hb2
  have HRQ2 : Hid (RecAt w2 (w.heap.size + 1) q1 q2 q3 q4 q5 q6 (.slice a' q7.length c')) := HRQ1.out.below hb2
  clear hb2 HB1 HRP1 HRQ1 HPq
  go_wp2_with fail
  refine (lined_any _ (HE.out.below HB2.out)).mono ?_
  rintro e w3 ⟨rfl, hb3⟩
  have HB3 : Hid (Below w.heap.size w w3) := HB2.out.trans (hb3.mono HB2.out.size)
  have HRP3 : Hid (RecAt w3 w.heap.size r1 r2 r3 r4 r5 r6 (.slice a r7.length c)) := HRP2.out.below hb3
  have HRQ3 : Hid (RecAt w3 (w.heap.size + 1) q1 q2 q3 q4 q5 q6 (.slice a' q7.length c')) := HRQ2.out.below hb3
  clear hb3 HB2 HRP2 HRQ2
  obtain ⟨c0, c1, c2, c3, c4, c5, c6, c7⟩ := HRP3.out
  obtain ⟨d0, d1, d2, d3, d4, d5, d6, d7⟩ := HRQ3.out
  go_wp2_with fail
  clear c0 c1 c2 c3 c4 c5 c6 c7 d0 d1 d2 d3 d4 d5 d6 d7
  refine (HSm.out _ (HP.out.below HB3.out) (HQ.out.below HB3.out)).mono ?_
  rintro e w4 ⟨rfl, hb4⟩
  have HB4 : Hid (Below w.heap.size w w4) := HB3.out.trans (hb4.mono HB3.out.size)
  have HRP4 : Hid (RecAt w4 w.heap.size r1 r2 r3 r4 r5 r6 (.slice a r7.length c)) := HRP3.out.below hb4
  clear hb4 HB3 HRP3 HRQ3 HSm
  go_wp2_with fail
  refine (HPt.out _ (HE.out.below HB4.out)).mono ?_
  rintro e w5 ⟨⟨t, rfl, ht⟩, hb5⟩
  obtain ⟨ta, tc, rfl⟩ := pins_slice ht
  have hbA : Below w5.heap.size w5 (w5.alloc (.cells #[.int .i64 r1, .int .i64 r2, .int .i64 r3, .int .i64 r4, .bool r5, .int .i64 r6, .slice ta r7.length tc] 26)) := (Below.refl _ _).alloc (Nat.le_refl _) _
  have HB5 : Hid (Below w.heap.size w (w5.alloc (.cells #[.int .i64 r1, .int .i64 r2, .int .i64 r3, .int .i64 r4, .bool r5, .int .i64 r6, .slice ta r7.length tc] 26))) := HB4.out.trans ((hb5.trans (hbA.mono hb5.size)).mono HB4.out.size)
  have HRP5 : Hid (RecAt (w5.alloc (.cells #[.int .i64 r1, .int .i64 r2, .int .i64 r3, .int .i64 r4, .bool r5, .int .i64 r6, .slice ta r7.length tc] 26)) w.heap.size r1 r2 r3 r4 r5 r6 (.slice a r7.length c)) := (HRP4.out.below hb5).below hbA
  have HRT5 : Hid (RecAt (w5.alloc (.cells #[.int .i64 r1, .int .i64 r2, .int .i64 r3, .int .i64 r4, .bool r5, .int .i64 r6, .slice ta r7.length tc] 26)) w5.heap.size r1 r2 r3 r4 r5 r6 (.slice ta r7.length tc)) := recAt_alloc w5 r1 r2 r3 r4 r5 r6 _
  have HT5 : Hid (PinsAt (w5.alloc (.cells #[.int .i64 r1, .int .i64 r2, .int .i64 r3, .int .i64 r4, .bool r5, .int .i64 r6, .slice ta r7.length tc] 26)) (.slice ta r7.length tc) r7) := ht.below hbA
  clear hbA hb5 ht HB4 HRP4 HPt
  go_upto_region 7 with fail
  generalize (w5.alloc (.cells #[.int .i64 r1, .int .i64 r2, .int .i64 r3, .int .i64 r4, .bool r5, .int .i64 r6, .slice ta r7.length tc] 26)) = W5 at HB5 HRP5 HRT5 HT5 ⊢
  generalize w5.heap.size = g5 at HRT5 ⊢
  obtain ⟨c0, c1, c2, c3, c4, c5, c6, c7⟩ := HRP5.out
  obtain ⟨d0, d1, d2, d3, d4, d5, d6, d7⟩ := HRT5.out
  go_wp2_with fail
  clear c0 c1 c2 c3 c4 c5 c6 c7 d0 d1 d2 d3 d4 d5 d6 d7
  refine (HSr.out _ _ _ HT5.out (HP.out.below HB5.out)).mono ?_
  rintro e w6 ⟨rfl, hb6⟩
  have HB6 : Hid (Below w.heap.size w w6) := HB5.out.trans (hb6.mono HB5.out.size)
  clear hb6 HB5 HRP5 HRT5 HT5 HSr
  go_wp2_with fail
  refine (HPa.out _ (HE.out.below HB6.out)).mono ?_
  rintro e w7 ⟨⟨z, rfl, hz⟩, hb7⟩
  simp only at hz
  obtain ⟨za, zc, rfl⟩ := pins_slice hz
  obtain ⟨x1, x2, x3, x4, x5, x6, x7⟩ := X1
  unfold recV
  simp only at hz ⊢
  have hbA : Below w7.heap.size w7 (w7.alloc (.cells #[.int .i64 x1, .int .i64 x2, .int .i64 x3, .int .i64 x4, .bool x5, .int .i64 x6, .slice za x7.length zc] 26)) := (Below.refl _ _).alloc (Nat.le_refl _) _
  have HB8 : Hid (Below w.heap.size w (w7.alloc (.cells #[.int .i64 x1, .int .i64 x2, .int .i64 x3, .int .i64 x4, .bool x5, .int .i64 x6, .slice za x7.length zc] 26))) := HB6.out.trans ((hb7.trans (hbA.mono hb7.size)).mono HB6.out.size)
  clear hbA hb7 hz HB6 HPa
  go_wp2
  go_ret
  exact ⟨rfl, HB8.out⟩
set_option maxHeartbeats 4000000 in
set_option maxRecDepth 100000 in
theorem back_ggg (r q : Lk.Note) (v u : Value) (s : ByteArray) (w : World) (hE : Env w) (hP : PinsAt w v r.lock) (hQ : PinsAt w u q.lock) (hr : Lk.chkNote r = 0) (hq : Lk.chkNote q = 0) (hx : (ans s).2 = 0) :
    Calls Tryd.prog 3 #[recV r v, recV q u, .string s] w fun e w' => e = .returned (.bool true) ∧ Below w.heap.size w w' := by
  obtain ⟨a, c, rfl⟩ := pins_slice hP
  obtain ⟨a', c', rfl⟩ := pins_slice hQ
  have HPr : Hid (∀ w, PinsAt w (.slice a r.lock.length c) r.lock → Env w → Calls Tryd.prog 4 #[recV r (.slice a r.lock.length c)] w fun e w' => e = .returned (.tuple #[.string ⟨(Lk.noteText r).toArray⟩, .int .i64 0]) ∧ Below w.heap.size w w') := fun w h hE => by
    have := notePrint_any r _ w h hE
    rw [show Lk.notePrinted r = Lk.noteText r from if_pos hr, hr] at this
    exact this
  have HPq : Hid (∀ w, PinsAt w (.slice a' q.lock.length c') q.lock → Env w → Calls Tryd.prog 4 #[recV q (.slice a' q.lock.length c')] w fun e w' => e = .returned (.tuple #[.string ⟨(Lk.noteText q).toArray⟩, .int .i64 0]) ∧ Below w.heap.size w w') := fun w h hE => by
    have := notePrint_any q _ w h hE
    rw [show Lk.notePrinted q = Lk.noteText q from if_pos hq, hq] at this
    exact this
  have HSm : Hid (∀ w, PinsAt w (.slice a r.lock.length c) r.lock → PinsAt w (.slice a' q.lock.length c') q.lock → Calls Tryd.prog 6 #[recV r (.slice a r.lock.length c), recV q (.slice a' q.lock.length c')] w fun e w' => e = .returned (.bool (Lk.sameNote r q)) ∧ Below w.heap.size w w') := fun w h h' => same_any r q _ _ w h h'
  have hst := same_texts hr hq
  have HPt : Hid (∀ w, Env w → Calls Tryd.prog 7 #[.string ⟨(Lk.noteText r).toArray⟩] w fun e w' => (∃ v, e = .returned (.tuple #[recV r v, .int .i64 0]) ∧ PinsAt w' v r.lock) ∧ Below w.heap.size w w') := fun w hE => parse_printed hr w hE
  have HSr : Hid (∀ w v1 v2, PinsAt w v1 r.lock → PinsAt w v2 r.lock → Calls Tryd.prog 6 #[recV r v1, recV r v2] w fun e w' => e = .returned (.bool true) ∧ Below w.heap.size w w') := fun w v1 v2 h h' => by
    have := same_any r r v1 v2 w h h'
    rw [Lk.sameNote_self] at this
    exact this
  have HPa : Hid (∀ w, Env w → Calls Tryd.prog 7 #[.string s] w fun e w' => parsed w' (ans s) e ∧ Below w.heap.size w w') := fun w hE => noteParse_all s w hE
  have HPx : Hid (∀ w v, PinsAt w v (ans s).1.lock → Env w → Calls Tryd.prog 4 #[recV (ans s).1 v] w fun e w' => e = .returned (.tuple #[.string s, .int .i64 0]) ∧ Below w.heap.size w w') := fun w v h hE => by
    obtain ⟨x1, x2⟩ := ans_back hx
    have := notePrint_any (ans s).1 v w h hE
    rw [show Lk.notePrinted (ans s).1 = Lk.noteText (ans s).1 from if_pos x1, x1, x2, show (⟨s.data.toList.toArray⟩ : ByteArray) = s from by simp] at this
    exact this
  have HP : Hid (PinsAt w (.slice a r.lock.length c) r.lock) := hP
  have HQ : Hid (PinsAt w (.slice a' q.lock.length c') q.lock) := hQ
  have HE : Hid (Env w) := hE
  have HX0 : Hid ((ans s).2 = 0) := hx
  clear hP hQ hE hr hq hx
  generalize (⟨(Lk.noteText r).toArray⟩ : ByteArray) = TR at HPr HPt hst
  generalize (⟨(Lk.noteText q).toArray⟩ : ByteArray) = TQ at HPq hst
  generalize Lk.sameNote r q = SS at HSm hst
  generalize ans s = X at HPa HPx HX0
  obtain ⟨X1, XE⟩ := X
  simp only at HPx HX0
  have hxe : XE = 0 := HX0.out
  subst hxe
  clear HX0
  unfold recV at HPr HPq HSm HPt HSr HPx ⊢
  obtain ⟨r1, r2, r3, r4, r5, r6, r7⟩ := r
  obtain ⟨q1, q2, q3, q4, q5, q6, q7⟩ := q
  simp only at HPr HPq HSm HPt HSr HP HQ ⊢
  have HRP : Hid (RecAt ((w.alloc (.cells #[.int .i64 r1, .int .i64 r2, .int .i64 r3, .int .i64 r4, .bool r5, .int .i64 r6, .slice a r7.length c] 26)).alloc (.cells #[.int .i64 q1, .int .i64 q2, .int .i64 q3, .int .i64 q4, .bool q5, .int .i64 q6, .slice a' q7.length c'] 26)) w.heap.size r1 r2 r3 r4 r5 r6 (.slice a r7.length c)) := (recAt_alloc w r1 r2 r3 r4 r5 r6 (.slice a r7.length c)).below ((Below.refl _ _).alloc (Nat.le_refl _) _)
  have HRQ : Hid (RecAt ((w.alloc (.cells #[.int .i64 r1, .int .i64 r2, .int .i64 r3, .int .i64 r4, .bool r5, .int .i64 r6, .slice a r7.length c] 26)).alloc (.cells #[.int .i64 q1, .int .i64 q2, .int .i64 q3, .int .i64 q4, .bool q5, .int .i64 q6, .slice a' q7.length c'] 26)) (w.heap.size + 1) q1 q2 q3 q4 q5 q6 (.slice a' q7.length c')) := by
    have := recAt_alloc (w.alloc (.cells #[.int .i64 r1, .int .i64 r2, .int .i64 r3, .int .i64 r4, .bool r5, .int .i64 r6, .slice a r7.length c] 26)) q1 q2 q3 q4 q5 q6 (.slice a' q7.length c')
    rwa [World.size_alloc] at this
  have HB : Hid (Below w.heap.size w ((w.alloc (.cells #[.int .i64 r1, .int .i64 r2, .int .i64 r3, .int .i64 r4, .bool r5, .int .i64 r6, .slice a r7.length c] 26)).alloc (.cells #[.int .i64 q1, .int .i64 q2, .int .i64 q3, .int .i64 q4, .bool q5, .int .i64 q6, .slice a' q7.length c'] 26))) := ((Below.refl _ w).alloc (Nat.le_refl _) _).alloc (by simp) _
  go_enter Tryd.func3, Tryd.ntmps3
  go_wp2_with fail
  generalize ((w.alloc (.cells #[.int .i64 r1, .int .i64 r2, .int .i64 r3, .int .i64 r4, .bool r5, .int .i64 r6, .slice a r7.length c] 26)).alloc (.cells #[.int .i64 q1, .int .i64 q2, .int .i64 q3, .int .i64 q4, .bool q5, .int .i64 q6, .slice a' q7.length c'] 26)) = W at HRP HRQ HB ⊢
  refine (HPr.out _ (HP.out.below HB.out) (HE.out.below HB.out)).mono ?_
  rintro e w1 ⟨rfl, hb1⟩
  have HB1 : Hid (Below w.heap.size w w1) := HB.out.trans (hb1.mono HB.out.size)
  have HRP1 : Hid (RecAt w1 w.heap.size r1 r2 r3 r4 r5 r6 (.slice a r7.length c)) := HRP.out.below hb1
  have HRQ1 : Hid (RecAt w1 (w.heap.size + 1) q1 q2 q3 q4 q5 q6 (.slice a' q7.length c')) := HRQ.out.below hb1
  clear hb1 HB HRP HRQ HPr
  obtain ⟨d0, d1, d2, d3, d4, d5, d6, d7⟩ := HRQ1.out
  go_wp2_with fail
  clear d0 d1 d2 d3 d4 d5 d6 d7
  refine (HPq.out _ (HQ.out.below HB1.out) (HE.out.below HB1.out)).mono ?_
  rintro e w2 ⟨rfl, hb2⟩
  have HB2 : Hid (Below w.heap.size w w2) := HB1.out.trans (hb2.mono HB1.out.size)
  have HRP2 : Hid (RecAt w2 w.heap.size r1 r2 r3 r4 r5 r6 (.slice a r7.length c)) := HRP1.out.below hb2
  have HRQ2 : Hid (RecAt w2 (w.heap.size + 1) q1 q2 q3 q4 q5 q6 (.slice a' q7.length c')) := HRQ1.out.below hb2
  clear hb2 HB1 HRP1 HRQ1 HPq
  go_wp2_with fail
  refine (lined_any _ (HE.out.below HB2.out)).mono ?_
  rintro e w3 ⟨rfl, hb3⟩
  have HB3 : Hid (Below w.heap.size w w3) := HB2.out.trans (hb3.mono HB2.out.size)
  have HRP3 : Hid (RecAt w3 w.heap.size r1 r2 r3 r4 r5 r6 (.slice a r7.length c)) := HRP2.out.below hb3
  have HRQ3 : Hid (RecAt w3 (w.heap.size + 1) q1 q2 q3 q4 q5 q6 (.slice a' q7.length c')) := HRQ2.out.below hb3
  clear hb3 HB2 HRP2 HRQ2
  obtain ⟨c0, c1, c2, c3, c4, c5, c6, c7⟩ := HRP3.out
  obtain ⟨d0, d1, d2, d3, d4, d5, d6, d7⟩ := HRQ3.out
  go_wp2_with fail
  clear c0 c1 c2 c3 c4 c5 c6 c7 d0 d1 d2 d3 d4 d5 d6 d7
  refine (HSm.out _ (HP.out.below HB3.out) (HQ.out.below HB3.out)).mono ?_
  rintro e w4 ⟨rfl, hb4⟩
  have HB4 : Hid (Below w.heap.size w w4) := HB3.out.trans (hb4.mono HB3.out.size)
  have HRP4 : Hid (RecAt w4 w.heap.size r1 r2 r3 r4 r5 r6 (.slice a r7.length c)) := HRP3.out.below hb4
  clear hb4 HB3 HRP3 HRQ3 HSm
  go_wp2_with fail
  refine (HPt.out _ (HE.out.below HB4.out)).mono ?_
  rintro e w5 ⟨⟨t, rfl, ht⟩, hb5⟩
  obtain ⟨ta, tc, rfl⟩ := pins_slice ht
  have hbA : Below w5.heap.size w5 (w5.alloc (.cells #[.int .i64 r1, .int .i64 r2, .int .i64 r3, .int .i64 r4, .bool r5, .int .i64 r6, .slice ta r7.length tc] 26)) := (Below.refl _ _).alloc (Nat.le_refl _) _
  have HB5 : Hid (Below w.heap.size w (w5.alloc (.cells #[.int .i64 r1, .int .i64 r2, .int .i64 r3, .int .i64 r4, .bool r5, .int .i64 r6, .slice ta r7.length tc] 26))) := HB4.out.trans ((hb5.trans (hbA.mono hb5.size)).mono HB4.out.size)
  have HRP5 : Hid (RecAt (w5.alloc (.cells #[.int .i64 r1, .int .i64 r2, .int .i64 r3, .int .i64 r4, .bool r5, .int .i64 r6, .slice ta r7.length tc] 26)) w.heap.size r1 r2 r3 r4 r5 r6 (.slice a r7.length c)) := (HRP4.out.below hb5).below hbA
  have HRT5 : Hid (RecAt (w5.alloc (.cells #[.int .i64 r1, .int .i64 r2, .int .i64 r3, .int .i64 r4, .bool r5, .int .i64 r6, .slice ta r7.length tc] 26)) w5.heap.size r1 r2 r3 r4 r5 r6 (.slice ta r7.length tc)) := recAt_alloc w5 r1 r2 r3 r4 r5 r6 _
  have HT5 : Hid (PinsAt (w5.alloc (.cells #[.int .i64 r1, .int .i64 r2, .int .i64 r3, .int .i64 r4, .bool r5, .int .i64 r6, .slice ta r7.length tc] 26)) (.slice ta r7.length tc) r7) := ht.below hbA
  clear hbA hb5 ht HB4 HRP4 HPt
  go_upto_region 7 with fail
  generalize (w5.alloc (.cells #[.int .i64 r1, .int .i64 r2, .int .i64 r3, .int .i64 r4, .bool r5, .int .i64 r6, .slice ta r7.length tc] 26)) = W5 at HB5 HRP5 HRT5 HT5 ⊢
  generalize w5.heap.size = g5 at HRT5 ⊢
  obtain ⟨c0, c1, c2, c3, c4, c5, c6, c7⟩ := HRP5.out
  obtain ⟨d0, d1, d2, d3, d4, d5, d6, d7⟩ := HRT5.out
  go_wp2_with fail
  clear c0 c1 c2 c3 c4 c5 c6 c7 d0 d1 d2 d3 d4 d5 d6 d7
  refine (HSr.out _ _ _ HT5.out (HP.out.below HB5.out)).mono ?_
  rintro e w6 ⟨rfl, hb6⟩
  have HB6 : Hid (Below w.heap.size w w6) := HB5.out.trans (hb6.mono HB5.out.size)
  clear hb6 HB5 HRP5 HRT5 HT5 HSr
  go_wp2_with fail
  refine (HPa.out _ (HE.out.below HB6.out)).mono ?_
  rintro e w7 ⟨⟨z, rfl, hz⟩, hb7⟩
  simp only at hz
  obtain ⟨za, zc, rfl⟩ := pins_slice hz
  obtain ⟨x1, x2, x3, x4, x5, x6, x7⟩ := X1
  unfold recV
  simp only at hz HPx ⊢
  have hbA : Below w7.heap.size w7 (w7.alloc (.cells #[.int .i64 x1, .int .i64 x2, .int .i64 x3, .int .i64 x4, .bool x5, .int .i64 x6, .slice za x7.length zc] 26)) := (Below.refl _ _).alloc (Nat.le_refl _) _
  have HB8 : Hid (Below w.heap.size w (w7.alloc (.cells #[.int .i64 x1, .int .i64 x2, .int .i64 x3, .int .i64 x4, .bool x5, .int .i64 x6, .slice za x7.length zc] 26))) := HB6.out.trans ((hb7.trans (hbA.mono hb7.size)).mono HB6.out.size)
  have HRX8 : Hid (RecAt (w7.alloc (.cells #[.int .i64 x1, .int .i64 x2, .int .i64 x3, .int .i64 x4, .bool x5, .int .i64 x6, .slice za x7.length zc] 26)) w7.heap.size x1 x2 x3 x4 x5 x6 (.slice za x7.length zc)) := recAt_alloc w7 x1 x2 x3 x4 x5 x6 _
  have HX8 : Hid (PinsAt (w7.alloc (.cells #[.int .i64 x1, .int .i64 x2, .int .i64 x3, .int .i64 x4, .bool x5, .int .i64 x6, .slice za x7.length zc] 26)) (.slice za x7.length zc) x7) := hz.below hbA
  clear hbA hb7 hz HB6 HPa
  go_upto_region 12 with fail
  generalize (w7.alloc (.cells #[.int .i64 x1, .int .i64 x2, .int .i64 x3, .int .i64 x4, .bool x5, .int .i64 x6, .slice za x7.length zc] 26)) = W8 at HB8 HRX8 HX8 ⊢
  generalize w7.heap.size = g7 at HRX8 ⊢
  obtain ⟨c0, c1, c2, c3, c4, c5, c6, c7⟩ := HRX8.out
  go_wp2_with fail
  refine (HPx.out _ _ HX8.out (HE.out.below HB8.out)).mono ?_
  rintro e w9 ⟨rfl, hb9⟩
  go_wp2
  go_ret
  exact ⟨by simp, HB8.out.trans (hb9.mono HB8.out.size)⟩
theorem noteBack_any (r q : Lk.Note) (v u : Value) (s : ByteArray) (w : World) (hE : Env w) (hP : PinsAt w v r.lock) (hQ : PinsAt w u q.lock) :
    Calls Tryd.prog 3 #[recV r v, recV q u, .string s] w fun e w' => e = .returned (.bool true) ∧ Below w.heap.size w w' := by
  by_cases hr : Lk.chkNote r = 0 <;> by_cases hq : Lk.chkNote q = 0 <;> by_cases hx : (ans s).2 = 0
  · exact back_ggg r q v u s w hE hP hQ hr hq hx
  · exact back_ggb r q v u s w hE hP hQ hr hq hx
  · exact back_gbg r q v u s w hE hP hQ hr hq hx
  · exact back_gbb r q v u s w hE hP hQ hr hq hx
  · exact back_bgg r q v u s w hE hP hQ hr hq hx
  · exact back_bgb r q v u s w hE hP hQ hr hq hx
  · exact back_bbg r q v u s w hE hP hQ hr hq hx
  · exact back_bbb r q v u s w hE hP hQ hr hq hx
end Go.Proofs.YtpmhajdljghfcacDoor
