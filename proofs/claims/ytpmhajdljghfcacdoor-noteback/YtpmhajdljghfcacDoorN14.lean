/- The contract of the closed fact 'lined'. -/
import Derived.Test.YtpmhajdljghfcacDoorN12
import Derived.Test.YtpmhajdljghfcacDoorN8
namespace Go.Proofs.YtpmhajdljghfcacDoor
open Go.RowKit
def note0 : Lk.Note := ⟨1, 0, 7, 0, false, 2, [(3, 4)]⟩
def text0 : List UInt8 := [49, 32, 48, 32, 55, 32, 48, 32, 48, 32, 50, 32, 61, 51, 64, 52]
theorem note0_chk : Lk.chkNote note0 = 0 := by decide
theorem note0_text : Lk.noteText note0 = text0 := by
  have i0 : Lib.itoa 0 = [48] := (Lib.itoa_nonneg 0).trans (Lib.decDigits_one (by decide))
  have i1 : Lib.itoa 1 = [49] := (Lib.itoa_nonneg 1).trans (Lib.decDigits_one (by decide))
  have i2 : Lib.itoa 2 = [50] := (Lib.itoa_nonneg 2).trans (Lib.decDigits_one (by decide))
  have i7 : Lib.itoa 7 = [55] := (Lib.itoa_nonneg 7).trans (Lib.decDigits_one (by decide))
  have h3 : Lib.decDigits 3 = [51] := Lib.decDigits_one (by decide)
  have h4 : Lib.decDigits 4 = [52] := Lib.decDigits_one (by decide)
  simp [Lk.noteText, Lk.Note.nums, note0, Lk.goodNum, i0, i1, i2, i7, Lk.text, Lk.pinText, Lib.join, h3, h4, List.intercalate, text0]
theorem note0_printed : Lk.notePrinted note0 = text0 := by unfold Lk.notePrinted; rw [if_pos note0_chk, note0_text]
theorem note0_read : Lk.readNote text0 = (note0, 0) := by rw [← note0_text]; exact Lk.note_back note0_chk
theorem pins0 (w : World) : PinsAt (w.alloc (.cells #[.int .i64 3, .int .i64 4] 46)) (.slice (some ⟨w.heap.size, 0, none⟩) 1 1) [(3, 4)] := by
  refine ⟨by simp, 1, .inr ⟨w.heap.size, 0, rfl, by simp, fun j hj => ?_⟩⟩
  rcases j with _ | j
  · exact ⟨by simp [go_sem], by simp [go_sem]⟩
  · simp at hj
set_option maxHeartbeats 4000000 in
set_option maxRecDepth 100000 in
theorem lined_any (w : World) (hE : Env w) :
    Calls Tryd.prog 5 #[] w fun e w' => e = .returned (.bool true) ∧ Below w.heap.size w w' := by
  have HE : Hid (Env w) := hE
  clear hE
  have HPr : Hid (∀ w v, PinsAt w v [(3, 4)] → Env w → Calls Tryd.prog 4 #[.agg #[.int .i64 1, .int .i64 0, .int .i64 7, .int .i64 0, .bool false, .int .i64 2, v]] w fun e w' => e = .returned (.tuple #[.string ⟨#[49, 32, 48, 32, 55, 32, 48, 32, 48, 32, 50, 32, 61, 51, 64, 52]⟩, .int .i64 0]) ∧ Below w.heap.size w w') := fun w v h hE => by
    have := notePrint_any note0 v w h hE
    rw [note0_printed, note0_chk] at this
    exact this
  have HPa : Hid (∀ w, Env w → Calls Tryd.prog 7 #[.string ⟨#[49, 32, 48, 32, 55, 32, 48, 32, 48, 32, 50, 32, 61, 51, 64, 52]⟩] w fun e w' => (∃ v, e = .returned (.tuple #[.agg #[.int .i64 1, .int .i64 0, .int .i64 7, .int .i64 0, .bool false, .int .i64 2, v], .int .i64 0]) ∧ PinsAt w' v [(3, 4)]) ∧ Below w.heap.size w w') := fun w hE => by
    have := noteParse_any ⟨#[49, 32, 48, 32, 55, 32, 48, 32, 48, 32, 50, 32, 61, 51, 64, 52]⟩ (by decide) w hE
    rw [show (⟨#[49, 32, 48, 32, 55, 32, 48, 32, 48, 32, 50, 32, 61, 51, 64, 52]⟩ : ByteArray).data.toList = text0 from rfl, note0_read] at this
    exact this
  have HSm : Hid (∀ w v u, PinsAt w v [(3, 4)] → PinsAt w u [(3, 4)] → Calls Tryd.prog 6 #[.agg #[.int .i64 1, .int .i64 0, .int .i64 7, .int .i64 0, .bool false, .int .i64 2, v], .agg #[.int .i64 1, .int .i64 0, .int .i64 7, .int .i64 0, .bool false, .int .i64 2, u]] w fun e w' => e = .returned (.bool true) ∧ Below w.heap.size w w') := fun w v u h h' => by
    have := same_any note0 note0 v u w h h'
    rw [Lk.sameNote_self] at this
    exact this
  have HRl : Hid (∀ w v, PinsAt w v [(3, 4)] → Calls Tryd.prog 14 #[.agg #[.int .i64 2, v]] w fun e w' => e = .returned (.int .i64 0) ∧ Below w.heap.size w w') := fun w v h => release_any 2 v [(3, 4)] w h
  have HAl : Hid (∀ w v u, PinsAt w v [(3, 4)] → PinsAt w u [(3, 4)] → Calls Tryd.prog 15 #[.agg #[.int .i64 2, v], .agg #[.int .i64 2, u]] w fun e w' => e = .returned (.bool true) ∧ Below w.heap.size w w') := fun w v u h h' => alike_any 2 2 v u [(3, 4)] [(3, 4)] w h h'
  have HP0 : Hid (PinsAt ((w.alloc (.cells #[.int .i64 3, .int .i64 4] 46)).alloc (.cells #[.int .i64 1, .int .i64 0, .int .i64 7, .int .i64 0, .bool false, .int .i64 2, .slice (some ⟨w.heap.size, 0, none⟩) 1 1] 26)) (.slice (some ⟨w.heap.size, 0, none⟩) 1 1) [(3, 4)]) := (pins0 w).below ((Below.refl _ _).alloc (Nat.le_refl _) _)
  have HB0 : Hid (Below w.heap.size w ((w.alloc (.cells #[.int .i64 3, .int .i64 4] 46)).alloc (.cells #[.int .i64 1, .int .i64 0, .int .i64 7, .int .i64 0, .bool false, .int .i64 2, .slice (some ⟨w.heap.size, 0, none⟩) 1 1] 26))) := ((Below.refl _ w).alloc (Nat.le_refl _) _).alloc (by simp) _
  have HR0 : Hid (RecAt ((w.alloc (.cells #[.int .i64 3, .int .i64 4] 46)).alloc (.cells #[.int .i64 1, .int .i64 0, .int .i64 7, .int .i64 0, .bool false, .int .i64 2, .slice (some ⟨w.heap.size, 0, none⟩) 1 1] 26)) (w.heap.size + 1) 1 0 7 0 false 2 (.slice (some ⟨w.heap.size, 0, none⟩) 1 1)) := by
    have := recAt_alloc (w.alloc (.cells #[.int .i64 3, .int .i64 4] 46)) 1 0 7 0 false 2 (.slice (some ⟨w.heap.size, 0, none⟩) 1 1)
    rwa [World.size_alloc] at this
  go_enter Tryd.func5, Tryd.ntmps5
  go_wp2_with fail
  generalize (w.alloc (.cells #[.int .i64 3, .int .i64 4] 46)).alloc (.cells #[.int .i64 1, .int .i64 0, .int .i64 7, .int .i64 0, .bool false, .int .i64 2, .slice (some ⟨w.heap.size, 0, none⟩) 1 1] 26) = W at HP0 HB0 HR0 ⊢
  generalize (.slice (some ⟨w.heap.size, 0, none⟩) 1 1 : Value) = v0 at HP0 HR0 ⊢
  refine (HPr.out _ _ HP0.out (HE.out.below HB0.out)).mono ?_
  rintro e w1 ⟨rfl, hb1⟩
  have HP1 : Hid (PinsAt w1 v0 [(3, 4)]) := HP0.out.below hb1
  have HB1 : Hid (Below w.heap.size w w1) := HB0.out.trans (hb1.mono HB0.out.size)
  have HR1 : Hid (RecAt w1 (w.heap.size + 1) 1 0 7 0 false 2 v0) := HR0.out.below hb1
  clear hb1 HP0 HB0 HR0 HPr
  go_wp2_with fail
  refine (HPa.out _ (HE.out.below HB1.out)).mono ?_
  rintro e w2 ⟨⟨u, rfl, hu⟩, hb2⟩
  obtain ⟨a, c, rfl⟩ := pins_slice hu
  have hbA : Below w2.heap.size w2 (w2.alloc (.cells #[.int .i64 1, .int .i64 0, .int .i64 7, .int .i64 0, .bool false, .int .i64 2, .slice a 1 c] 26)) := (Below.refl _ _).alloc (Nat.le_refl _) _
  have HB2 : Hid (Below w.heap.size w (w2.alloc (.cells #[.int .i64 1, .int .i64 0, .int .i64 7, .int .i64 0, .bool false, .int .i64 2, .slice a 1 c] 26))) := HB1.out.trans ((hb2.trans (hbA.mono hb2.size)).mono HB1.out.size)
  have HP2 : Hid (PinsAt (w2.alloc (.cells #[.int .i64 1, .int .i64 0, .int .i64 7, .int .i64 0, .bool false, .int .i64 2, .slice a 1 c] 26)) v0 [(3, 4)]) := (HP1.out.below hb2).below hbA
  have HQ2 : Hid (PinsAt (w2.alloc (.cells #[.int .i64 1, .int .i64 0, .int .i64 7, .int .i64 0, .bool false, .int .i64 2, .slice a 1 c] 26)) (.slice a 1 c) [(3, 4)]) := hu.below hbA
  have HR2 : Hid (RecAt (w2.alloc (.cells #[.int .i64 1, .int .i64 0, .int .i64 7, .int .i64 0, .bool false, .int .i64 2, .slice a 1 c] 26)) (w.heap.size + 1) 1 0 7 0 false 2 v0) := (HR1.out.below hb2).below hbA
  have HT2 : Hid (RecAt (w2.alloc (.cells #[.int .i64 1, .int .i64 0, .int .i64 7, .int .i64 0, .bool false, .int .i64 2, .slice a 1 c] 26)) w2.heap.size 1 0 7 0 false 2 (.slice a 1 c)) := recAt_alloc w2 1 0 7 0 false 2 _
  clear hbA hb2 hu HP1 HB1 HR1 HPa
  go_upto_region 4 with fail
  generalize w2.alloc (.cells #[.int .i64 1, .int .i64 0, .int .i64 7, .int .i64 0, .bool false, .int .i64 2, .slice a 1 c] 26) = W at HB2 HP2 HQ2 HR2 HT2 ⊢
  generalize w2.heap.size = g2 at HT2 ⊢
  obtain ⟨c0, c1, c2, c3, c4, c5, c6, c7⟩ := HR2.out
  obtain ⟨d0, d1, d2, d3, d4, d5, d6, d7⟩ := HT2.out
  go_wp2_with fail
  refine (HSm.out _ _ _ HP2.out HQ2.out).mono ?_
  rintro e w3 ⟨rfl, hb3⟩
  clear c0 c1 c2 c3 c4 c5 c6 c7 d0 d1 d2 d3 d4 d5 d6 d7
  obtain ⟨c0, c1, c2, c3, c4, c5, c6, c7⟩ := HR2.out.below hb3
  go_wp2_with fail
  refine (HRl.out _ _ (HP2.out.below hb3)).mono ?_
  rintro e w4 ⟨rfl, hb4⟩
  clear c0 c1 c2 c3 c4 c5 c6 c7
  obtain ⟨c0, c1, c2, c3, c4, c5, c6, c7⟩ := (HR2.out.below hb3).below hb4
  obtain ⟨d0, d1, d2, d3, d4, d5, d6, d7⟩ := (HT2.out.below hb3).below hb4
  go_wp2_with fail
  refine (HAl.out _ _ _ ((HP2.out.below hb3).below hb4) ((HQ2.out.below hb3).below hb4)).mono ?_
  rintro e w5 ⟨rfl, hb5⟩
  go_wp2
  go_ret
  exact ⟨rfl, HB2.out.trans (((hb3.trans (hb4.mono hb3.size)).trans (hb5.mono (Nat.le_trans hb3.size hb4.size))).mono HB2.out.size)⟩
end Go.Proofs.YtpmhajdljghfcacDoor
