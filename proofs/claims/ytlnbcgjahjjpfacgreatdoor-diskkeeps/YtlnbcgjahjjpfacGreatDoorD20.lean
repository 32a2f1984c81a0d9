/- The contract of the closed fact 'filed'. -/
import Derived.Test.YtlnbcgjahjjpfacGreatDoorD10
import Derived.Test.YtlnbcgjahjjpfacGreatDoorD11
import Derived.Test.YtlnbcgjahjjpfacGreatDoorD12
import Derived.Test.YtlnbcgjahjjpfacGreatDoorD16
namespace Go.Proofs.YtlnbcgjahjjpfacGreatDoor
open Go.RowKit
def note8 : Lk.Note := ⟨8, 0, 0, 0, false, 0, []⟩
def note9 : Lk.Note := ⟨9, 0, 0, 0, false, 0, []⟩
def line8 : List UInt8 := [56, 32, 48, 32, 48, 32, 48, 32, 48, 32, 48, 32, 61, 10]
def line9 : List UInt8 := [57, 32, 48, 32, 48, 32, 48, 32, 48, 32, 48, 32, 61, 10]
theorem note8_text : Lk.noteText note8 ++ [10] = line8 := by
  have i0 : Lib.itoa 0 = [48] := (Lib.itoa_nonneg 0).trans (Lib.decDigits_one (by decide))
  have i1 : Lib.itoa 8 = [56] := (Lib.itoa_nonneg 8).trans (Lib.decDigits_one (by decide))
  simp [Lk.noteText, Lk.Note.nums, note8, Lk.goodNum, i0, i1, Lk.text, Lib.join, List.intercalate, line8]
theorem note9_text : Lk.noteText note9 ++ [10] = line9 := by
  have i0 : Lib.itoa 0 = [48] := (Lib.itoa_nonneg 0).trans (Lib.decDigits_one (by decide))
  have i1 : Lib.itoa 9 = [57] := (Lib.itoa_nonneg 9).trans (Lib.decDigits_one (by decide))
  simp [Lk.noteText, Lk.Note.nums, note9, Lk.goodNum, i0, i1, Lk.text, Lib.join, List.intercalate, line9]
theorem len8 : (Lk.noteText note8).length = 13 := by have := congrArg List.length note8_text; simpa [line8] using this
theorem len9 : (Lk.noteText note9).length = 13 := by have := congrArg List.length note9_text; simpa [line9] using this
theorem chk8 : Lk.chkNote note8 = 0 := by decide
theorem chk9 : Lk.chkNote note9 = 0 := by decide
theorem texts8 : Lk.texts [note8] = line8 := by rw [← note8_text]; simp [Lk.texts]
theorem ok8 : Lk.allOk [note8] := fun r hr => by simp at hr; subst hr; exact chk8
theorem ok0 : Lk.allOk [] := fun r hr => by cases hr
theorem chkD0 (l : List UInt8) (h : l.length ≤ 60000) : Lk.chkDisk ⟨[], l⟩ = 0 := Lk.chk_texts (a := []) ok0 (by simp) (by simpa [Lk.texts] using h)
theorem chkD8 (l : List UInt8) (h : l.length ≤ 1000) : Lk.chkDisk ⟨line8, l⟩ = 0 := by
  rw [← texts8]; exact Lk.chk_texts ok8 (by simp) (by rw [texts8]; simp [line8]; omega)
theorem fil1 : Lk.putP ⟨[], []⟩ note8 = (⟨[], line8⟩, 0) := by
  rw [put_ok (chkD0 [] (by simp)) chk8 (by rw [len8]; simp), note8_text]; rfl
theorem fil2 : Lk.syncP ⟨[], line8⟩ = (⟨line8, []⟩, 0) := by
  rw [sync_ok (chkD0 line8 (by simp [line8])) (by exact chkD8 [] (by simp))]; rfl
theorem fil3 : Lk.putP ⟨line8, []⟩ note9 = (⟨line8, line9⟩, 0) := by
  rw [put_ok (chkD8 [] (by simp)) chk9 (by rw [len9]; simp [line8]), note9_text]; rfl
theorem fil4 : Lk.crashP ⟨line8, line9⟩ 4 = (⟨line8, [57, 32, 48, 32]⟩, 0) := by
  have := crash_ok (d := ⟨line8, line9⟩) (k := 4) (chkD8 line9 (by simp [line9])) (by simp [line9])
  exact this
theorem fil5 : Lk.recovP ⟨line8, [57, 32, 48, 32]⟩ = (⟨line8, []⟩, [note8], 0) := by
  have h8 : Lk.linesOf line8 200 = ([note8], 14, 0) := by
    have := Lk.lines_texts (a := [note8]) (most := 200) ok8 (by simp)
    rw [texts8] at this
    exact this
  have h4 : Lk.linesOf [57, 32, 48, 32] (200 - [note8].length) = ([], 0, 9) := Lk.from_torn (by simp) (by decide)
  unfold Lk.recovP Lk.recov
  simp only [h8, h4, chkD8 [57, 32, 48, 32] (by simp), if_true]
  rfl
theorem pinsN (w : World) : PinsAt w (.slice none 0 0) [] := pins_none w
set_option maxHeartbeats 8000000 in
set_option maxRecDepth 100000 in
theorem filed_any (w : World) (hE : Env w) :
    Calls Tryz.prog 10 #[] w fun e w' => e = .returned (.bool true) ∧ Below w.heap.size w w' := by
  have HE : Hid (Env w) := hE
  have H1 : Hid (∀ w, Env w → Calls Tryz.prog 5 #[.agg #[.slice none 0 0, .slice none 0 0], .agg #[.int .i64 8, .int .i64 0, .int .i64 0, .int .i64 0, .bool false, .int .i64 0, .slice none 0 0]] w fun e w' => diskN w.heap.size w' (⟨[], line8⟩, 0) e ∧ Below w.heap.size w w') := fun w hE => by
    have := put_any (.slice none 0 0) (.slice none 0 0) [] [] note8 (.slice none 0 0) w hE (bytes_none _) (bytes_none _) (pins_none _)
    rwa [fil1] at this
  have H2 : Hid (∀ w va vb, Env w → BytesAt w va [] → BytesAt w vb line8 → Calls Tryz.prog 6 #[.agg #[va, vb]] w fun e w' => diskN w.heap.size w' (⟨line8, []⟩, 0) e ∧ Below w.heap.size w w') := fun w va vb hE ha hb => by
    have := sync_any va vb [] line8 w hE ha hb
    rwa [fil2] at this
  have H3 : Hid (∀ w va vb, Env w → BytesAt w va line8 → BytesAt w vb [] → Calls Tryz.prog 5 #[.agg #[va, vb], .agg #[.int .i64 9, .int .i64 0, .int .i64 0, .int .i64 0, .bool false, .int .i64 0, .slice none 0 0]] w fun e w' => diskN w.heap.size w' (⟨line8, line9⟩, 0) e ∧ Below w.heap.size w w') := fun w va vb hE ha hb => by
    have := put_any va vb line8 [] note9 (.slice none 0 0) w hE ha hb (pins_none _)
    rwa [fil3] at this
  have H4 : Hid (∀ w va vb, Env w → BytesAt w va line8 → BytesAt w vb line9 → Calls Tryz.prog 7 #[.agg #[va, vb], .int .i64 4] w fun e w' => diskN w.heap.size w' (⟨line8, [57, 32, 48, 32]⟩, 0) e ∧ Below w.heap.size w w') := fun w va vb hE ha hb => by
    have := crash_any va vb line8 line9 4 w hE ha hb
    rwa [fil4] at this
  have H5 : Hid (∀ w va vb, Env w → BytesAt w va line8 → BytesAt w vb [57, 32, 48, 32] → Calls Tryz.prog 8 #[.agg #[va, vb]] w fun e w' => recovN w.heap.size w' (⟨line8, []⟩, [note8], 0) e ∧ Below w.heap.size w w') := fun w va vb hE ha hb => by
    have := recover_any va vb line8 [57, 32, 48, 32] w hE ha hb
    rwa [fil5] at this
  clear hE
  go_enter Tryz.func10, Tryz.ntmps10
  go_wp2_with fail
  refine (H1.out _ HE.out).mono ?_
  rintro e w1 ⟨⟨va, vb, rfl, hva, hvb⟩, hb1⟩
  simp only at hva hvb ⊢
  obtain ⟨a, c, rfl⟩ := bytes_slice hva.1
  obtain ⟨a', c', rfl⟩ := bytes_slice hvb.1
  have HB1 : Hid (Below w.heap.size w (w1.alloc (.cells #[.slice a ([] : List UInt8).length c, .slice a' line8.length c'] 24))) := hb1.alloc hb1.size _
  have HK1 := blk_alloc w1 #[.slice a ([] : List UInt8).length c, .slice a' line8.length c'] 24
  have HV1 : Hid (BytesAt (w1.alloc (.cells #[.slice a ([] : List UInt8).length c, .slice a' line8.length c'] 24)) (.slice a ([] : List UInt8).length c) []) := hva.1.below ((Below.refl _ _).alloc (Nat.le_refl _) _)
  have HU1 : Hid (BytesAt (w1.alloc (.cells #[.slice a ([] : List UInt8).length c, .slice a' line8.length c'] 24)) (.slice a' line8.length c') line8) := hvb.1.below ((Below.refl _ _).alloc (Nat.le_refl _) _)
  have hBg : w.heap.size ≤ w1.heap.size := hb1.size
  clear hva hvb hb1 H1
  generalize ([] : List UInt8).length = n0 at HB1 HK1 HV1 HU1 ⊢
  generalize line8.length = n8 at HB1 HK1 HV1 HU1 ⊢
  go_upto_region 2 with fail
  generalize w1.alloc (.cells #[.slice a n0 c, .slice a' n8 c'] 24) = W1 at HB1 HK1 HV1 HU1 ⊢
  generalize w1.heap.size = g at HK1 hBg ⊢
  have hk := HK1
  have k0 := hk.cell 0
  have k1 := hk.cell 1
  have f0 := hk.free 0
  have f1 := hk.free 1
  simp only [List.getElem?_toArray, List.getElem?_cons_zero, List.getElem?_cons_succ] at k0 k1
  clear hk
  go_wp2_with fail
  clear k0 k1 f0 f1
  refine (H2.out _ _ _ (HE.out.below HB1.out) HV1.out HU1.out).mono ?_
  rintro e w2 ⟨⟨va, vb, rfl, hva, hvb⟩, hb2⟩
  simp only at hva hvb ⊢
  obtain ⟨a2, c2, rfl⟩ := bytes_slice hva.1
  obtain ⟨b2, d2, rfl⟩ := bytes_slice hvb.1
  have hgl : g < W1.heap.size := HK1.lt
  have hk := HK1.below hb2
  have k0 := hk.cell 0
  have k1 := hk.cell 1
  have f0 := hk.free 0
  have f1 := hk.free 1
  simp only [List.getElem?_toArray, List.getElem?_cons_zero, List.getElem?_cons_succ] at k0 k1
  have HBc : Hid (Below w.heap.size w w2) := HB1.out.trans (hb2.mono HB1.out.size)
  have HK2 := Blk.put2 (u := .slice a2 (line8).length c2) (v := .slice b2 ([] : List UInt8).length d2) hk
  have HB2 : Hid (Below w.heap.size w ((w2.setCell ⟨g, 0, none⟩ (.slice a2 (line8).length c2)).setCell ⟨g, 1, none⟩ (.slice b2 ([] : List UInt8).length d2))) := (HBc.out.setCell (p := ⟨g, 0, none⟩) hBg _).setCell (p := ⟨g, 1, none⟩) hBg _
  have HV2 : Hid (BytesAt ((w2.setCell ⟨g, 0, none⟩ (.slice a2 (line8).length c2)).setCell ⟨g, 1, none⟩ (.slice b2 ([] : List UInt8).length d2)) (.slice a2 (line8).length c2) (line8)) := ((hva.set _ hgl).set _ hgl).1
  have HU2 : Hid (BytesAt ((w2.setCell ⟨g, 0, none⟩ (.slice a2 (line8).length c2)).setCell ⟨g, 1, none⟩ (.slice b2 ([] : List UInt8).length d2)) (.slice b2 ([] : List UInt8).length d2) ([] : List UInt8)) := ((hvb.set _ hgl).set _ hgl).1
  clear hva hvb hb2 H2 HB1 HV1 HU1 HBc hk
  clear HK1
  generalize (line8).length = n2a at HB2 HK2 HV2 HU2 ⊢
  generalize ([] : List UInt8).length = n2b at HB2 HK2 HV2 HU2 ⊢
  go_upto_region 3 with fail
  clear k0 k1 f0 f1
  generalize (w2.setCell ⟨g, 0, none⟩ (.slice a2 n2a c2)).setCell ⟨g, 1, none⟩ (.slice b2 n2b d2) = W2 at HB2 HK2 HV2 HU2 ⊢
  have hk := HK2
  have k0 := hk.cell 0
  have k1 := hk.cell 1
  have f0 := hk.free 0
  have f1 := hk.free 1
  simp only [List.getElem?_toArray, List.getElem?_cons_zero, List.getElem?_cons_succ] at k0 k1
  clear hk
  go_wp2_with fail
  clear k0 k1 f0 f1
  refine (H3.out _ _ _ (HE.out.below HB2.out) HV2.out HU2.out).mono ?_
  rintro e w3 ⟨⟨va, vb, rfl, hva, hvb⟩, hb3⟩
  simp only at hva hvb ⊢
  obtain ⟨a3, c3, rfl⟩ := bytes_slice hva.1
  obtain ⟨b3, d3, rfl⟩ := bytes_slice hvb.1
  have hgl : g < W2.heap.size := HK2.lt
  have hk := HK2.below hb3
  have k0 := hk.cell 0
  have k1 := hk.cell 1
  have f0 := hk.free 0
  have f1 := hk.free 1
  simp only [List.getElem?_toArray, List.getElem?_cons_zero, List.getElem?_cons_succ] at k0 k1
  have HBc : Hid (Below w.heap.size w w3) := HB2.out.trans (hb3.mono HB2.out.size)
  have HK3 := Blk.put2 (u := .slice a3 (line8).length c3) (v := .slice b3 (line9).length d3) hk
  have HB3 : Hid (Below w.heap.size w ((w3.setCell ⟨g, 0, none⟩ (.slice a3 (line8).length c3)).setCell ⟨g, 1, none⟩ (.slice b3 (line9).length d3))) := (HBc.out.setCell (p := ⟨g, 0, none⟩) hBg _).setCell (p := ⟨g, 1, none⟩) hBg _
  have HV3 : Hid (BytesAt ((w3.setCell ⟨g, 0, none⟩ (.slice a3 (line8).length c3)).setCell ⟨g, 1, none⟩ (.slice b3 (line9).length d3)) (.slice a3 (line8).length c3) (line8)) := ((hva.set _ hgl).set _ hgl).1
  have HU3 : Hid (BytesAt ((w3.setCell ⟨g, 0, none⟩ (.slice a3 (line8).length c3)).setCell ⟨g, 1, none⟩ (.slice b3 (line9).length d3)) (.slice b3 (line9).length d3) (line9)) := ((hvb.set _ hgl).set _ hgl).1
  clear hva hvb hb3 H3 HB2 HV2 HU2 HBc hk
  clear HK2
  generalize (line8).length = n3a at HB3 HK3 HV3 HU3 ⊢
  generalize (line9).length = n3b at HB3 HK3 HV3 HU3 ⊢
  go_upto_region 4 with fail
  clear k0 k1 f0 f1
  generalize (w3.setCell ⟨g, 0, none⟩ (.slice a3 n3a c3)).setCell ⟨g, 1, none⟩ (.slice b3 n3b d3) = W3 at HB3 HK3 HV3 HU3 ⊢
  have hk := HK3
  have k0 := hk.cell 0
  have k1 := hk.cell 1
  have f0 := hk.free 0
  have f1 := hk.free 1
  simp only [List.getElem?_toArray, List.getElem?_cons_zero, List.getElem?_cons_succ] at k0 k1
  clear hk
  go_wp2_with fail
  clear k0 k1 f0 f1
  refine (H4.out _ _ _ (HE.out.below HB3.out) HV3.out HU3.out).mono ?_
  rintro e w4 ⟨⟨va, vb, rfl, hva, hvb⟩, hb4⟩
  simp only at hva hvb ⊢
  obtain ⟨a4, c4, rfl⟩ := bytes_slice hva.1
  obtain ⟨b4, d4, rfl⟩ := bytes_slice hvb.1
  have hgl : g < W3.heap.size := HK3.lt
  have hk := HK3.below hb4
  have k0 := hk.cell 0
  have k1 := hk.cell 1
  have f0 := hk.free 0
  have f1 := hk.free 1
  simp only [List.getElem?_toArray, List.getElem?_cons_zero, List.getElem?_cons_succ] at k0 k1
  have HBc : Hid (Below w.heap.size w w4) := HB3.out.trans (hb4.mono HB3.out.size)
  have HK4 := Blk.put2 (u := .slice a4 (line8).length c4) (v := .slice b4 ([57, 32, 48, 32] : List UInt8).length d4) hk
  have HB4 : Hid (Below w.heap.size w ((w4.setCell ⟨g, 0, none⟩ (.slice a4 (line8).length c4)).setCell ⟨g, 1, none⟩ (.slice b4 ([57, 32, 48, 32] : List UInt8).length d4))) := (HBc.out.setCell (p := ⟨g, 0, none⟩) hBg _).setCell (p := ⟨g, 1, none⟩) hBg _
  have HV4 : Hid (BytesAt ((w4.setCell ⟨g, 0, none⟩ (.slice a4 (line8).length c4)).setCell ⟨g, 1, none⟩ (.slice b4 ([57, 32, 48, 32] : List UInt8).length d4)) (.slice a4 (line8).length c4) (line8)) := ((hva.set _ hgl).set _ hgl).1
  have HU4 : Hid (BytesAt ((w4.setCell ⟨g, 0, none⟩ (.slice a4 (line8).length c4)).setCell ⟨g, 1, none⟩ (.slice b4 ([57, 32, 48, 32] : List UInt8).length d4)) (.slice b4 ([57, 32, 48, 32] : List UInt8).length d4) ([57, 32, 48, 32] : List UInt8)) := ((hvb.set _ hgl).set _ hgl).1
  clear hva hvb hb4 H4 HB3 HV3 HU3 HBc hk
  clear HK3
  generalize (line8).length = n4a at HB4 HK4 HV4 HU4 ⊢
  generalize ([57, 32, 48, 32] : List UInt8).length = n4b at HB4 HK4 HV4 HU4 ⊢
  go_upto_region 5 with fail
  clear k0 k1 f0 f1
  generalize (w4.setCell ⟨g, 0, none⟩ (.slice a4 n4a c4)).setCell ⟨g, 1, none⟩ (.slice b4 n4b d4) = W4 at HB4 HK4 HV4 HU4 ⊢
  have hk := HK4
  have k0 := hk.cell 0
  have k1 := hk.cell 1
  simp only [List.getElem?_toArray, List.getElem?_cons_zero, List.getElem?_cons_succ] at k0 k1
  clear hk
  go_wp2_with fail
  clear k0 k1
  refine (H5.out _ _ _ (HE.out.below HB4.out) HV4.out HU4.out).mono ?_
  rintro e w5 ⟨⟨va, vb, vr, ps, rfl, hva, hvb, hO, hLk, hm⟩, hb5⟩
  simp only at hva hvb hm ⊢
  obtain ⟨a5, c5, rfl⟩ := bytes_slice hva.1
  obtain ⟨b5, d5, rfl⟩ := bytes_slice hvb.1
  have hgl : g < W4.heap.size := HK4.lt
  have hk := HK4.below hb5
  have k0 := hk.cell 0
  have k1 := hk.cell 1
  have f0 := hk.free 0
  have f1 := hk.free 1
  simp only [List.getElem?_toArray, List.getElem?_cons_zero, List.getElem?_cons_succ] at k0 k1
  have HBc : Hid (Below w.heap.size w w5) := HB4.out.trans (hb5.mono HB4.out.size)
  have HK5 := Blk.put2 (u := .slice a5 line8.length c5) (v := .slice b5 ([] : List UInt8).length d5) hk
  have HB5 : Hid (Below w.heap.size w ((w5.setCell ⟨g, 0, none⟩ (.slice a5 line8.length c5)).setCell ⟨g, 1, none⟩ (.slice b5 ([] : List UInt8).length d5))) := (HBc.out.setCell (p := ⟨g, 0, none⟩) hBg _).setCell (p := ⟨g, 1, none⟩) hBg _
  have HV5 : BytesAt ((w5.setCell ⟨g, 0, none⟩ (.slice a5 line8.length c5)).setCell ⟨g, 1, none⟩ (.slice b5 ([] : List UInt8).length d5)) (.slice a5 line8.length c5) line8 := ((hva.set _ hgl).set _ hgl).1
  have hO5 := ownsRow_setCell_below (ownsRow_setCell_below hO (a := ⟨g, 0, none⟩) hgl (.slice a5 line8.length c5)) (a := ⟨g, 1, none⟩) hgl (.slice b5 ([] : List UInt8).length d5)
  have hcv := str_of HV5
  clear hva hvb hb5 H5 HB4 HV4 HU4 HBc hk HV5 HK4 hO hLk
  have hpl : ps.length = 1 := by have := congrArg List.length hm; rw [List.length_map] at this; exact this
  obtain ⟨q, rfl⟩ : ∃ q, ps = [q] := by
    cases ps with
    | nil => simp at hpl
    | cons x r => cases r with
      | nil => exact ⟨x, rfl⟩
      | cons y t => simp at hpl
  obtain ⟨gr, cap, hvr, hx0⟩ : ∃ gr cap, vr = .slice (some ⟨gr, 0, none⟩) 1 cap ∧ ((w5.setCell ⟨g, 0, none⟩ (.slice a5 line8.length c5)).setCell ⟨g, 1, none⟩ (.slice b5 ([] : List UInt8).length d5)).cell? ⟨gr, 0, none⟩ = some (.int .i64 8) := by
    have hO' := hO5
    rcases hO5.2 with ⟨_, h0⟩ | ⟨gr, cap, cur, e1, _⟩
    · simp at h0
    · refine ⟨gr, cap, e1, ?_⟩
      subst e1
      have hq : q.1 = note8 := by simpa using hm
      rw [hO'.cellAt 0 (by simp)]
      show some (Value.int .i64 q.1.kind) = _
      rw [hq]; rfl
  subst hvr
  rw [show (⟨line8.toArray⟩ : ByteArray) = ⟨#[56, 32, 48, 32, 48, 32, 48, 32, 48, 32, 48, 32, 61, 10]⟩ from rfl] at hcv
  rw [show ([] : List UInt8).length = 0 from rfl] at HK5 HB5 hcv hx0 ⊢
  rw [show line8.length = 14 from rfl] at HK5 HB5 hcv hx0 ⊢
  clear hO5 hm hpl
  go_upto_region 6 with fail
  clear k0 k1 f0 f1
  generalize (w5.setCell ⟨g, 0, none⟩ (.slice a5 14 c5)).setCell ⟨g, 1, none⟩ (.slice b5 0 d5) = W5 at HB5 HK5 hcv hx0 ⊢
  have k0 := HK5.cell 0
  have k1 := HK5.cell 1
  simp only [List.getElem?_toArray, List.getElem?_cons_zero, List.getElem?_cons_succ] at k0 k1
  clear HK5
  go_wp2
  go_ret
  exact ⟨rfl, HB5.out⟩
end Go.Proofs.YtlnbcgjahjjpfacGreatDoor
