/- The law's onDisk: records that were synced one by one are there, all of them, or there is no room. -/
import Derived.Test.YtpenkhehceglfaaGreatDoorME
import Derived.Test.YtpenkhehceglfaaGreatDoorMF
import Derived.Test.YtpenkhehceglfaaGreatDoorMA
import Derived.Test.YtpenkhehceglfaaGreatDoorMH
namespace Go.Proofs.YtpenkhehceglfaaGreatDoor
open Go.RowKit
theorem put_one {A : List Lk.Note} {r : Lk.Note} (hA : Lk.allOk A) (hm : A.length ≤ 200) (hs : (Lk.texts A).length ≤ 60000) (hr : Lk.chkNote r = 0) :
    (Lk.putP ⟨Lk.texts A, []⟩ r = (Lk.Disk.none, 2)) ∨ (Lk.putP ⟨Lk.texts A, []⟩ r = (⟨Lk.texts A, Lk.texts [r]⟩, 0) ∧ (Lk.texts (A ++ [r])).length ≤ 60000) := by
  have hc : Lk.chkDisk ⟨Lk.texts A, []⟩ = 0 := Lk.chk_texts hA hm (by simpa using hs)
  unfold Lk.putP
  rw [if_pos hc]
  by_cases h : (Lk.putOn ⟨Lk.texts A, Lk.texts []⟩ r).2 = 0
  · right
    obtain ⟨_, h2, h3⟩ := Lk.put_texts h
    exact ⟨h2, by rw [Lk.texts_app, List.length_append]; exact h3⟩
  · left
    have h' : ¬ (Lk.putOn ⟨Lk.texts A, []⟩ r).2 = 0 := h
    unfold Lk.putOn at h' ⊢
    rw [if_pos hr] at h' ⊢
    split
    · rfl
    · rename_i hn
      rw [if_neg hn] at h'
      exact absurd rfl h'
theorem sync_one {A : List Lk.Note} {r : Lk.Note} (hA : Lk.allOk A) (hr : Lk.chkNote r = 0) (hm : A.length + 1 ≤ 200) (hs : (Lk.texts (A ++ [r])).length ≤ 60000) :
    Lk.syncP ⟨Lk.texts A, Lk.texts [r]⟩ = (⟨Lk.texts (A ++ [r]), []⟩, 0) := by
  have hok : Lk.allOk (A ++ [r]) := Lk.allOk_app hA (fun x hx => by simp at hx; rw [hx]; exact hr)
  have e := Lk.texts_app A [r]
  have hc : Lk.chkDisk ⟨Lk.texts A, Lk.texts [r]⟩ = 0 := Lk.chk_texts hA (by omega) (by rw [e, List.length_append] at hs; exact hs)
  have hc2 : Lk.chkDisk ⟨Lk.texts (A ++ [r]), []⟩ = 0 := Lk.chk_texts hok (by simpa using hm) (by simpa using hs)
  unfold Lk.syncP Lk.synced
  rw [if_pos hc]
  simp only [← e, hc2, if_true]
theorem recov_one {A : List Lk.Note} (hA : Lk.allOk A) (hm : A.length ≤ 200) (hs : (Lk.texts A).length ≤ 60000) :
    Lk.recovP ⟨Lk.texts A, []⟩ = (⟨Lk.texts A, []⟩, A, 0) := by
  obtain ⟨j, h1, h2, _⟩ := Lk.recov_all (a := A) (b := []) hA (fun r hr => by cases hr) (by simpa using hm) (by simpa [Lk.texts] using hs) 0
  simpa [Lk.texts] using h2
set_option maxHeartbeats 16000000 in
set_option maxRecDepth 100000 in
theorem onDisk_any (v : Value) (ps : List (Lk.Note × Value)) (w : World) (hE : Env w) (hR : RecsAt w v ps) (hok : Lk.allOk (ps.map Prod.fst)) (hl : ps.length ≤ 200) :
    Calls Tryz.prog 9 #[v] w fun e w' => (∃ y ok, e = .returned (.tuple #[y, .bool ok]) ∧ (ok = true → ∃ qs, RecsAt w' y qs ∧ qs.map Prod.fst = ps.map Prod.fst)) ∧ Below w.heap.size w w' := by
  obtain ⟨pa, pc, rfl⟩ := recs_slice hR
  have HE : Hid (Env w) := hE
  have HRs : Hid (∀ w', Below w.heap.size w w' → RecsAt w' (.slice pa ps.length pc) ps) := fun w' hb => hR.below hb
  have HOk : Hid (Lk.allOk (ps.map Prod.fst)) := hok
  clear hE hR hok
  generalize hm : ps.length = m at HRs hl ⊢
  have HM : Hid (ps.length = m) := hm
  clear hm
  have hm200 : (m : Int) ≤ 200 := by omega
  have HB0 : Hid (Below w.heap.size w (w.alloc (.cells #[.slice none 0 0, .slice none 0 0] 73))) := (Below.refl _ w).alloc (Nat.le_refl _) _
  have HK0 : Hid (Blk (w.alloc (.cells #[.slice none 0 0, .slice none 0 0] 73)) w.heap.size #[.slice none 0 0, .slice none 0 0] 73) := blk_alloc w _ _
  go_enter Tryz.func9, Tryz.ntmps9
  go_upto_region 2 with fail
  generalize (w.alloc (.cells #[.slice none 0 0, .slice none 0 0] 73)) = w0 at HB0 HK0 ⊢
  go_wp2
  go_loopg [14] m (fun gh s14 wr => ∃ (k : Nat) (da : Option Addr) (dn dc : Nat) (da' : Option Addr) (dc' : Nat), k ≤ m ∧ m - k ≤ gh ∧ s14 = .int .i64 k ∧ Hid (Blk wr w.heap.size #[.slice da dn dc, .slice da' 0 dc'] 73 ∧ BytesAt wr (.slice da dn dc) (Lk.texts ((ps.map Prod.fst).take k)) ∧ BytesAt wr (.slice da' 0 dc') [] ∧ (Lk.texts ((ps.map Prod.fst).take k)).length ≤ 60000 ∧ Below w.heap.size w wr))
  case atStart => exact ⟨0, none, 0, 0, none, 0, Nat.zero_le _, by omega, rfl, ⟨HK0.out, by simpa [Lk.texts] using bytes_none _, bytes_none _, by simp [Lk.texts], HB0.out⟩⟩
  case round =>
    clear HB0 HK0
    obtain ⟨k, da, dn, dc, da', dc', hk, hg, rfl, HI⟩ := hrel
    by_cases hlt : k < m
    rotate_left
    · have hk' : k = m := by omega
      have hlt1 : ¬ (k : Int) < (m : Int) := by omega
      have hlt2 : decide ((k : Int) < (m : Int)) = false := decide_eq_false hlt1
      have hlt3 : (m : Int) ≤ (k : Int) := by omega
      have hT : (ps.map Prod.fst).take k = ps.map Prod.fst := List.take_of_length_le (by have := HM.out; simp; omega)
      have hI2 := HI.out.2.1
      have hI4 := HI.out.2.2.2.1
      rw [hT] at hI2 hI4
      have HRc : Hid (Calls Tryz.prog 28 #[.agg #[.slice da dn dc, .slice da' 0 dc']] wr fun e w'' => recovN wr.heap.size w'' (⟨Lk.texts (ps.map Prod.fst), []⟩, ps.map Prod.fst, 0) e ∧ Below wr.heap.size wr w'') := by
        have := recover_any _ _ _ _ wr (HE.out.below HI.out.2.2.2.2) hI2 HI.out.2.2.1
        rw [recov_one HOk.out (by have := HM.out; simp; omega) hI4] at this
        exact this
      have hK := HI.out.1
      have k0 := hK.cell 0
      have k1 := hK.cell 1
      simp only [List.getElem?_toArray, List.getElem?_cons_zero, List.getElem?_cons_succ] at k0 k1
      clear hK hI2 hI4 hT hlt hlt1 hk' HRs
      go_wp2_with fail
      refine HRc.out.mono ?_
      rintro e w1 ⟨⟨va, vb, y, qs, rfl, ha, hb, ho, hlk, hmp⟩, hb1⟩
      obtain ⟨ea, ec, rfl⟩ := bytes_slice ha.1
      obtain ⟨ea', ec', rfl⟩ := bytes_slice hb.1
      have hq : qs.length ≤ 200 := by
        have := congrArg List.length hmp
        simp only [List.length_map] at this
        have h2 := HM.out
        omega
      have HRq : Hid (∀ O, RecsAt (w1.alloc O) y qs) := fun O => (recs_owns rfl (by omega) ho (fun x hx => (hlk x hx).1)).below ((Below.refl _ _).alloc (Nat.le_refl _) _)
      have HMp : Hid (qs.map Prod.fst = ps.map Prod.fst) := hmp
      have HB1 : Hid (∀ O, Below w.heap.size w (w1.alloc O)) := fun O => (HI.out.2.2.2.2.trans (hb1.mono HI.out.2.2.2.2.size)).alloc (HI.out.2.2.2.2.trans (hb1.mono HI.out.2.2.2.2.size)).size _
      clear ha hb ho hlk hmp hb1 hq HI HRc k0 k1
      go_wp2
      go_ret2
      exact ⟨⟨_, _, rfl, fun _ => ⟨qs, HRq.out _, HMp.out⟩⟩, HB1.out _⟩
    have hlt1 : (k : Int) < (m : Int) := by omega
    have hlt2 : decide ((k : Int) < (m : Int)) = true := decide_eq_true hlt1
    obtain ⟨⟨r, z⟩, hr⟩ : ∃ x, ps[k]? = some x := ⟨_, List.getElem?_eq_getElem (show k < ps.length by have := HM.out; omega)⟩
    have hRS := HRs.out wr HI.out.2.2.2.2
    obtain ⟨rb, ro, rfl, hrb, c0, c1, c2, c3, c4, c5, c6⟩ := recs_at hRS hr
    have hzp : PinsAt wr z r.lock := recs_pins hRS (r, z) (List.mem_of_getElem? hr)
    obtain ⟨b, f, rfl⟩ := pins_slice hzp
    have hcr : Lk.chkNote r = 0 := HOk.out r (List.mem_map.2 ⟨(r, _), List.mem_of_getElem? hr, rfl⟩)
    have hAk : Lk.allOk ((ps.map Prod.fst).take k) := Lk.allOk_take HOk.out k
    have hAl : ((ps.map Prod.fst).take k).length = k := by have := HM.out; simp; omega
    have hNx : (ps.map Prod.fst).take k ++ [r] = (ps.map Prod.fst).take (k + 1) := by
      rw [List.take_add_one, List.getElem?_map, hr]
      rfl
    have hPT := put_one hAk (by omega) HI.out.2.2.2.1 hcr
    have HSy : Hid ((Lk.texts ((ps.map Prod.fst).take (k + 1))).length ≤ 60000 → Lk.syncP ⟨Lk.texts ((ps.map Prod.fst).take k), Lk.texts [r]⟩ = (⟨Lk.texts ((ps.map Prod.fst).take (k + 1)), []⟩, 0)) := fun h => by
      rw [← hNx] at h ⊢
      exact sync_one hAk hcr (by omega) h
    rw [hNx] at hPT
    have HPT : Hid ((Lk.putP ⟨Lk.texts ((ps.map Prod.fst).take k), []⟩ r = (Lk.Disk.none, 2)) ∨ (Lk.putP ⟨Lk.texts ((ps.map Prod.fst).take k), []⟩ r = (⟨Lk.texts ((ps.map Prod.fst).take k), Lk.texts [r]⟩, 0) ∧ (Lk.texts ((ps.map Prod.fst).take (k + 1))).length ≤ 60000)) := hPT
    have HPu : Hid (∀ w', Below wr.heap.size wr w' → Calls Tryz.prog 26 #[.agg #[.slice da dn dc, .slice da' 0 dc'], recV r (.slice b r.lock.length f)] w' fun e w'' => diskN w'.heap.size w'' (Lk.putP ⟨Lk.texts ((ps.map Prod.fst).take k), []⟩ r) e ∧ Below w'.heap.size w' w'') := fun w' hb => put_any _ _ _ _ r _ w' ((HE.out.below HI.out.2.2.2.2).below hb) (HI.out.2.1.below hb) (HI.out.2.2.1.below hb) (hzp.below hb)
    clear hRS hzp hr hPT hNx hAl hAk hcr
    generalize Lk.texts [r] = TX at HPT HSy
    generalize Lk.putP ⟨Lk.texts ((ps.map Prod.fst).take k), []⟩ r = PT at HPT HPu
    obtain ⟨r1, r2, r3, r4, r5, r6, r7⟩ := r
    simp only at c0 c1 c2 c3 c4 c5 c6
    unfold recV at HPu
    simp only at HPu
    generalize r7.length = q at HPu c6
    generalize hTk : Lk.texts ((ps.map Prod.fst).take k) = TA at HPT HSy
    have hbR : Below wr.heap.size wr (wr.alloc (.cells #[.int .i64 r1, .int .i64 r2, .int .i64 r3, .int .i64 r4, .bool r5, .int .i64 r6, .slice b q f] 34)) := (Below.refl _ _).alloc (Nat.le_refl _) _
    have HBR : Hid (Below wr.heap.size wr (wr.alloc (.cells #[.int .i64 r1, .int .i64 r2, .int .i64 r3, .int .i64 r4, .bool r5, .int .i64 r6, .slice b q f] 34))) := hbR
    have HKR : Hid (Blk (wr.alloc (.cells #[.int .i64 r1, .int .i64 r2, .int .i64 r3, .int .i64 r4, .bool r5, .int .i64 r6, .slice b q f] 34)) w.heap.size #[.slice da dn dc, .slice da' 0 dc'] 73) := HI.out.1.below hbR
    have HRR : Hid (Blk (wr.alloc (.cells #[.int .i64 r1, .int .i64 r2, .int .i64 r3, .int .i64 r4, .bool r5, .int .i64 r6, .slice b q f] 34)) wr.heap.size #[.int .i64 r1, .int .i64 r2, .int .i64 r3, .int .i64 r4, .bool r5, .int .i64 r6, .slice b q f] 34) := blk_alloc wr _ _
    have HBw : Hid (Below w.heap.size w wr) := HI.out.2.2.2.2
    have hsr : rb < wr.heap.size := hrb
    clear hbR hrb hTk HI
    go_upto_region 5 with fail
    clear c0 c1 c2 c3 c4 c5 c6
    generalize (wr.alloc (.cells #[.int .i64 r1, .int .i64 r2, .int .i64 r3, .int .i64 r4, .bool r5, .int .i64 r6, .slice b q f] 34)) = w3 at HBR HKR HRR ⊢
    have k0 := HKR.out.cell 0
    have k1 := HKR.out.cell 1
    simp only [List.getElem?_toArray, List.getElem?_cons_zero, List.getElem?_cons_succ] at k0 k1
    have x0 := HRR.out.cell 0
    have x1 := HRR.out.cell 1
    have x2 := HRR.out.cell 2
    have x3 := HRR.out.cell 3
    have x4 := HRR.out.cell 4
    have x5 := HRR.out.cell 5
    have x6 := HRR.out.cell 6
    simp only [List.getElem?_toArray, List.getElem?_cons_zero, List.getElem?_cons_succ] at x0 x1 x2 x3 x4 x5 x6
    go_wp2_with fail
    refine (HPu.out _ HBR.out).mono ?_
    rintro e w4 ⟨⟨va, vb, rfl, ha, hb⟩, hb4⟩
    obtain ⟨ua, uc, rfl⟩ := bytes_slice ha.1
    obtain ⟨ua', uc', rfl⟩ := bytes_slice hb.1
    clear k0 k1 x0 x1 x2 x3 x4 x5 x6 HPu HRR
    have hbW : Below wr.heap.size wr w4 := HBR.out.trans (hb4.mono HBR.out.size)
    have HB4 : Hid (Below w.heap.size w w4) := HBw.out.trans (hbW.mono HBw.out.size)
    have HK4 : Hid (Blk w4 w.heap.size #[.slice da dn dc, .slice da' 0 dc'] 73) := HKR.out.below hb4
    have HGl : Hid (w.heap.size < w4.heap.size) := HK4.out.lt
    clear hbW HBR HBw HKR
    rcases HPT.out with hPT | ⟨hPT, hs⟩
    · subst hPT
      clear HPT HSy ha hb hb4
      simp only [Lk.Disk.none, List.length_nil]
      have HB5 : Hid (∀ O, Below w.heap.size w (w4.alloc O)) := fun O => HB4.out.alloc HB4.out.size _
      clear HB4 HK4
      go_wp2
      go_ret2
      exact ⟨⟨_, _, rfl, fun h => by cases h⟩, HB5.out _⟩
    subst hPT
    simp only at ha hb ⊢
    have hSy := HSy.out hs
    have HTL : Hid ((Lk.texts ((ps.map Prod.fst).take (k + 1))).length ≤ 60000) := hs
    clear HPT HSy hs
    have HSn : Hid (∀ w', Below w4.heap.size w4 w' → Calls Tryz.prog 27 #[.agg #[.slice ua TA.length uc, .slice ua' TX.length uc']] w' fun e w'' => diskN w'.heap.size w'' (⟨Lk.texts ((ps.map Prod.fst).take (k + 1)), []⟩, 0) e ∧ Below w'.heap.size w' w'') := fun w' hb' => by
      have := sync_any _ _ _ _ w' (HE.out.below (HB4.out.trans (hb'.mono HB4.out.size))) (ha.1.below hb') (hb.1.below hb')
      rw [hSy] at this
      exact this
    clear ha hb hb4 hSy
    generalize TA.length = un at HSn ⊢
    generalize TX.length = un' at HSn ⊢
    have hbA : Below w4.heap.size w4 (w4.alloc (.cells #[.slice ua un uc, .slice ua' un' uc'] 73)) := (Below.refl _ _).alloc (Nat.le_refl _) _
    have HBA : Hid (Below w4.heap.size w4 (w4.alloc (.cells #[.slice ua un uc, .slice ua' un' uc'] 73))) := hbA
    have HKA : Hid (Blk (w4.alloc (.cells #[.slice ua un uc, .slice ua' un' uc'] 73)) w.heap.size #[.slice da dn dc, .slice da' 0 dc'] 73) := HK4.out.below hbA
    have HX7 : Hid (Blk (w4.alloc (.cells #[.slice ua un uc, .slice ua' un' uc'] 73)) w4.heap.size #[.slice ua un uc, .slice ua' un' uc'] 73) := blk_alloc w4 _ _
    clear hbA HK4
    go_upto_region 6 with fail
    generalize (w4.alloc (.cells #[.slice ua un uc, .slice ua' un' uc'] 73)) = w5 at HBA HKA HX7 ⊢
    generalize hg7 : w4.heap.size = g7 at HX7 HGl ⊢
    have HG7 : Hid (w4.heap.size = g7) := hg7
    clear hg7
    have k0 := HX7.out.cell 0
    have k1 := HX7.out.cell 1
    simp only [List.getElem?_toArray, List.getElem?_cons_zero, List.getElem?_cons_succ] at k0 k1
    go_wp2_with fail
    refine (HSn.out _ HBA.out).mono ?_
    rintro e w6 ⟨⟨va, vb, rfl, ha, hb⟩, hb6⟩
    simp only at ha hb
    obtain ⟨ea, ec, rfl⟩ := bytes_slice ha.1
    obtain ⟨ea', ec', rfl⟩ := bytes_slice hb.1
    simp only [List.length_nil] at hb ⊢
    generalize hen : (Lk.texts ((ps.map Prod.fst).take (k + 1))).length = en at ha HTL ⊢
    have hk6 := HKA.out.below hb6
    have hx6 := HX7.out.below hb6
    have HK6 : Hid (Blk w6 w.heap.size #[.slice da dn dc, .slice da' 0 dc'] 73) := hk6
    have HX6 : Hid (Blk w6 g7 #[.slice ua un uc, .slice ua' un' uc'] 73) := hx6
    have HB6 : Hid (Below w.heap.size w w6) := HB4.out.trans ((HBA.out.trans (hb6.mono HBA.out.size)).mono HB4.out.size)
    have HL7 : Hid (g7 < w5.heap.size) := HX7.out.lt
    have HL4 : Hid (w.heap.size < w5.heap.size) := HKA.out.lt
    have HY1 : Hid (NewBytes w5.heap.size w6 (.slice ea en ec) (Lk.texts ((ps.map Prod.fst).take (k + 1)))) := ha
    have HY2 : Hid (NewBytes w5.heap.size w6 (.slice ea' 0 ec') []) := hb
    have HEn : Hid ((Lk.texts ((ps.map Prod.fst).take (k + 1))).length = en) := hen
    clear ha hb hb6 hen HBA HKA HX7 HB4 HSn k0 k1
    have k0 := hx6.cell 0
    have k1 := hx6.cell 1
    simp only [List.getElem?_toArray, List.getElem?_cons_zero, List.getElem?_cons_succ] at k0 k1
    have kf0 := hx6.free 0
    have kf1 := hx6.free 1
    clear hk6 hx6
    have hne : g7 ≠ w.heap.size := by have := HGl.out; omega
    have hle : w.heap.size ≤ g7 := by have := HGl.out; omega
    have HX8 : Hid (Blk ((w6.setCell ⟨g7, 0, none⟩ (.slice ea en ec)).setCell ⟨g7, 1, none⟩ (.slice ea' 0 ec')) g7 #[.slice ea en ec, .slice ea' 0 ec'] 73 ∧ Blk ((w6.setCell ⟨g7, 0, none⟩ (.slice ea en ec)).setCell ⟨g7, 1, none⟩ (.slice ea' 0 ec')) w.heap.size #[.slice da dn dc, .slice da' 0 dc'] 73 ∧ NewBytes w5.heap.size ((w6.setCell ⟨g7, 0, none⟩ (.slice ea en ec)).setCell ⟨g7, 1, none⟩ (.slice ea' 0 ec')) (.slice ea en ec) (Lk.texts ((ps.map Prod.fst).take (k + 1))) ∧ NewBytes w5.heap.size ((w6.setCell ⟨g7, 0, none⟩ (.slice ea en ec)).setCell ⟨g7, 1, none⟩ (.slice ea' 0 ec')) (.slice ea' 0 ec') [] ∧ Below w.heap.size w ((w6.setCell ⟨g7, 0, none⟩ (.slice ea en ec)).setCell ⟨g7, 1, none⟩ (.slice ea' 0 ec'))) := ⟨(HX6.out.put 0 _).put 1 _, (HK6.out.off hne).off hne, (HY1.out.set _ HL7.out).set _ HL7.out, (HY2.out.set _ HL7.out).set _ HL7.out, (HB6.out.setCell hle _).setCell hle _⟩
    clear hne hle HX6 HK6 HY1 HY2 HB6
    go_upto_region 8 with fail
    generalize (w6.setCell ⟨g7, 0, none⟩ (.slice ea en ec)).setCell ⟨g7, 1, none⟩ (.slice ea' 0 ec') = w8 at HX8 ⊢
    clear k0 k1 kf0 kf1
    have HX9 : Hid (Blk ((w8.setCell ⟨w.heap.size, 0, none⟩ (.slice ea en ec)).setCell ⟨w.heap.size, 1, none⟩ (.slice ea' 0 ec')) w.heap.size #[.slice ea en ec, .slice ea' 0 ec'] 73 ∧ BytesAt ((w8.setCell ⟨w.heap.size, 0, none⟩ (.slice ea en ec)).setCell ⟨w.heap.size, 1, none⟩ (.slice ea' 0 ec')) (.slice ea en ec) (Lk.texts ((ps.map Prod.fst).take (k + 1))) ∧ BytesAt ((w8.setCell ⟨w.heap.size, 0, none⟩ (.slice ea en ec)).setCell ⟨w.heap.size, 1, none⟩ (.slice ea' 0 ec')) (.slice ea' 0 ec') [] ∧ (Lk.texts ((ps.map Prod.fst).take (k + 1))).length ≤ 60000 ∧ Below w.heap.size w ((w8.setCell ⟨w.heap.size, 0, none⟩ (.slice ea en ec)).setCell ⟨w.heap.size, 1, none⟩ (.slice ea' 0 ec'))) := ⟨(HX8.out.2.1.put 0 _).put 1 _, ((HX8.out.2.2.1.set _ HL4.out).set _ HL4.out).1, ((HX8.out.2.2.2.1.set _ HL4.out).set _ HL4.out).1, by rw [HEn.out]; exact HTL.out, (HX8.out.2.2.2.2.setCell (Nat.le_refl _) _).setCell (Nat.le_refl _) _⟩
    have hk8 := HX8.out.1
    have hd8 := HX8.out.2.1
    have k0 := hk8.cell 0
    have k1 := hk8.cell 1
    simp only [List.getElem?_toArray, List.getElem?_cons_zero, List.getElem?_cons_succ] at k0 k1
    have x0 := hd8.cell 0
    have x1 := hd8.cell 1
    simp only [List.getElem?_toArray, List.getElem?_cons_zero, List.getElem?_cons_succ] at x0 x1
    have xf0 := hd8.free 0
    have xf1 := hd8.free 1
    clear hk8 hd8 HX8
    go_wp2
    go_roundg (m - (k + 1))
    case measure => omega
    case rel => exact ⟨k + 1, ea, en, ec, ea', ec', by omega, by omega, by go_num, ⟨HX9.out.1, HX9.out.2.1, HX9.out.2.2.1, HX9.out.2.2.2.1, HX9.out.2.2.2.2⟩⟩
end Go.Proofs.YtpenkhehceglfaaGreatDoor
