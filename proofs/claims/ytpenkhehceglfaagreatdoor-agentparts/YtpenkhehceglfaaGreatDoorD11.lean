/- The contract of disk.Put. -/
import Derived.Test.YtpenkhehceglfaaGreatDoorME
import Derived.Test.YtpenkhehceglfaaGreatDoorT4
import Derived.Test.YtpenkhehceglfaaGreatDoorN10
import Derived.Deep.RegionWith
namespace Go.Proofs.YtpenkhehceglfaaGreatDoor
open Go.RowKit
theorem put_bad {d : Lk.Disk} {r : Lk.Note} (h : ¬ Lk.chkDisk d = 0) : Lk.putP d r = (Lk.Disk.none, Lk.chkDisk d) := by unfold Lk.putP; rw [if_neg h]
theorem put_rec {d : Lk.Disk} {r : Lk.Note} (h : Lk.chkDisk d = 0) (h' : ¬ Lk.chkNote r = 0) : Lk.putP d r = (Lk.Disk.none, Lk.chkNote r) := by unfold Lk.putP Lk.putOn; rw [if_pos h, if_neg h']
theorem put_many {d : Lk.Disk} {r : Lk.Note} (h : Lk.chkDisk d = 0) (h' : Lk.chkNote r = 0) (h2 : 60000 < d.safe.length + d.wait.length + (Lk.noteText r).length + 1) : Lk.putP d r = (Lk.Disk.none, 2) := by unfold Lk.putP Lk.putOn; rw [if_pos h, if_pos h', if_pos h2]
theorem put_ok {d : Lk.Disk} {r : Lk.Note} (h : Lk.chkDisk d = 0) (h' : Lk.chkNote r = 0) (h2 : ¬ 60000 < d.safe.length + d.wait.length + (Lk.noteText r).length + 1) : Lk.putP d r = (⟨d.safe, d.wait ++ (Lk.noteText r ++ [10])⟩, 0) := by unfold Lk.putP Lk.putOn; rw [if_pos h, if_pos h', if_neg h2]
theorem noteText_len {r : Lk.Note} (hc : Lk.chkNote r = 0) : (Lk.noteText r).length ≤ 1000 := by
  obtain ⟨hnum, hlk⟩ := Lk.note_ok hc
  have htl : (Lk.text r.lock).length ≤ 72 := by
    obtain ⟨h1, h2⟩ := chk_ok hlk
    have := text_len r.lock h2
    omega
  have hn : ∀ k, k < 6 → 0 ≤ r.nums.getD k 0 ∧ r.nums.getD k 0 ≤ 200 := fun k hk => by
    have hl : k < r.nums.length := hk
    refine hnum _ ?_
    rw [List.getD_eq_getElem?_getD, List.getElem?_eq_getElem hl]
    exact List.getElem_mem hl
  have e : Lk.noteText r = Lib.join (lastW r.nums (Lk.text r.lock)) [32] := (join_words r.nums (Lk.text r.lock)).symm
  rw [e]
  exact note_len r.nums (Lk.text r.lock) rfl hn htl
theorem line_data (t : List UInt8) : ((⟨t.toArray⟩ : ByteArray) ++ ⟨#[10]⟩).data.toList = t ++ [10] := by simp
theorem line_size (t : List UInt8) : ((⟨t.toArray⟩ : ByteArray) ++ ⟨#[10]⟩).size = t.length + 1 := by
  rw [ByteArray.size_append]; show t.toArray.size + 1 = _; rw [List.size_toArray]
set_option maxHeartbeats 8000000 in
set_option maxRecDepth 100000 in
theorem put_any (vs vw : Value) (ls lw : List UInt8) (r : Lk.Note) (v : Value) (w : World) (hE : Env w) (hS : BytesAt w vs ls) (hW : BytesAt w vw lw) (hP : PinsAt w v r.lock) :
    Calls Tryz.prog 26 #[.agg #[vs, vw], recV r v] w fun e w' => diskN w.heap.size w' (Lk.putP ⟨ls, lw⟩ r) e ∧ Below w.heap.size w w' := by
  obtain ⟨a, c, rfl⟩ := bytes_slice hS
  obtain ⟨a', c', rfl⟩ := bytes_slice hW
  obtain ⟨pa, pc, rfl⟩ := pins_slice hP
  have HS : Hid (BytesAt w (.slice a ls.length c) ls) := hS
  have HW : Hid (BytesAt w (.slice a' lw.length c') lw) := hW
  have hsl := hS.1
  have hwl := hW.1
  have HC1 : Hid (∀ w', Below w.heap.size w w' → Calls Tryz.prog 56 #[.agg #[.slice a ls.length c, .slice a' lw.length c']] w' fun e w'' => e = .returned (.int .i64 (Lk.chkDisk ⟨ls, lw⟩)) ∧ Below w'.heap.size w' w'') := fun w' hb => checkDisk_any _ _ ls lw w' (hE.below hb) (hS.below hb) (hW.below hb)
  have HPr : Hid (∀ w', Below w.heap.size w w' → Calls Tryz.prog 55 #[recV r (.slice pa r.lock.length pc)] w' fun e w'' => e = .returned (.tuple #[.string ⟨(Lk.notePrinted r).toArray⟩, .int .i64 (Lk.chkNote r)]) ∧ Below w'.heap.size w' w'') := fun w' hb => notePrint_any r _ w' (hP.below hb) (hE.below hb)
  have F1 : Hid (¬ Lk.chkDisk ⟨ls, lw⟩ = 0 → Lk.putP ⟨ls, lw⟩ r = (Lk.Disk.none, Lk.chkDisk ⟨ls, lw⟩)) := fun h => put_bad h
  have F2 : Hid (Lk.chkDisk ⟨ls, lw⟩ = 0 → ¬ Lk.chkNote r = 0 → Lk.putP ⟨ls, lw⟩ r = (Lk.Disk.none, Lk.chkNote r)) := fun h h' => put_rec h h'
  have F3 : Hid (Lk.chkDisk ⟨ls, lw⟩ = 0 → Lk.chkNote r = 0 → 60000 < ls.length + lw.length + (Lk.notePrinted r).length + 1 → Lk.putP ⟨ls, lw⟩ r = (Lk.Disk.none, 2)) := fun h h' => by
    rw [show Lk.notePrinted r = Lk.noteText r from if_pos h']; exact put_many h h'
  have F4 : Hid (Lk.chkDisk ⟨ls, lw⟩ = 0 → Lk.chkNote r = 0 → ¬ 60000 < ls.length + lw.length + (Lk.notePrinted r).length + 1 → Lk.putP ⟨ls, lw⟩ r = (⟨ls, lw ++ (Lk.notePrinted r ++ [10])⟩, 0)) := fun h h' => by
    rw [show Lk.notePrinted r = Lk.noteText r from if_pos h']; exact put_ok h h'
  have F5 : Hid (Lk.chkNote r = 0 → (Lk.notePrinted r).length ≤ 1000) := fun h' => by
    show (Lk.notePrinted r).length ≤ 1000
    rw [show Lk.notePrinted r = Lk.noteText r from if_pos h']; exact noteText_len h'
  clear hE hS hW hP
  generalize Lk.putP ⟨ls, lw⟩ r = Q at F1 F2 F3 F4 ⊢
  generalize Lk.chkDisk ⟨ls, lw⟩ = C1 at F1 F2 F3 F4 HC1
  generalize Lk.chkNote r = CN at F2 F3 F4 F5 HPr
  generalize Lk.notePrinted r = T at F3 F4 F5 HPr
  obtain ⟨r1, r2, r3, r4, r5, r6, r7⟩ := r
  unfold recV at HPr ⊢
  simp only at HPr ⊢
  have HB0 : Hid (Below w.heap.size w (((w.alloc (.cells #[.slice a ls.length c, .slice a' lw.length c'] 73)).alloc (.cells #[.int .i64 r1, .int .i64 r2, .int .i64 r3, .int .i64 r4, .bool r5, .int .i64 r6, .slice pa r7.length pc] 34)).alloc (.cells #[.slice none 0 0, .slice none 0 0] 73))) := (((Below.refl _ w).alloc (Nat.le_refl _) _).alloc (by simp) _).alloc (by simp; omega) _
  have HK0 : Hid (Blk (((w.alloc (.cells #[.slice a ls.length c, .slice a' lw.length c'] 73)).alloc (.cells #[.int .i64 r1, .int .i64 r2, .int .i64 r3, .int .i64 r4, .bool r5, .int .i64 r6, .slice pa r7.length pc] 34)).alloc (.cells #[.slice none 0 0, .slice none 0 0] 73)) w.heap.size #[.slice a ls.length c, .slice a' lw.length c'] 73) := ((blk_alloc w _ _).below ((Below.refl _ _).alloc (Nat.le_refl _) _)).below ((Below.refl _ _).alloc (Nat.le_refl _) _)
  have HN0 : Hid (Blk (((w.alloc (.cells #[.slice a ls.length c, .slice a' lw.length c'] 73)).alloc (.cells #[.int .i64 r1, .int .i64 r2, .int .i64 r3, .int .i64 r4, .bool r5, .int .i64 r6, .slice pa r7.length pc] 34)).alloc (.cells #[.slice none 0 0, .slice none 0 0] 73)) (w.heap.size + 1 + 1) #[.slice none 0 0, .slice none 0 0] 73) := by
    have := blk_alloc ((w.alloc (.cells #[.slice a ls.length c, .slice a' lw.length c'] 73)).alloc (.cells #[.int .i64 r1, .int .i64 r2, .int .i64 r3, .int .i64 r4, .bool r5, .int .i64 r6, .slice pa r7.length pc] 34)) #[.slice none 0 0, .slice none 0 0] 73
    rwa [World.size_alloc, World.size_alloc] at this
  go_enter Tryz.func26, Tryz.ntmps26
  go_wp2_with fail
  refine (HPr.out _ HB0.out).mono ?_
  rintro e w1 ⟨rfl, hb1⟩
  have HB1 : Hid (Below w.heap.size w w1) := HB0.out.trans (hb1.mono HB0.out.size)
  have hk := HK0.out.below hb1
  have HK1 : Hid (Blk w1 w.heap.size #[.slice a ls.length c, .slice a' lw.length c'] 73) := hk
  have HN1 : Hid (Blk w1 (w.heap.size + 1 + 1) #[.slice none 0 0, .slice none 0 0] 73) := HN0.out.below hb1
  clear hb1 HB0 HK0 HN0 HPr
  have k0 := hk.cell 0
  have k1 := hk.cell 1
  simp only [List.getElem?_toArray, List.getElem?_cons_zero, List.getElem?_cons_succ] at k0 k1
  clear hk
  go_wp2_with fail
  refine (HC1.out _ HB1.out).mono ?_
  rintro e w2 ⟨rfl, hb2⟩
  have HB2 : Hid (Below w.heap.size w w2) := HB1.out.trans (hb2.mono HB1.out.size)
  have HK2 : Hid (Blk w2 w.heap.size #[.slice a ls.length c, .slice a' lw.length c'] 73) := HK1.out.below hb2
  have HN2 : Hid (Blk w2 (w.heap.size + 1 + 1) #[.slice none 0 0, .slice none 0 0] 73) := HN1.out.below hb2
  clear hb2 HB1 HK1 HN1 HC1 k0 k1
  go_wp2_with fail
  refine (or2_any C1 CN _ _ (by simp [go_sem]) (by simp [go_sem])).mono ?_
  rintro e w3 ⟨rfl, hb3⟩
  have hb3' := ((Below.refl _ w2).alloc (Nat.le_refl _) _).trans (hb3.mono (by simp))
  have HB3 : Hid (Below w.heap.size w w3) := HB2.out.trans (hb3'.mono HB2.out.size)
  have hk := HK2.out.below hb3'
  have hn := HN2.out.below hb3'
  have HK3 : Hid (Blk w3 w.heap.size #[.slice a ls.length c, .slice a' lw.length c'] 73) := hk
  have HN3 : Hid (Blk w3 (w.heap.size + 1 + 1) #[.slice none 0 0, .slice none 0 0] 73) := hn
  clear hb3 hb3' HB2 HK2 HN2
  by_cases h1 : C1 = 0 ∧ CN = 0
  rotate_left
  · obtain ⟨E, hE⟩ : ∃ E, E = (if C1 = 0 then CN else C1) := ⟨_, rfl⟩
    have hE0 : ¬ E = 0 := by
      rw [hE]; split
      · rename_i h; exact fun e => h1 ⟨h, e⟩
      · assumption
    have HQ : Hid (Q = (Lk.Disk.none, E)) := by
      show Q = (Lk.Disk.none, E)
      rw [hE]; split
      · rename_i h; exact F2.out h (fun e => h1 ⟨h, e⟩)
      · rename_i h; exact F1.out h
    rw [← hE]
    have hEb : (E != 0) = true := by rw [bne_iff_ne]; exact hE0
    have d1 := hn.cell 0
    have d2 := hn.cell 1
    have f1 := hn.free 0
    have f2 := hn.free 1
    simp only [List.getElem?_toArray, List.getElem?_cons_zero, List.getElem?_cons_succ] at d1 d2
    have HBs : Hid (∀ u0 u1 : Value, Below w.heap.size w ((w3.setCell ⟨w.heap.size + 1 + 1, 0, none⟩ u0).setCell ⟨w.heap.size + 1 + 1, 1, none⟩ u1)) := fun u0 u1 => (HB3.out.setCell (p := ⟨w.heap.size + 1 + 1, 0, none⟩) (by show w.heap.size ≤ w.heap.size + 1 + 1; omega) _).setCell (p := ⟨w.heap.size + 1 + 1, 1, none⟩) (by show w.heap.size ≤ w.heap.size + 1 + 1; omega) _
    clear F1 F2 F3 F4 F5 h1 hE hE0 hk hn
    go_wp2
    refine bodyPost_ret (v := .tuple #[.agg #[.slice none 0 0, .slice none 0 0], .int .i64 E]) (by simp [results, Tryz.results26, go_sem, d1, d2]) rfl ⟨diskN_none _ _ HQ.out, HBs.out _ _⟩
  obtain ⟨rfl, rfl⟩ := h1
  rw [if_pos rfl]
  have htl := F5.out rfl
  have G3 : Hid (60000 < ls.length + lw.length + T.length + 1 → Q = (Lk.Disk.none, 2)) := F3.out rfl rfl
  have G4 : Hid (¬ 60000 < ls.length + lw.length + T.length + 1 → Q = (⟨ls, lw ++ (T ++ [10])⟩, 0)) := F4.out rfl rfl
  clear F1 F2 F3 F4 F5 hk hn
  obtain ⟨cc, w4, hcv, hL, hb4⟩ := bytes_conv w3 (⟨T.toArray⟩ ++ ⟨#[10]⟩) (by rw [line_size]; omega)
  rw [line_data] at hL
  obtain ⟨tn, htn⟩ : ∃ tn, tn = ((⟨T.toArray⟩ : ByteArray) ++ ⟨#[10]⟩).size := ⟨_, rfl⟩
  rw [← htn] at hcv hL
  rw [line_size] at htn
  have HTN : Hid (tn = T.length + 1) := htn
  clear htn
  have HB4 : Hid (Below w.heap.size w w4) := HB3.out.trans (hb4.mono HB3.out.size)
  have hk := HK3.out.below hb4
  have HK4 : Hid (Blk w4 w.heap.size #[.slice a ls.length c, .slice a' lw.length c'] 73) := hk
  have HN4 : Hid (Blk w4 (w.heap.size + 1 + 1) #[.slice none 0 0, .slice none 0 0] 73) := HN3.out.below hb4
  have HL4 : Hid (BytesAt w4 (.slice (some ⟨w3.heap.size, 0, none⟩) tn cc) (T ++ [10])) := hL.1
  have k0 := hk.cell 0
  have k1 := hk.cell 1
  simp only [List.getElem?_toArray, List.getElem?_cons_zero, List.getElem?_cons_succ] at k0 k1
  clear hL hb4 HB3 HK3 HN3 hk
  go_wp2_with fail
  refine (size_any _ _ _ _ _ _ _ hsl hwl).mono ?_
  rintro e w5 ⟨rfl, hb5⟩
  have HB5 : Hid (Below w.heap.size w w5) := HB4.out.trans (hb5.mono HB4.out.size)
  have hk := HK4.out.below hb5
  have hn := HN4.out.below hb5
  have HK5 : Hid (Blk w5 w.heap.size #[.slice a ls.length c, .slice a' lw.length c'] 73) := hk
  have HN5 : Hid (Blk w5 (w.heap.size + 1 + 1) #[.slice none 0 0, .slice none 0 0] 73) := hn
  have HL5 : Hid (BytesAt w5 (.slice (some ⟨w3.heap.size, 0, none⟩) tn cc) (T ++ [10])) := HL4.out.below hb5
  clear hb5 HB4 HK4 HN4 HL4 k0 k1 hcv
  have k0 := hk.cell 0
  have k1 := hk.cell 1
  have d1 := hn.cell 0
  have d2 := hn.cell 1
  have f1 := hn.free 0
  have f2 := hn.free 1
  simp only [List.getElem?_toArray, List.getElem?_cons_zero, List.getElem?_cons_succ] at k0 k1 d1 d2
  clear hk hn
  have htn2 : tn ≤ 1001 := by have := HTN.out; omega
  by_cases h2 : 60000 < ls.length + lw.length + T.length + 1
  · have HQ : Hid (Q = (Lk.Disk.none, 2)) := G3.out h2
    have h2' : (60000 : Int) < (ls.length : Int) + (lw.length : Int) + (tn : Int) := by have := HTN.out; omega
    have HBs : Hid (∀ u0 u1 : Value, Below w.heap.size w ((w5.setCell ⟨w.heap.size + 1 + 1, 0, none⟩ u0).setCell ⟨w.heap.size + 1 + 1, 1, none⟩ u1)) := fun u0 u1 => (HB5.out.setCell (p := ⟨w.heap.size + 1 + 1, 0, none⟩) (by show w.heap.size ≤ w.heap.size + 1 + 1; omega) _).setCell (p := ⟨w.heap.size + 1 + 1, 1, none⟩) (by show w.heap.size ≤ w.heap.size + 1 + 1; omega) _
    clear G3 G4 h2
    go_wp2
    refine bodyPost_ret (v := .tuple #[.agg #[.slice none 0 0, .slice none 0 0], .int .i64 2]) (by simp [results, Tryz.results26, go_sem, d1, d2]) rfl ⟨diskN_none _ _ HQ.out, HBs.out _ _⟩
  have HQ : Hid (Q = (⟨ls, lw ++ (T ++ [10])⟩, 0)) := G4.out h2
  have h2' : (ls.length : Int) + (lw.length : Int) + (tn : Int) ≤ 60000 := by have := HTN.out; omega
  have HCA : Hid (∀ w', Below w5.heap.size w5 w' → Calls Tryz.prog 58 #[.slice a ls.length c] w' fun e w'' => (∃ u, e = .returned u ∧ NewBytes (w.heap.size + 3) w'' u ls) ∧ Below w'.heap.size w' w'') := fun w' hb => by
    refine (clone_any _ ls w' ((HS.out.below HB5.out).below hb)).mono ?_
    rintro e w'' ⟨⟨u, he, hu⟩, hb'⟩
    exact ⟨⟨u, he, hu.less (Nat.le_trans HN5.out.lt hb.size)⟩, hb'⟩
  have HCB : Hid (∀ w', Below w5.heap.size w5 w' → Calls Tryz.prog 59 #[.slice a' lw.length c', .slice (some ⟨w3.heap.size, 0, none⟩) tn cc] w' fun e w'' => (∃ u, e = .returned u ∧ NewBytes (w.heap.size + 3) w'' u (lw ++ (T ++ [10]))) ∧ Below w'.heap.size w' w'') := fun w' hb => by
    refine (joined_any _ _ lw (T ++ [10]) w' ((HW.out.below HB5.out).below hb) (HL5.out.below hb) (by simp; omega)).mono ?_
    rintro e w'' ⟨⟨u, he, hu⟩, hb'⟩
    exact ⟨⟨u, he, hu.less (Nat.le_trans HN5.out.lt hb.size)⟩, hb'⟩
  have HKN : Hid (∀ y, Below w5.heap.size w5 y → y.cell? ⟨w.heap.size, 0, none⟩ = some (.slice a ls.length c) ∧ y.cell? ⟨w.heap.size, 1, none⟩ = some (.slice a' lw.length c') ∧ y.cell? ⟨w.heap.size + 1 + 1, 0, none⟩ = some (.slice none 0 0) ∧ y.cell? ⟨w.heap.size + 1 + 1, 1, none⟩ = some (.slice none 0 0) ∧ y.frozen? ⟨w.heap.size + 1 + 1, 0, none⟩ = false ∧ y.frozen? ⟨w.heap.size + 1 + 1, 1, none⟩ = false) := fun y hb =>
    ⟨(HK5.out.below hb).cell 0, (HK5.out.below hb).cell 1, (HN5.out.below hb).cell 0, (HN5.out.below hb).cell 1, (HN5.out.below hb).free 0, (HN5.out.below hb).free 1⟩
  have HEnd : Hid (∀ y (u0 u1 : Value), Below w5.heap.size w5 y → Below w.heap.size w ((y.setCell ⟨w.heap.size + 1 + 1, 0, none⟩ u0).setCell ⟨w.heap.size + 1 + 1, 1, none⟩ u1)) := fun y u0 u1 hb => ((HB5.out.trans (hb.mono HB5.out.size)).setCell (p := ⟨w.heap.size + 1 + 1, 0, none⟩) (by show w.heap.size ≤ w.heap.size + 1 + 1; omega) _).setCell (p := ⟨w.heap.size + 1 + 1, 1, none⟩) (by show w.heap.size ≤ w.heap.size + 1 + 1; omega) _
  generalize lw ++ (T ++ [10]) = lt at HQ HCB
  clear G3 G4 h2 HS HW HB5 HK5 HN5 HL5
  have hB0 : Below w5.heap.size w5 w5.drew := (Below.refl _ _).drew
  go_wp2_with fail
  clear h2' htl hsl hwl htn2
  generalize w3.heap.size = g3 at HCB ⊢
  go_region_with (first
    | (go_at_call 58; refine (HCA.out _ (by assumption)).mono ?_; rintro e yA ⟨⟨uA, rfl, hA⟩, hbA⟩; obtain ⟨a1, c1, rfl⟩ := bytes_slice hA.1; have hBA : Below w5.heap.size w5 yA := Below.trans (by assumption) (hbA.mono (Below.size (by assumption))); obtain ⟨k0, k1, d1, d2, f1, f2⟩ := HKN.out yA hBA)
    | (go_at_call 59; refine (HCB.out _ (by assumption)).mono ?_; rintro e yB ⟨⟨uB, rfl, hB⟩, hbB⟩; obtain ⟨a2, c2, rfl⟩ := bytes_slice hB.1; have hBB : Below w5.heap.size w5 yB := Below.trans (by assumption) (hbB.mono (Below.size (by assumption))); obtain ⟨k0, k1, d1, d2, f1, f2⟩ := HKN.out yB hBB))
  all_goals
    go_wp2
    refine bodyPost_ret (v := .tuple #[.agg #[.slice a1 ls.length c1, .slice a2 lt.length c2], .int .i64 0]) (by simp [results, Tryz.results26, go_sem, d1, d2]) rfl ?_
    rw [HQ.out]
    first
      | exact ⟨⟨_, _, rfl, (((hA.below hbB).set _ (by omega)).set _ (by omega)).less (by omega), ((hB.set _ (by omega)).set _ (by omega)).less (by omega)⟩, HEnd.out yB _ _ hBB⟩
      | exact ⟨⟨_, _, rfl, ((hA.set _ (by omega)).set _ (by omega)).less (by omega), (((hB.below hbA).set _ (by omega)).set _ (by omega)).less (by omega)⟩, HEnd.out yA _ _ hBA⟩
end Go.Proofs.YtpenkhehceglfaaGreatDoor
