/- The contract of the document's PutOn. -/
import Derived.Test.YtlnbcgjahjjpfacGreatDoorD16
namespace Go.Proofs.YtlnbcgjahjjpfacGreatDoor
open Go.RowKit
theorem putOn_rec {d : Lk.Disk} {r : Lk.Note} (h' : ¬ Lk.chkNote r = 0) : Lk.putOn d r = (Lk.Disk.none, Lk.chkNote r) := by unfold Lk.putOn; rw [if_neg h']
theorem putOn_many {d : Lk.Disk} {r : Lk.Note} (h' : Lk.chkNote r = 0) (h2 : 60000 < d.safe.length + d.wait.length + (Lk.noteText r).length + 1) : Lk.putOn d r = (Lk.Disk.none, 2) := by unfold Lk.putOn; rw [if_pos h', if_pos h2]
theorem putOn_ok {d : Lk.Disk} {r : Lk.Note} (h' : Lk.chkNote r = 0) (h2 : ¬ 60000 < d.safe.length + d.wait.length + (Lk.noteText r).length + 1) : Lk.putOn d r = (⟨d.safe, d.wait ++ (Lk.noteText r ++ [10])⟩, 0) := by unfold Lk.putOn; rw [if_pos h', if_neg h2]
set_option maxHeartbeats 8000000 in
set_option maxRecDepth 100000 in
theorem putOnR_any (vs vw : Value) (ls lw : List UInt8) (r : Lk.Note) (v : Value) (w : World) (hE : Env w) (hS : BytesAt w vs ls) (hW : BytesAt w vw lw) (hP : PinsAt w v r.lock) (hwf : (Lit.int .i64 r.kind).wf = true) :
    Calls Tryz.prog 14 #[.agg #[vs, vw], recV r v] w fun e w' => diskR w' (Lk.putOn ⟨ls, lw⟩ r) e ∧ Below w.heap.size w w' := by
  obtain ⟨a, c, rfl⟩ := bytes_slice hS
  obtain ⟨a', c', rfl⟩ := bytes_slice hW
  obtain ⟨pa, pc, rfl⟩ := pins_slice hP
  have HS : Hid (BytesAt w (.slice a ls.length c) ls) := hS
  have HW : Hid (BytesAt w (.slice a' lw.length c') lw) := hW
  have hsl := hS.1
  have hwl := hW.1
  have HPr : Hid (∀ w', Below w.heap.size w w' → Calls Tryz.prog 34 #[recV r (.slice pa r.lock.length pc)] w' fun e w'' => e = .returned (.tuple #[.string ⟨(Lk.notePrinted r).toArray⟩, .int .i64 (Lk.chkNote r)]) ∧ Below w'.heap.size w' w'') := fun w' hb => recTextR_any r _ w' (hP.below hb) hwf (hE.below hb)
  have F2 : Hid (¬ Lk.chkNote r = 0 → Lk.putOn ⟨ls, lw⟩ r = (Lk.Disk.none, Lk.chkNote r)) := fun h' => putOn_rec h'
  have F3 : Hid (Lk.chkNote r = 0 → 60000 < ls.length + lw.length + (Lk.notePrinted r).length + 1 → Lk.putOn ⟨ls, lw⟩ r = (Lk.Disk.none, 2)) := fun h' => by
    rw [show Lk.notePrinted r = Lk.noteText r from if_pos h']; exact putOn_many (d := ⟨ls, lw⟩) h'
  have F4 : Hid (Lk.chkNote r = 0 → ¬ 60000 < ls.length + lw.length + (Lk.notePrinted r).length + 1 → Lk.putOn ⟨ls, lw⟩ r = (⟨ls, lw ++ (Lk.notePrinted r ++ [10])⟩, 0)) := fun h' => by
    rw [show Lk.notePrinted r = Lk.noteText r from if_pos h']; exact putOn_ok (d := ⟨ls, lw⟩) h'
  have F5 : Hid (Lk.chkNote r = 0 → (Lk.notePrinted r).length ≤ 1000) := fun h' => by
    show (Lk.notePrinted r).length ≤ 1000
    rw [show Lk.notePrinted r = Lk.noteText r from if_pos h']; exact noteText_len h'
  clear hE hS hW hP hwf
  generalize Lk.putOn ⟨ls, lw⟩ r = Q at F2 F3 F4 ⊢
  generalize Lk.chkNote r = CN at F2 F3 F4 F5 HPr
  generalize Lk.notePrinted r = T at F3 F4 F5 HPr
  obtain ⟨r1, r2, r3, r4, r5, r6, r7⟩ := r
  unfold recV at HPr ⊢
  simp only at HPr ⊢
  have HB0 : Hid (Below w.heap.size w (((w.alloc (.cells #[.slice a ls.length c, .slice a' lw.length c'] 24)).alloc (.cells #[.int .i64 r1, .int .i64 r2, .int .i64 r3, .int .i64 r4, .bool r5, .int .i64 r6, .slice pa r7.length pc] 29)).alloc (.cells #[.slice none 0 0, .slice none 0 0] 24))) := (((Below.refl _ w).alloc (Nat.le_refl _) _).alloc (by simp) _).alloc (by simp; omega) _
  have HK0 : Hid (Blk (((w.alloc (.cells #[.slice a ls.length c, .slice a' lw.length c'] 24)).alloc (.cells #[.int .i64 r1, .int .i64 r2, .int .i64 r3, .int .i64 r4, .bool r5, .int .i64 r6, .slice pa r7.length pc] 29)).alloc (.cells #[.slice none 0 0, .slice none 0 0] 24)) w.heap.size #[.slice a ls.length c, .slice a' lw.length c'] 24) := ((blk_alloc w _ _).below ((Below.refl _ _).alloc (Nat.le_refl _) _)).below ((Below.refl _ _).alloc (Nat.le_refl _) _)
  have HN0 : Hid (Blk (((w.alloc (.cells #[.slice a ls.length c, .slice a' lw.length c'] 24)).alloc (.cells #[.int .i64 r1, .int .i64 r2, .int .i64 r3, .int .i64 r4, .bool r5, .int .i64 r6, .slice pa r7.length pc] 29)).alloc (.cells #[.slice none 0 0, .slice none 0 0] 24)) (w.heap.size + 1 + 1) #[.slice none 0 0, .slice none 0 0] 24) := by
    have := blk_alloc ((w.alloc (.cells #[.slice a ls.length c, .slice a' lw.length c'] 24)).alloc (.cells #[.int .i64 r1, .int .i64 r2, .int .i64 r3, .int .i64 r4, .bool r5, .int .i64 r6, .slice pa r7.length pc] 29)) #[.slice none 0 0, .slice none 0 0] 24
    rwa [World.size_alloc, World.size_alloc] at this
  go_enter Tryz.func14, Tryz.ntmps14
  go_wp2_with fail
  refine (HPr.out _ HB0.out).mono ?_
  rintro e w1 ⟨rfl, hb1⟩
  have HB1 : Hid (Below w.heap.size w w1) := HB0.out.trans (hb1.mono HB0.out.size)
  have hk := HK0.out.below hb1
  have hn := HN0.out.below hb1
  have HK1 : Hid (Blk w1 w.heap.size #[.slice a ls.length c, .slice a' lw.length c'] 24) := hk
  have HN1 : Hid (Blk w1 (w.heap.size + 1 + 1) #[.slice none 0 0, .slice none 0 0] 24) := hn
  clear hb1 HB0 HK0 HN0 HPr
  have k0 := hk.cell 0
  have k1 := hk.cell 1
  have d1 := hn.cell 0
  have d2 := hn.cell 1
  have f1 := hn.free 0
  have f2 := hn.free 1
  simp only [List.getElem?_toArray, List.getElem?_cons_zero, List.getElem?_cons_succ] at k0 k1 d1 d2
  have HBs : Hid (∀ u0 u1 : Value, Below w.heap.size w ((w1.setCell ⟨w.heap.size + 1 + 1, 0, none⟩ u0).setCell ⟨w.heap.size + 1 + 1, 1, none⟩ u1)) := fun u0 u1 => (HB1.out.setCell (p := ⟨w.heap.size + 1 + 1, 0, none⟩) (by show w.heap.size ≤ w.heap.size + 1 + 1; omega) _).setCell (p := ⟨w.heap.size + 1 + 1, 1, none⟩) (by show w.heap.size ≤ w.heap.size + 1 + 1; omega) _
  clear hk hn
  by_cases h1 : CN = 0
  rotate_left
  · have h1b : (CN != 0) = true := by rw [bne_iff_ne]; exact h1
    have HQ : Hid (Q = (Lk.Disk.none, CN)) := F2.out h1
    clear F2 F3 F4 F5 h1
    go_wp2
    refine bodyPost_ret (v := .tuple #[.agg #[.slice none 0 0, .slice none 0 0], .int .i64 CN]) (by simp [results, Tryz.results14, go_sem, d1, d2]) rfl ⟨diskR_none _ HQ.out, HBs.out _ _⟩
  subst h1
  have htl := F5.out rfl
  have G3 : Hid (60000 < ls.length + lw.length + T.length + 1 → Q = (Lk.Disk.none, 2)) := F3.out rfl
  have G4 : Hid (¬ 60000 < ls.length + lw.length + T.length + 1 → Q = (⟨ls, lw ++ (T ++ [10])⟩, 0)) := F4.out rfl
  clear F2 F3 F4 F5
  obtain ⟨S, hS0⟩ : ∃ S : ByteArray, S = ⟨T.toArray⟩ := ⟨_, rfl⟩
  rw [← hS0]
  have hss : S.size = T.length := by rw [hS0]; show T.toArray.size = _; rw [List.size_toArray]
  obtain ⟨tn, htn⟩ : ∃ tn, tn = S.size := ⟨_, rfl⟩
  by_cases h2 : 60000 < ls.length + lw.length + T.length + 1
  · have HQ : Hid (Q = (Lk.Disk.none, 2)) := G3.out h2
    have h2' : (60000 : Int) < (ls.length : Int) + (lw.length : Int) + (S.size : Int) + 1 := by omega
    have hs2 : S.size ≤ 1000 := by omega
    clear G3 G4 h2 hS0 hss htn
    go_wp2
    refine bodyPost_ret (v := .tuple #[.agg #[.slice none 0 0, .slice none 0 0], .int .i64 2]) (by simp [results, Tryz.results14, go_sem, d1, d2]) rfl ⟨diskR_none _ HQ.out, HBs.out _ _⟩
  have HQ : Hid (Q = (⟨ls, lw ++ (T ++ [10])⟩, 0)) := G4.out h2
  have h2' : decide ((60000 : Int) < (ls.length : Int) + (lw.length : Int) + (S.size : Int) + 1) = false := decide_eq_false (by omega)
  have hs2 : S.size ≤ 1000 := by omega
  obtain ⟨cc, w4, hcv, hL, hb4⟩ := bytes_conv w1.drew (S ++ ⟨#[10]⟩) (by rw [hS0, line_size]; omega)
  rw [hS0, line_data, line_size] at hL
  have hbd : Below w1.heap.size w1 w1.drew := (Below.refl _ _).drew
  have hb4' : Below w1.heap.size w1 w4 := hbd.trans (hb4.mono hbd.size)
  obtain ⟨tn, htn⟩ : ∃ tn, tn = (S ++ ⟨#[10]⟩).size := ⟨_, rfl⟩
  have htn2 : tn = T.length + 1 := by rw [htn, hS0, line_size]
  have hcv' : (convert 9 22 (.string (S ++ ⟨#[10]⟩))).run Tryz.prog w1.drew = .ok (.slice (some ⟨w1.heap.size, 0, none⟩) tn cc) w4 := by rw [htn]; exact hcv
  have HL4 : Hid (BytesAt w4 (.slice (some ⟨w1.heap.size, 0, none⟩) tn cc) (T ++ [10])) := by rw [htn2]; exact hL.1
  have HJ : Hid (∀ w' b, Below w4.heap.size w4 w' → w'.cell? ⟨b, 0, none⟩ = some (.slice a' lw.length c') → w'.cell? ⟨b, 1, none⟩ = some (.slice (some ⟨w1.heap.size, 0, none⟩) tn cc) → Calls Tryz.prog 35 #[.slice (some ⟨b, 0, none⟩) 2 2] w' fun e w'' => (∃ x, e = .returned x ∧ NewBytes (w.heap.size + 3) w'' x (lw ++ (T ++ [10]))) ∧ Below w'.heap.size w' w'') := fun w' b hb h0 h1 => by
    refine (concatB_any b _ _ lw (T ++ [10]) w' h0 h1 (((HW.out.below HB1.out).below hb4').below hb) (HL4.out.below hb) (by simp; omega)).mono ?_
    rintro e w'' ⟨⟨x, he, hx⟩, hb'⟩
    exact ⟨⟨x, he, hx.less (Nat.le_trans HN1.out.lt (Nat.le_trans hb4'.size hb.size))⟩, hb'⟩
  have HK4 := HK1.out.below hb4'
  have HN4 := HN1.out.below hb4'
  have m0 := HK4.cell 0
  have m1 := HK4.cell 1
  simp only [List.getElem?_toArray, List.getElem?_cons_zero, List.getElem?_cons_succ] at m0 m1
  have hl4 : w.heap.size < w4.heap.size := HK4.lt
  have hl5 : w.heap.size + 1 + 1 < w4.heap.size := HN4.lt
  have HKN : Hid (∀ y, Below w4.heap.size w4 y → y.cell? ⟨w.heap.size, 0, none⟩ = some (.slice a ls.length c) ∧ y.cell? ⟨w.heap.size + 1 + 1, 0, none⟩ = some (.slice none 0 0) ∧ y.cell? ⟨w.heap.size + 1 + 1, 1, none⟩ = some (.slice none 0 0) ∧ y.frozen? ⟨w.heap.size + 1 + 1, 0, none⟩ = false ∧ y.frozen? ⟨w.heap.size + 1 + 1, 1, none⟩ = false) := fun y hb =>
    ⟨(HK4.below hb).cell 0, (HN4.below hb).cell 0, (HN4.below hb).cell 1, (HN4.below hb).free 0, (HN4.below hb).free 1⟩
  have HEnd : Hid (∀ y (u0 u1 : Value), Below w4.heap.size w4 y → Below w.heap.size w ((y.setCell ⟨w.heap.size + 1 + 1, 0, none⟩ u0).setCell ⟨w.heap.size + 1 + 1, 1, none⟩ u1)) := fun y u0 u1 hb => (((HB1.out.trans (hb4'.mono HB1.out.size)).trans (hb.mono (HB1.out.trans (hb4'.mono HB1.out.size)).size)).setCell (p := ⟨w.heap.size + 1 + 1, 0, none⟩) (by show w.heap.size ≤ w.heap.size + 1 + 1; omega) _).setCell (p := ⟨w.heap.size + 1 + 1, 1, none⟩) (by show w.heap.size ≤ w.heap.size + 1 + 1; omega) _
  have HBw : Hid (w.heap.size ≤ w4.heap.size) := by show w.heap.size ≤ w4.heap.size; omega
  clear G3 G4 h2 hS0 hss hcv hL hb4 HBs HK4 HN4 htn htn2 hbd HL4
  generalize lw ++ (T ++ [10]) = lt at HQ HJ
  generalize w1.heap.size = g1 at hcv' HJ
  go_wp2_with fail
  clear h2'
  go_region_with (first
    | (go_at_call 35; refine (HJ.out _ _ ((Below.refl _ _).alloc (Nat.le_refl _) _) (by simp [go_sem]) (by simp [go_sem])).mono ?_; rintro e yA ⟨⟨uA, rfl, hA⟩, hbA⟩; obtain ⟨a1, c1, rfl⟩ := bytes_slice hA.1; have hBA : Below w4.heap.size w4 yA := Below.trans ((Below.refl _ _).alloc (Nat.le_refl _) _) (hbA.mono (by simp)); obtain ⟨m0, d1, d2, f1, f2⟩ := HKN.out yA hBA))
  all_goals
    go_wp2
    refine bodyPost_ret (v := .tuple #[.agg #[.slice a ls.length c, .slice a1 lt.length c1], .int .i64 0]) (by simp [results, Tryz.results14, go_sem, d1, d2]) rfl ?_
    rw [HQ.out]
    exact ⟨⟨_, _, rfl, HS.out.below (HEnd.out yA _ _ hBA), ((hA.set _ (by omega)).set _ (by omega)).1⟩, HEnd.out yA _ _ hBA⟩
end Go.Proofs.YtlnbcgjahjjpfacGreatDoor
