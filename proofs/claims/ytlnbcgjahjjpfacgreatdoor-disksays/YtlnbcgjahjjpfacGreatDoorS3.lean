/- A walk of vanguardlaw.DiskSays (written by a program). -/
import Derived.Test.YtlnbcgjahjjpfacGreatDoorD21
namespace Go.Proofs.YtlnbcgjahjjpfacGreatDoor
open Go.RowKit
set_option maxHeartbeats 32000000 in
set_option maxRecDepth 100000 in
theorem diskSays_in (vs vw ux uy : Value) (ls lw xl xm : List UInt8) (r : Lk.Note) (v : Value) (n : Nat) (w : World) (hE : Env w) (hS : BytesAt w vs ls) (hW : BytesAt w vw lw) (hX : BytesAt w ux xl) (hY : BytesAt w uy xm) (hP : PinsAt w v r.lock) (hwf : (Lit.int .i64 r.kind).wf = true) (hok : Lk.chkDisk ⟨ls, lw⟩ = 0) (hnl : n ≤ lw.length) :
    Calls Tryz.prog 3 #[.agg #[vs, vw], recV r v, .int .i64 (n : Int), .agg #[ux, uy]] w fun e w' => e = .returned (.bool true) ∧ Below w.heap.size w w' := by
  obtain ⟨a, c, rfl⟩ := bytes_slice hS
  obtain ⟨a', c', rfl⟩ := bytes_slice hW
  obtain ⟨xa, xc, rfl⟩ := bytes_slice hX
  obtain ⟨ya, yc, rfl⟩ := bytes_slice hY
  obtain ⟨pa, pc, rfl⟩ := pins_slice hP
  have HS : Hid (BytesAt w (.slice a ls.length c) ls) := hS
  have HW : Hid (BytesAt w (.slice a' lw.length c') lw) := hW
  have hroom := (bytes_room hW).2
  have H1 : Hid (∀ w', Below w.heap.size w w' → Calls Tryz.prog 5 #[.agg #[.slice a ls.length c, .slice a' lw.length c'], recV r (.slice pa r.lock.length pc)] w' fun e w'' => diskN w'.heap.size w'' (Lk.putP ⟨ls, lw⟩ r) e ∧ Below w'.heap.size w' w'') := fun w' hb => put_any _ _ ls lw r _ w' (hE.below hb) (hS.below hb) (hW.below hb) (hP.below hb)
  have H2 : Hid (∀ w', Below w.heap.size w w' → Calls Tryz.prog 6 #[.agg #[.slice a ls.length c, .slice a' lw.length c']] w' fun e w'' => diskN w'.heap.size w'' (Lk.syncP ⟨ls, lw⟩) e ∧ Below w'.heap.size w' w'') := fun w' hb => sync_any _ _ ls lw w' (hE.below hb) (hS.below hb) (hW.below hb)
  have H3 : Hid (∀ w', Below w.heap.size w w' → Calls Tryz.prog 7 #[.agg #[.slice a ls.length c, .slice a' lw.length c'], .int .i64 (n : Int)] w' fun e w'' => diskN w'.heap.size w'' (Lk.crashP ⟨ls, lw⟩ (n : Int)) e ∧ Below w'.heap.size w' w'') := fun w' hb => crash_any _ _ ls lw (n : Int) w' (hE.below hb) (hS.below hb) (hW.below hb)
  have H4 : Hid (∀ w', Below w.heap.size w w' → Calls Tryz.prog 8 #[.agg #[.slice a ls.length c, .slice a' lw.length c']] w' fun e w'' => recovN w'.heap.size w'' (Lk.recovP ⟨ls, lw⟩) e ∧ Below w'.heap.size w' w'') := fun w' hb => recover_any _ _ ls lw w' (hE.below hb) (hS.below hb) (hW.below hb)
  have H5 : Hid (∀ w', Below w.heap.size w w' → Calls Tryz.prog 9 #[.agg #[.slice a ls.length c, .slice a' lw.length c']] w' fun e w'' => e = .returned (.int .i64 (Lk.chkDisk ⟨ls, lw⟩)) ∧ Below w'.heap.size w' w'') := fun w' hb => checkDiskR_any _ _ ls lw w' (hE.below hb) (hS.below hb) (hW.below hb)
  have HCk : Hid (∀ w', Below w.heap.size w w' → Calls Tryz.prog 11 #[.agg #[.slice a ls.length c, .slice a' lw.length c']] w' fun e w'' => e = .returned (.int .i64 (Lk.chkDisk ⟨ls, lw⟩)) ∧ Below w'.heap.size w' w'') := fun w' hb => checkDisk_any _ _ ls lw w' (hE.below hb) (hS.below hb) (hW.below hb)
  have HFi : Hid (∀ w', Below w.heap.size w w' → Calls Tryz.prog 10 #[] w' fun e w'' => e = .returned (.bool true) ∧ Below w'.heap.size w' w'') := fun w' hb => filed_any w' (hE.below hb)
  have HSm : Hid (∀ w', Below w.heap.size w w' → Calls Tryz.prog 12 #[.agg #[.slice a ls.length c, .slice a' lw.length c'], .agg #[.slice xa xl.length xc, .slice ya xm.length yc]] w' fun e w'' => e = .returned (.bool (Lk.sameDisk ⟨ls, lw⟩ ⟨xl, xm⟩)) ∧ Below w'.heap.size w' w'') := fun w' hb => sameDisk_any _ _ _ _ ls lw xl xm w' (hS.below hb) (hW.below hb) (hX.below hb) (hY.below hb)
  have HSR : Hid (∀ w', Below w.heap.size w w' → Calls Tryz.prog 13 #[.agg #[.slice a ls.length c, .slice a' lw.length c'], .agg #[.slice xa xl.length xc, .slice ya xm.length yc]] w' fun e w'' => e = .returned (.bool (Lk.sameDisk ⟨ls, lw⟩ ⟨xl, xm⟩)) ∧ Below w'.heap.size w' w'') := fun w' hb => sameDiskR_any _ _ _ _ ls lw xl xm w' (hS.below hb) (hW.below hb) (hX.below hb) (hY.below hb)
  have hsum : ls.length + lw.length ≤ 60000 := chk_size hok
  have H6 : Hid (∀ w', Below w.heap.size w w' → Calls Tryz.prog 14 #[.agg #[.slice a ls.length c, .slice a' lw.length c'], recV r (.slice pa r.lock.length pc)] w' fun e w'' => diskR w'' (Lk.putP ⟨ls, lw⟩ r) e ∧ Below w'.heap.size w' w'') := fun w' hb => by
    rw [show Lk.putP ⟨ls, lw⟩ r = Lk.putOn ⟨ls, lw⟩ r from by unfold Lk.putP; rw [if_pos hok]]
    exact putOnR_any _ _ ls lw r _ w' (hE.below hb) (hS.below hb) (hW.below hb) (hP.below hb) hwf
  have H7 : Hid (∀ w', Below w.heap.size w w' → Calls Tryz.prog 15 #[.agg #[.slice a ls.length c, .slice a' lw.length c']] w' fun e w'' => diskR w'' (Lk.syncP ⟨ls, lw⟩) e ∧ Below w'.heap.size w' w'') := fun w' hb => by
    rw [show Lk.syncP ⟨ls, lw⟩ = Lk.synced ⟨ls, lw⟩ from by unfold Lk.syncP; rw [if_pos hok]]
    exact syncedR_any _ _ ls lw w' (hE.below hb) (hS.below hb) (hW.below hb) hsum
  have H8 : Hid (∀ w', Below w.heap.size w w' → Calls Tryz.prog 16 #[.agg #[.slice a ls.length c, .slice a' lw.length c']] w' fun e w'' => recovR w'' ((Lk.recovP ⟨ls, lw⟩).1, (Lk.recovP ⟨ls, lw⟩).2.1) e ∧ Below w'.heap.size w' w'') := fun w' hb => by
    rw [show Lk.recovP ⟨ls, lw⟩ = ((Lk.recov ⟨ls, lw⟩).1, (Lk.recov ⟨ls, lw⟩).2, 0) from by unfold Lk.recovP; rw [if_pos hok]]
    exact recoveredR_any _ _ ls lw w' (hE.below hb) (hS.below hb) (hW.below hb) hsum
  have hR0 : Lk.recovP ⟨ls, lw⟩ = ((Lk.recov ⟨ls, lw⟩).1, (Lk.recov ⟨ls, lw⟩).2, 0) := by unfold Lk.recovP; rw [if_pos hok]
  rw [hR0] at H4 H8
  simp only at H8
  have hrl : (Lk.recov ⟨ls, lw⟩).2.length ≤ 400 := by
    unfold Lk.recov
    have h1 := (Lk.lines_len ls 200).2
    have h2 := (Lk.lines_len lw (200 - (Lk.linesOf ls 200).1.length)).2
    simp only [List.length_append]
    omega
  rw [crash_ok hok hnl] at H3
  simp only at H3
  obtain ⟨lt, hlt⟩ : ∃ lt, lt = lw.take n := ⟨_, rfl⟩
  rw [← hlt] at H3
  have HLt : Hid (lt = lw.take n) := hlt
  clear hlt
  generalize Lk.putP ⟨ls, lw⟩ r = QA at H1 H6
  obtain ⟨⟨DAs, DAw⟩, EA⟩ := QA
  generalize Lk.syncP ⟨ls, lw⟩ = QB at H2 H7
  obtain ⟨⟨DBs, DBw⟩, EB⟩ := QB
  generalize Lk.recov ⟨ls, lw⟩ = QR at H4 H8 hrl
  obtain ⟨⟨DRs, DRw⟩, LR⟩ := QR
  simp only at hrl
  rw [hok] at H5 HCk
  clear hR0
  generalize Lk.sameDisk ⟨ls, lw⟩ ⟨xl, xm⟩ = SB at HSm HSR
  clear hE hS hW hX hY hP
  clear hok hwf
  obtain ⟨r1, r2, r3, r4, r5, r6, r7⟩ := r
  unfold recV at H1 H6 ⊢
  simp only at H1 H6 ⊢
  have HB0 : Hid (Below w.heap.size w (((w.alloc (.cells #[.slice a ls.length c, .slice a' lw.length c'] 24)).alloc (.cells #[.int .i64 r1, .int .i64 r2, .int .i64 r3, .int .i64 r4, .bool r5, .int .i64 r6, .slice pa r7.length pc] 29)).alloc (.cells #[.slice xa xl.length xc, .slice ya xm.length yc] 24))) := (((Below.refl _ w).alloc (Nat.le_refl _) _).alloc (by simp) _).alloc (by simp; omega) _
  have KD0 : Hid (Blk (((w.alloc (.cells #[.slice a ls.length c, .slice a' lw.length c'] 24)).alloc (.cells #[.int .i64 r1, .int .i64 r2, .int .i64 r3, .int .i64 r4, .bool r5, .int .i64 r6, .slice pa r7.length pc] 29)).alloc (.cells #[.slice xa xl.length xc, .slice ya xm.length yc] 24)) w.heap.size #[.slice a ls.length c, .slice a' lw.length c'] 24) := ((blk_alloc w _ _).below ((Below.refl _ _).alloc (Nat.le_refl _) _)).below ((Below.refl _ _).alloc (Nat.le_refl _) _)
  have RC0 : Hid (RecAt (((w.alloc (.cells #[.slice a ls.length c, .slice a' lw.length c'] 24)).alloc (.cells #[.int .i64 r1, .int .i64 r2, .int .i64 r3, .int .i64 r4, .bool r5, .int .i64 r6, .slice pa r7.length pc] 29)).alloc (.cells #[.slice xa xl.length xc, .slice ya xm.length yc] 24)) (w.heap.size + 1) r1 r2 r3 r4 r5 r6 (.slice pa r7.length pc)) := by
    have := recAt_alloc (w.alloc (.cells #[.slice a ls.length c, .slice a' lw.length c'] 24)) r1 r2 r3 r4 r5 r6 (.slice pa r7.length pc)
    rw [World.size_alloc] at this
    exact this.below ((Below.refl _ _).alloc (Nat.le_refl _) _)
  have KX0 : Hid (Blk (((w.alloc (.cells #[.slice a ls.length c, .slice a' lw.length c'] 24)).alloc (.cells #[.int .i64 r1, .int .i64 r2, .int .i64 r3, .int .i64 r4, .bool r5, .int .i64 r6, .slice pa r7.length pc] 29)).alloc (.cells #[.slice xa xl.length xc, .slice ya xm.length yc] 24)) (w.heap.size + 1 + 1) #[.slice xa xl.length xc, .slice ya xm.length yc] 24) := by
    have := blk_alloc ((w.alloc (.cells #[.slice a ls.length c, .slice a' lw.length c'] 24)).alloc (.cells #[.int .i64 r1, .int .i64 r2, .int .i64 r3, .int .i64 r4, .bool r5, .int .i64 r6, .slice pa r7.length pc] 29)) #[.slice xa xl.length xc, .slice ya xm.length yc] 24
    rwa [World.size_alloc, World.size_alloc] at this
  go_enter Tryz.func3, Tryz.ntmps3
  have k0 := KD0.out.cell 0
  have k1 := KD0.out.cell 1
  simp only [List.getElem?_toArray, List.getElem?_cons_zero, List.getElem?_cons_succ] at k0 k1
  obtain ⟨c0, c1, c2, c3, c4, c5, c6, c7⟩ := RC0.out
  go_wp2_with fail
  clear k0 k1
  clear c0 c1 c2 c3 c4 c5 c6 c7
  refine (H1.out _ HB0.out).mono ?_
  rintro e w1 ⟨⟨va, vb, rfl, hva, hvb⟩, hb⟩
  simp only at hva hvb ⊢
  obtain ⟨a1, c1, rfl⟩ := bytes_slice hva.1
  obtain ⟨b1, d1, rfl⟩ := bytes_slice hvb.1
  have hbA : Below (((w.alloc (.cells #[.slice a ls.length c, .slice a' lw.length c'] 24)).alloc (.cells #[.int .i64 r1, .int .i64 r2, .int .i64 r3, .int .i64 r4, .bool r5, .int .i64 r6, .slice pa r7.length pc] 29)).alloc (.cells #[.slice xa xl.length xc, .slice ya xm.length yc] 24)).heap.size (((w.alloc (.cells #[.slice a ls.length c, .slice a' lw.length c'] 24)).alloc (.cells #[.int .i64 r1, .int .i64 r2, .int .i64 r3, .int .i64 r4, .bool r5, .int .i64 r6, .slice pa r7.length pc] 29)).alloc (.cells #[.slice xa xl.length xc, .slice ya xm.length yc] 24)) (w1.alloc (.cells #[.slice a1 DAs.length c1, .slice b1 DAw.length d1] 24)) := hb.alloc hb.size _
  have hbC : Below w1.heap.size w1 (w1.alloc (.cells #[.slice a1 DAs.length c1, .slice b1 DAw.length d1] 24)) := (Below.refl _ _).alloc (Nat.le_refl _) _
  have HB1 : Hid (Below w.heap.size w (w1.alloc (.cells #[.slice a1 DAs.length c1, .slice b1 DAw.length d1] 24))) := HB0.out.trans (hbA.mono HB0.out.size)
  have KD1 : Hid (Blk (w1.alloc (.cells #[.slice a1 DAs.length c1, .slice b1 DAw.length d1] 24)) w.heap.size #[.slice a ls.length c, .slice a' lw.length c'] 24) := KD0.out.below hbA
  have RC1 : Hid (RecAt (w1.alloc (.cells #[.slice a1 DAs.length c1, .slice b1 DAw.length d1] 24)) (w.heap.size + 1) r1 r2 r3 r4 r5 r6 (.slice pa r7.length pc)) := RC0.out.below hbA
  have KX1 : Hid (Blk (w1.alloc (.cells #[.slice a1 DAs.length c1, .slice b1 DAw.length d1] 24)) (w.heap.size + 1 + 1) #[.slice xa xl.length xc, .slice ya xm.length yc] 24) := KX0.out.below hbA
  have DA1 : Hid (DskAt (w1.alloc (.cells #[.slice a1 DAs.length c1, .slice b1 DAw.length d1] 24)) w1.heap.size DAs DAw) := dsk_new hva.1 hvb.1
  clear hva hvb hb hbA hbC H1 HB0 KD0 RC0 KX0
  go_upto_region 2 with fail
  generalize (w1.alloc (.cells #[.slice a1 DAs.length c1, .slice b1 DAw.length d1] 24)) = W1 at HB1 KD1 RC1 KX1 DA1 ⊢
  generalize w1.heap.size = gDA at DA1 ⊢
  have k0 := KD1.out.cell 0
  have k1 := KD1.out.cell 1
  simp only [List.getElem?_toArray, List.getElem?_cons_zero, List.getElem?_cons_succ] at k0 k1
  go_wp2_with fail
  clear k0 k1
  refine (H2.out _ HB1.out).mono ?_
  rintro e w2 ⟨⟨va, vb, rfl, hva, hvb⟩, hb⟩
  simp only at hva hvb ⊢
  obtain ⟨a2, c2, rfl⟩ := bytes_slice hva.1
  obtain ⟨b2, d2, rfl⟩ := bytes_slice hvb.1
  have hbA : Below W1.heap.size W1 (w2.alloc (.cells #[.slice a2 DBs.length c2, .slice b2 DBw.length d2] 24)) := hb.alloc hb.size _
  have hbC : Below w2.heap.size w2 (w2.alloc (.cells #[.slice a2 DBs.length c2, .slice b2 DBw.length d2] 24)) := (Below.refl _ _).alloc (Nat.le_refl _) _
  have HB2 : Hid (Below w.heap.size w (w2.alloc (.cells #[.slice a2 DBs.length c2, .slice b2 DBw.length d2] 24))) := HB1.out.trans (hbA.mono HB1.out.size)
  have KD2 : Hid (Blk (w2.alloc (.cells #[.slice a2 DBs.length c2, .slice b2 DBw.length d2] 24)) w.heap.size #[.slice a ls.length c, .slice a' lw.length c'] 24) := KD1.out.below hbA
  have RC2 : Hid (RecAt (w2.alloc (.cells #[.slice a2 DBs.length c2, .slice b2 DBw.length d2] 24)) (w.heap.size + 1) r1 r2 r3 r4 r5 r6 (.slice pa r7.length pc)) := RC1.out.below hbA
  have KX2 : Hid (Blk (w2.alloc (.cells #[.slice a2 DBs.length c2, .slice b2 DBw.length d2] 24)) (w.heap.size + 1 + 1) #[.slice xa xl.length xc, .slice ya xm.length yc] 24) := KX1.out.below hbA
  have DA2 : Hid (DskAt (w2.alloc (.cells #[.slice a2 DBs.length c2, .slice b2 DBw.length d2] 24)) gDA DAs DAw) := DA1.out.below hbA
  have DB2 : Hid (DskAt (w2.alloc (.cells #[.slice a2 DBs.length c2, .slice b2 DBw.length d2] 24)) w2.heap.size DBs DBw) := dsk_new hva.1 hvb.1
  clear hva hvb hb hbA hbC H2 HB1 KD1 RC1 KX1 DA1
  go_upto_region 3 with fail
  generalize (w2.alloc (.cells #[.slice a2 DBs.length c2, .slice b2 DBw.length d2] 24)) = W2 at HB2 KD2 RC2 KX2 DA2 DB2 ⊢
  generalize w2.heap.size = gDB at DB2 ⊢
  have k0 := KD2.out.cell 0
  have k1 := KD2.out.cell 1
  simp only [List.getElem?_toArray, List.getElem?_cons_zero, List.getElem?_cons_succ] at k0 k1
  go_wp2_with fail
  clear k0 k1
  refine (H3.out _ HB2.out).mono ?_
  rintro e w3 ⟨⟨va, vb, rfl, hva, hvb⟩, hb⟩
  simp only at hva hvb ⊢
  obtain ⟨a3, c3, rfl⟩ := bytes_slice hva.1
  obtain ⟨b3, d3, rfl⟩ := bytes_slice hvb.1
  have hbA : Below W2.heap.size W2 (w3.alloc (.cells #[.slice a3 ls.length c3, .slice b3 lt.length d3] 24)) := hb.alloc hb.size _
  have hbC : Below w3.heap.size w3 (w3.alloc (.cells #[.slice a3 ls.length c3, .slice b3 lt.length d3] 24)) := (Below.refl _ _).alloc (Nat.le_refl _) _
  have HB3 : Hid (Below w.heap.size w (w3.alloc (.cells #[.slice a3 ls.length c3, .slice b3 lt.length d3] 24))) := HB2.out.trans (hbA.mono HB2.out.size)
  have KD3 : Hid (Blk (w3.alloc (.cells #[.slice a3 ls.length c3, .slice b3 lt.length d3] 24)) w.heap.size #[.slice a ls.length c, .slice a' lw.length c'] 24) := KD2.out.below hbA
  have RC3 : Hid (RecAt (w3.alloc (.cells #[.slice a3 ls.length c3, .slice b3 lt.length d3] 24)) (w.heap.size + 1) r1 r2 r3 r4 r5 r6 (.slice pa r7.length pc)) := RC2.out.below hbA
  have KX3 : Hid (Blk (w3.alloc (.cells #[.slice a3 ls.length c3, .slice b3 lt.length d3] 24)) (w.heap.size + 1 + 1) #[.slice xa xl.length xc, .slice ya xm.length yc] 24) := KX2.out.below hbA
  have DA3 : Hid (DskAt (w3.alloc (.cells #[.slice a3 ls.length c3, .slice b3 lt.length d3] 24)) gDA DAs DAw) := DA2.out.below hbA
  have DB3 : Hid (DskAt (w3.alloc (.cells #[.slice a3 ls.length c3, .slice b3 lt.length d3] 24)) gDB DBs DBw) := DB2.out.below hbA
  have DK3 : Hid (DskAt (w3.alloc (.cells #[.slice a3 ls.length c3, .slice b3 lt.length d3] 24)) w3.heap.size ls lt) := dsk_new hva.1 hvb.1
  clear hva hvb hb hbA hbC H3 HB2 KD2 RC2 KX2 DA2 DB2
  go_upto_region 4 with fail
  generalize (w3.alloc (.cells #[.slice a3 ls.length c3, .slice b3 lt.length d3] 24)) = W3 at HB3 KD3 RC3 KX3 DA3 DB3 DK3 ⊢
  generalize w3.heap.size = gDK at DK3 ⊢
  have k0 := KD3.out.cell 0
  have k1 := KD3.out.cell 1
  simp only [List.getElem?_toArray, List.getElem?_cons_zero, List.getElem?_cons_succ] at k0 k1
  go_wp2_with fail
  clear k0 k1
  refine (H4.out _ HB3.out).mono ?_
  rintro e w4 ⟨⟨va, vb, vr, ps4, rfl, hva, hvb, hO, hLk, hm⟩, hb⟩
  simp only at hva hvb ⊢
  have hR : RecsAt w4 vr ps4 := recs_owns rfl (by have h1 := congrArg List.length hm; rw [List.length_map] at h1; simp only at h1; omega) hO (fun q hq => (hLk q hq).1)
  clear hO hLk
  simp only at hm
  obtain ⟨ra4, rc4, rfl⟩ := recs_slice hR
  obtain ⟨a4, c4, rfl⟩ := bytes_slice hva.1
  obtain ⟨b4, d4, rfl⟩ := bytes_slice hvb.1
  have hbA : Below W3.heap.size W3 (w4.alloc (.cells #[.slice a4 DRs.length c4, .slice b4 DRw.length d4] 24)) := hb.alloc hb.size _
  have hbC : Below w4.heap.size w4 (w4.alloc (.cells #[.slice a4 DRs.length c4, .slice b4 DRw.length d4] 24)) := (Below.refl _ _).alloc (Nat.le_refl _) _
  have HB4 : Hid (Below w.heap.size w (w4.alloc (.cells #[.slice a4 DRs.length c4, .slice b4 DRw.length d4] 24))) := HB3.out.trans (hbA.mono HB3.out.size)
  have KD4 : Hid (Blk (w4.alloc (.cells #[.slice a4 DRs.length c4, .slice b4 DRw.length d4] 24)) w.heap.size #[.slice a ls.length c, .slice a' lw.length c'] 24) := KD3.out.below hbA
  have RC4 : Hid (RecAt (w4.alloc (.cells #[.slice a4 DRs.length c4, .slice b4 DRw.length d4] 24)) (w.heap.size + 1) r1 r2 r3 r4 r5 r6 (.slice pa r7.length pc)) := RC3.out.below hbA
  have KX4 : Hid (Blk (w4.alloc (.cells #[.slice a4 DRs.length c4, .slice b4 DRw.length d4] 24)) (w.heap.size + 1 + 1) #[.slice xa xl.length xc, .slice ya xm.length yc] 24) := KX3.out.below hbA
  have DA4 : Hid (DskAt (w4.alloc (.cells #[.slice a4 DRs.length c4, .slice b4 DRw.length d4] 24)) gDA DAs DAw) := DA3.out.below hbA
  have DB4 : Hid (DskAt (w4.alloc (.cells #[.slice a4 DRs.length c4, .slice b4 DRw.length d4] 24)) gDB DBs DBw) := DB3.out.below hbA
  have DK4 : Hid (DskAt (w4.alloc (.cells #[.slice a4 DRs.length c4, .slice b4 DRw.length d4] 24)) gDK ls lt) := DK3.out.below hbA
  have DR4 : Hid (DskAt (w4.alloc (.cells #[.slice a4 DRs.length c4, .slice b4 DRw.length d4] 24)) w4.heap.size DRs DRw) := dsk_new hva.1 hvb.1
  have RRDR4 : Hid (RecsAt (w4.alloc (.cells #[.slice a4 DRs.length c4, .slice b4 DRw.length d4] 24)) (.slice ra4 ps4.length rc4) ps4) := hR.below hbC
  have HMDR : Hid (ps4.map Prod.fst = LR) := hm
  clear hva hvb hb hbA hbC H4 HB3 KD3 RC3 KX3 DA3 DB3 DK3 hR hm
  go_upto_region 5 with fail
  generalize (w4.alloc (.cells #[.slice a4 DRs.length c4, .slice b4 DRw.length d4] 24)) = W4 at HB4 KD4 RC4 KX4 DA4 DB4 DK4 DR4 RRDR4 ⊢
  generalize w4.heap.size = gDR at DR4 ⊢
  have k0 := KD4.out.cell 0
  have k1 := KD4.out.cell 1
  simp only [List.getElem?_toArray, List.getElem?_cons_zero, List.getElem?_cons_succ] at k0 k1
  go_wp2_with fail
  clear k0 k1
  refine (H5.out _ HB4.out).mono ?_
  rintro e w5 ⟨rfl, hb⟩
  have hbA : Below W4.heap.size W4 (w5.alloc (.cells #[.slice none 0 0, .slice none 0 0] 24)) := hb.alloc hb.size _
  have HB5 : Hid (Below w.heap.size w (w5.alloc (.cells #[.slice none 0 0, .slice none 0 0] 24))) := HB4.out.trans (hbA.mono HB4.out.size)
  have KD5 : Hid (Blk (w5.alloc (.cells #[.slice none 0 0, .slice none 0 0] 24)) w.heap.size #[.slice a ls.length c, .slice a' lw.length c'] 24) := KD4.out.below hbA
  have RC5 : Hid (RecAt (w5.alloc (.cells #[.slice none 0 0, .slice none 0 0] 24)) (w.heap.size + 1) r1 r2 r3 r4 r5 r6 (.slice pa r7.length pc)) := RC4.out.below hbA
  have KX5 : Hid (Blk (w5.alloc (.cells #[.slice none 0 0, .slice none 0 0] 24)) (w.heap.size + 1 + 1) #[.slice xa xl.length xc, .slice ya xm.length yc] 24) := KX4.out.below hbA
  have DA5 : Hid (DskAt (w5.alloc (.cells #[.slice none 0 0, .slice none 0 0] 24)) gDA DAs DAw) := DA4.out.below hbA
  have DB5 : Hid (DskAt (w5.alloc (.cells #[.slice none 0 0, .slice none 0 0] 24)) gDB DBs DBw) := DB4.out.below hbA
  have DK5 : Hid (DskAt (w5.alloc (.cells #[.slice none 0 0, .slice none 0 0] 24)) gDK ls lt) := DK4.out.below hbA
  have DR5 : Hid (DskAt (w5.alloc (.cells #[.slice none 0 0, .slice none 0 0] 24)) gDR DRs DRw) := DR4.out.below hbA
  have RRDR5 : Hid (RecsAt (w5.alloc (.cells #[.slice none 0 0, .slice none 0 0] 24)) (.slice ra4 ps4.length rc4) ps4) := RRDR4.out.below hbA
  have DN5 : Hid (DskAt (w5.alloc (.cells #[.slice none 0 0, .slice none 0 0] 24)) w5.heap.size [] []) := dsk_new (bytes_none _) (bytes_none _)
  clear hb hbA H5 HB4 KD4 RC4 KX4 DA4 DB4 DK4 DR4 RRDR4
  go_upto_region 7 with fail
  generalize (w5.alloc (.cells #[.slice none 0 0, .slice none 0 0] 24)) = W5 at HB5 KD5 RC5 KX5 DA5 DB5 DK5 DR5 RRDR5 DN5 ⊢
  generalize w5.heap.size = gDN at DN5 ⊢
  have S0 : Hid (W5.drew.cell? ⟨w.heap.size, 0, none⟩ = some (.slice a ls.length c) ∧ W5.drew.cell? ⟨w.heap.size, 1, none⟩ = some (.slice a' lw.length c') ∧ W5.drew.cell? ⟨w.heap.size + 1 + 1, 0, none⟩ = some (.slice xa xl.length xc) ∧ W5.drew.cell? ⟨w.heap.size + 1 + 1, 1, none⟩ = some (.slice ya xm.length yc) ∧ Hid (Below W5.heap.size W5 W5.drew)) := ⟨KD5.out.cell 0, KD5.out.cell 1, KX5.out.cell 0, KX5.out.cell 1, (Below.refl _ W5).drew⟩
  have KP : Hid (∀ x y : World, Below x.heap.size x y → (x.cell? ⟨w.heap.size, 0, none⟩ = some (.slice a ls.length c) ∧ x.cell? ⟨w.heap.size, 1, none⟩ = some (.slice a' lw.length c') ∧ x.cell? ⟨w.heap.size + 1 + 1, 0, none⟩ = some (.slice xa xl.length xc) ∧ x.cell? ⟨w.heap.size + 1 + 1, 1, none⟩ = some (.slice ya xm.length yc) ∧ Hid (Below W5.heap.size W5 x)) → (y.cell? ⟨w.heap.size, 0, none⟩ = some (.slice a ls.length c) ∧ y.cell? ⟨w.heap.size, 1, none⟩ = some (.slice a' lw.length c') ∧ y.cell? ⟨w.heap.size + 1 + 1, 0, none⟩ = some (.slice xa xl.length xc) ∧ y.cell? ⟨w.heap.size + 1 + 1, 1, none⟩ = some (.slice ya xm.length yc) ∧ Hid (Below W5.heap.size W5 y))) := fun x y hb h => by
    obtain ⟨h1, h2, h3, h4, hB⟩ := h
    have e : ∀ b o v, x.cell? ⟨b, o, none⟩ = some v → y.cell? ⟨b, o, none⟩ = some v := fun b o v hc => (hb.cell (p := ⟨b, o, none⟩) (World.block_lt_of_cell? x _ hc)).trans hc
    exact ⟨e _ _ _ h1, e _ _ _ h2, e _ _ _ h3, e _ _ _ h4, hB.out.trans (hb.mono hB.out.size)⟩
  have SP : Hid (∀ x : World, (x.cell? ⟨w.heap.size, 0, none⟩ = some (.slice a ls.length c) ∧ x.cell? ⟨w.heap.size, 1, none⟩ = some (.slice a' lw.length c') ∧ x.cell? ⟨w.heap.size + 1 + 1, 0, none⟩ = some (.slice xa xl.length xc) ∧ x.cell? ⟨w.heap.size + 1 + 1, 1, none⟩ = some (.slice ya xm.length yc) ∧ Hid (Below W5.heap.size W5 x)) → Below w.heap.size w x) := fun x h => HB5.out.trans (h.2.2.2.2.out.mono HB5.out.size)
  have SQ : Hid (∀ x : World, (x.cell? ⟨w.heap.size, 0, none⟩ = some (.slice a ls.length c) ∧ x.cell? ⟨w.heap.size, 1, none⟩ = some (.slice a' lw.length c') ∧ x.cell? ⟨w.heap.size + 1 + 1, 0, none⟩ = some (.slice xa xl.length xc) ∧ x.cell? ⟨w.heap.size + 1 + 1, 1, none⟩ = some (.slice ya xm.length yc) ∧ Hid (Below W5.heap.size W5 x)) → Below W5.heap.size W5 x) := fun x h => h.2.2.2.2.out
  go_region_held3 (fun w' => w'.cell? ⟨w.heap.size, 0, none⟩ = some (.slice a ls.length c) ∧ w'.cell? ⟨w.heap.size, 1, none⟩ = some (.slice a' lw.length c') ∧ w'.cell? ⟨w.heap.size + 1 + 1, 0, none⟩ = some (.slice xa xl.length xc) ∧ w'.cell? ⟨w.heap.size + 1 + 1, 1, none⟩ = some (.slice ya xm.length yc) ∧ Hid (Below W5.heap.size W5 w')) (first | exact KP.out _ _ (by assumption) (by assumption) | exact S0.out)
    (first
      | (go_at_call 10; refine (HFi.out _ (SP.out _ (by assumption))).mono ?_; rintro e y ⟨rfl, hby⟩)
      | (go_at_call 11; refine (HCk.out _ (SP.out _ (by assumption))).mono ?_; rintro e y ⟨rfl, hby⟩)
      | (go_at_call 12; refine (HSm.out _ (SP.out _ (by assumption))).mono ?_; rintro e y ⟨rfl, hby⟩)
      | (go_at_call 13; refine (HSR.out _ (SP.out _ (by assumption))).mono ?_; rintro e y ⟨rfl, hby⟩))
  have HB6 : Hid (Below w.heap.size w y) := SP.out _ (by assumption)
  have hb6 : Below W5.heap.size W5 y := SQ.out _ (by assumption)
  have KD6 : Hid (Blk y w.heap.size #[.slice a ls.length c, .slice a' lw.length c'] 24) := KD5.out.below hb6
  have RC6 : Hid (RecAt y (w.heap.size + 1) r1 r2 r3 r4 r5 r6 (.slice pa r7.length pc)) := RC5.out.below hb6
  have KX6 : Hid (Blk y (w.heap.size + 1 + 1) #[.slice xa xl.length xc, .slice ya xm.length yc] 24) := KX5.out.below hb6
  have DA6 : Hid (DskAt y gDA DAs DAw) := DA5.out.below hb6
  have DB6 : Hid (DskAt y gDB DBs DBw) := DB5.out.below hb6
  have DK6 : Hid (DskAt y gDK ls lt) := DK5.out.below hb6
  have DR6 : Hid (DskAt y gDR DRs DRw) := DR5.out.below hb6
  have RRDR6 : Hid (RecsAt y (.slice ra4 ps4.length rc4) ps4) := RRDR5.out.below hb6
  have DN6 : Hid (DskAt y gDN [] []) := DN5.out.below hb6
  clear hb6 S0 KP SP SQ HB5 KD5 RC5 KX5 DA5 DB5 DK5 DR5 RRDR5 DN5
  clear HFi HCk HSm HSR
  have k0 := KD6.out.cell 0
  have k1 := KD6.out.cell 1
  simp only [List.getElem?_toArray, List.getElem?_cons_zero, List.getElem?_cons_succ] at k0 k1
  obtain ⟨c0, c1, c2, c3, c4, c5, c6, c7⟩ := RC6.out
  go_wp2_with fail
  clear k0 k1
  clear c0 c1 c2 c3 c4 c5 c6 c7
  refine (H6.out _ HB6.out).mono ?_
  rintro e w7 ⟨⟨va, vb, rfl, hva, hvb⟩, hb⟩
  simp only at hva hvb ⊢
  obtain ⟨a7, c7, rfl⟩ := bytes_slice hva
  obtain ⟨b7, d7, rfl⟩ := bytes_slice hvb
  have hbA : Below y.heap.size y (w7.alloc (.cells #[.slice a7 DAs.length c7, .slice b7 DAw.length d7] 24)) := hb.alloc hb.size _
  have hbC : Below w7.heap.size w7 (w7.alloc (.cells #[.slice a7 DAs.length c7, .slice b7 DAw.length d7] 24)) := (Below.refl _ _).alloc (Nat.le_refl _) _
  have HB7 : Hid (Below w.heap.size w (w7.alloc (.cells #[.slice a7 DAs.length c7, .slice b7 DAw.length d7] 24))) := HB6.out.trans (hbA.mono HB6.out.size)
  have KD7 : Hid (Blk (w7.alloc (.cells #[.slice a7 DAs.length c7, .slice b7 DAw.length d7] 24)) w.heap.size #[.slice a ls.length c, .slice a' lw.length c'] 24) := KD6.out.below hbA
  have RC7 : Hid (RecAt (w7.alloc (.cells #[.slice a7 DAs.length c7, .slice b7 DAw.length d7] 24)) (w.heap.size + 1) r1 r2 r3 r4 r5 r6 (.slice pa r7.length pc)) := RC6.out.below hbA
  have KX7 : Hid (Blk (w7.alloc (.cells #[.slice a7 DAs.length c7, .slice b7 DAw.length d7] 24)) (w.heap.size + 1 + 1) #[.slice xa xl.length xc, .slice ya xm.length yc] 24) := KX6.out.below hbA
  have DA7 : Hid (DskAt (w7.alloc (.cells #[.slice a7 DAs.length c7, .slice b7 DAw.length d7] 24)) gDA DAs DAw) := DA6.out.below hbA
  have DB7 : Hid (DskAt (w7.alloc (.cells #[.slice a7 DAs.length c7, .slice b7 DAw.length d7] 24)) gDB DBs DBw) := DB6.out.below hbA
  have DK7 : Hid (DskAt (w7.alloc (.cells #[.slice a7 DAs.length c7, .slice b7 DAw.length d7] 24)) gDK ls lt) := DK6.out.below hbA
  have DR7 : Hid (DskAt (w7.alloc (.cells #[.slice a7 DAs.length c7, .slice b7 DAw.length d7] 24)) gDR DRs DRw) := DR6.out.below hbA
  have RRDR7 : Hid (RecsAt (w7.alloc (.cells #[.slice a7 DAs.length c7, .slice b7 DAw.length d7] 24)) (.slice ra4 ps4.length rc4) ps4) := RRDR6.out.below hbA
  have DN7 : Hid (DskAt (w7.alloc (.cells #[.slice a7 DAs.length c7, .slice b7 DAw.length d7] 24)) gDN [] []) := DN6.out.below hbA
  have DP7 : Hid (DskAt (w7.alloc (.cells #[.slice a7 DAs.length c7, .slice b7 DAw.length d7] 24)) w7.heap.size DAs DAw) := dsk_new hva hvb
  clear hva hvb hb hbA hbC H6 HB6 KD6 RC6 KX6 DA6 DB6 DK6 DR6 RRDR6 DN6
  go_upto_region 12 with fail
  generalize (w7.alloc (.cells #[.slice a7 DAs.length c7, .slice b7 DAw.length d7] 24)) = W7 at HB7 KD7 RC7 KX7 DA7 DB7 DK7 DR7 RRDR7 DN7 DP7 ⊢
  generalize w7.heap.size = gDP at DP7 ⊢
  have k0 := KD7.out.cell 0
  have k1 := KD7.out.cell 1
  simp only [List.getElem?_toArray, List.getElem?_cons_zero, List.getElem?_cons_succ] at k0 k1
  go_wp2_with fail
  clear k0 k1
  refine (H7.out _ HB7.out).mono ?_
  rintro e w8 ⟨⟨va, vb, rfl, hva, hvb⟩, hb⟩
  simp only at hva hvb ⊢
  obtain ⟨a8, c8, rfl⟩ := bytes_slice hva
  obtain ⟨b8, d8, rfl⟩ := bytes_slice hvb
  have hbA : Below W7.heap.size W7 (w8.alloc (.cells #[.slice a8 DBs.length c8, .slice b8 DBw.length d8] 24)) := hb.alloc hb.size _
  have hbC : Below w8.heap.size w8 (w8.alloc (.cells #[.slice a8 DBs.length c8, .slice b8 DBw.length d8] 24)) := (Below.refl _ _).alloc (Nat.le_refl _) _
  have HB8 : Hid (Below w.heap.size w (w8.alloc (.cells #[.slice a8 DBs.length c8, .slice b8 DBw.length d8] 24))) := HB7.out.trans (hbA.mono HB7.out.size)
  have KD8 : Hid (Blk (w8.alloc (.cells #[.slice a8 DBs.length c8, .slice b8 DBw.length d8] 24)) w.heap.size #[.slice a ls.length c, .slice a' lw.length c'] 24) := KD7.out.below hbA
  have RC8 : Hid (RecAt (w8.alloc (.cells #[.slice a8 DBs.length c8, .slice b8 DBw.length d8] 24)) (w.heap.size + 1) r1 r2 r3 r4 r5 r6 (.slice pa r7.length pc)) := RC7.out.below hbA
  have KX8 : Hid (Blk (w8.alloc (.cells #[.slice a8 DBs.length c8, .slice b8 DBw.length d8] 24)) (w.heap.size + 1 + 1) #[.slice xa xl.length xc, .slice ya xm.length yc] 24) := KX7.out.below hbA
  have DA8 : Hid (DskAt (w8.alloc (.cells #[.slice a8 DBs.length c8, .slice b8 DBw.length d8] 24)) gDA DAs DAw) := DA7.out.below hbA
  have DB8 : Hid (DskAt (w8.alloc (.cells #[.slice a8 DBs.length c8, .slice b8 DBw.length d8] 24)) gDB DBs DBw) := DB7.out.below hbA
  have DK8 : Hid (DskAt (w8.alloc (.cells #[.slice a8 DBs.length c8, .slice b8 DBw.length d8] 24)) gDK ls lt) := DK7.out.below hbA
  have DR8 : Hid (DskAt (w8.alloc (.cells #[.slice a8 DBs.length c8, .slice b8 DBw.length d8] 24)) gDR DRs DRw) := DR7.out.below hbA
  have RRDR8 : Hid (RecsAt (w8.alloc (.cells #[.slice a8 DBs.length c8, .slice b8 DBw.length d8] 24)) (.slice ra4 ps4.length rc4) ps4) := RRDR7.out.below hbA
  have DN8 : Hid (DskAt (w8.alloc (.cells #[.slice a8 DBs.length c8, .slice b8 DBw.length d8] 24)) gDN [] []) := DN7.out.below hbA
  have DP8 : Hid (DskAt (w8.alloc (.cells #[.slice a8 DBs.length c8, .slice b8 DBw.length d8] 24)) gDP DAs DAw) := DP7.out.below hbA
  have DS8 : Hid (DskAt (w8.alloc (.cells #[.slice a8 DBs.length c8, .slice b8 DBw.length d8] 24)) w8.heap.size DBs DBw) := dsk_new hva hvb
  clear hva hvb hb hbA hbC H7 HB7 KD7 RC7 KX7 DA7 DB7 DK7 DR7 RRDR7 DN7 DP7
  go_upto_region 13 with fail
  generalize (w8.alloc (.cells #[.slice a8 DBs.length c8, .slice b8 DBw.length d8] 24)) = W8 at HB8 KD8 RC8 KX8 DA8 DB8 DK8 DR8 RRDR8 DN8 DP8 DS8 ⊢
  generalize w8.heap.size = gDS at DS8 ⊢
  have k0 := KD8.out.cell 0
  have k1 := KD8.out.cell 1
  simp only [List.getElem?_toArray, List.getElem?_cons_zero, List.getElem?_cons_succ] at k0 k1
  go_wp2_with fail
  clear k0 k1
  refine (H8.out _ HB8.out).mono ?_
  rintro e w9 ⟨⟨va, vb, vr, ps9, rfl, hva, hvb, hR, hm⟩, hb⟩
  simp only at hva hvb ⊢
  simp only at hm
  obtain ⟨ra9, rc9, rfl⟩ := recs_slice hR
  obtain ⟨a9, c9, rfl⟩ := bytes_slice hva
  obtain ⟨b9, d9, rfl⟩ := bytes_slice hvb
  have hbA : Below W8.heap.size W8 (w9.alloc (.cells #[.slice a9 DRs.length c9, .slice b9 DRw.length d9] 24)) := hb.alloc hb.size _
  have hbC : Below w9.heap.size w9 (w9.alloc (.cells #[.slice a9 DRs.length c9, .slice b9 DRw.length d9] 24)) := (Below.refl _ _).alloc (Nat.le_refl _) _
  have HB9 : Hid (Below w.heap.size w (w9.alloc (.cells #[.slice a9 DRs.length c9, .slice b9 DRw.length d9] 24))) := HB8.out.trans (hbA.mono HB8.out.size)
  have KD9 : Hid (Blk (w9.alloc (.cells #[.slice a9 DRs.length c9, .slice b9 DRw.length d9] 24)) w.heap.size #[.slice a ls.length c, .slice a' lw.length c'] 24) := KD8.out.below hbA
  have RC9 : Hid (RecAt (w9.alloc (.cells #[.slice a9 DRs.length c9, .slice b9 DRw.length d9] 24)) (w.heap.size + 1) r1 r2 r3 r4 r5 r6 (.slice pa r7.length pc)) := RC8.out.below hbA
  have KX9 : Hid (Blk (w9.alloc (.cells #[.slice a9 DRs.length c9, .slice b9 DRw.length d9] 24)) (w.heap.size + 1 + 1) #[.slice xa xl.length xc, .slice ya xm.length yc] 24) := KX8.out.below hbA
  have DA9 : Hid (DskAt (w9.alloc (.cells #[.slice a9 DRs.length c9, .slice b9 DRw.length d9] 24)) gDA DAs DAw) := DA8.out.below hbA
  have DB9 : Hid (DskAt (w9.alloc (.cells #[.slice a9 DRs.length c9, .slice b9 DRw.length d9] 24)) gDB DBs DBw) := DB8.out.below hbA
  have DK9 : Hid (DskAt (w9.alloc (.cells #[.slice a9 DRs.length c9, .slice b9 DRw.length d9] 24)) gDK ls lt) := DK8.out.below hbA
  have DR9 : Hid (DskAt (w9.alloc (.cells #[.slice a9 DRs.length c9, .slice b9 DRw.length d9] 24)) gDR DRs DRw) := DR8.out.below hbA
  have RRDR9 : Hid (RecsAt (w9.alloc (.cells #[.slice a9 DRs.length c9, .slice b9 DRw.length d9] 24)) (.slice ra4 ps4.length rc4) ps4) := RRDR8.out.below hbA
  have DN9 : Hid (DskAt (w9.alloc (.cells #[.slice a9 DRs.length c9, .slice b9 DRw.length d9] 24)) gDN [] []) := DN8.out.below hbA
  have DP9 : Hid (DskAt (w9.alloc (.cells #[.slice a9 DRs.length c9, .slice b9 DRw.length d9] 24)) gDP DAs DAw) := DP8.out.below hbA
  have DS9 : Hid (DskAt (w9.alloc (.cells #[.slice a9 DRs.length c9, .slice b9 DRw.length d9] 24)) gDS DBs DBw) := DS8.out.below hbA
  have DQ9 : Hid (DskAt (w9.alloc (.cells #[.slice a9 DRs.length c9, .slice b9 DRw.length d9] 24)) w9.heap.size DRs DRw) := dsk_new hva hvb
  have RRDQ9 : Hid (RecsAt (w9.alloc (.cells #[.slice a9 DRs.length c9, .slice b9 DRw.length d9] 24)) (.slice ra9 ps9.length rc9) ps9) := hR.below hbC
  have HMDQ : Hid (ps9.map Prod.fst = LR) := hm
  clear hva hvb hb hbA hbC H8 HB8 KD8 RC8 KX8 DA8 DB8 DK8 DR8 RRDR8 DN8 DP8 DS8 hR hm
  go_upto_region 14 with fail
  generalize (w9.alloc (.cells #[.slice a9 DRs.length c9, .slice b9 DRw.length d9] 24)) = W9 at HB9 KD9 RC9 KX9 DA9 DB9 DK9 DR9 RRDR9 DN9 DP9 DS9 DQ9 RRDQ9 ⊢
  generalize w9.heap.size = gDQ at DQ9 ⊢
  obtain ⟨sa, sc, sa', sc', h1, h2, k0, k1⟩ := dsk_open DA9.out
  obtain ⟨ta, tc, ta', tc', h3, h4, m0, m1⟩ := dsk_open DP9.out
  have HST : Hid (Calls Tryz.prog 13 #[.agg #[.slice sa DAs.length sc, .slice sa' DAw.length sc'], .agg #[.slice ta DAs.length tc, .slice ta' DAw.length tc']] W9 fun e w' => e = .returned (.bool true) ∧ Below W9.heap.size W9 w') := sameTrue _ _ _ _ _ _ _ h1 h2 h3 h4
  clear h1 h2 h3 h4
  go_wp2_with fail
  clear k0 k1 m0 m1
  refine HST.out.mono ?_
  rintro e y10 ⟨rfl, hb⟩
  have HB10 : Hid (Below w.heap.size w y10) := HB9.out.trans (hb.mono HB9.out.size)
  have KD10 : Hid (Blk y10 w.heap.size #[.slice a ls.length c, .slice a' lw.length c'] 24) := KD9.out.below hb
  have RC10 : Hid (RecAt y10 (w.heap.size + 1) r1 r2 r3 r4 r5 r6 (.slice pa r7.length pc)) := RC9.out.below hb
  have KX10 : Hid (Blk y10 (w.heap.size + 1 + 1) #[.slice xa xl.length xc, .slice ya xm.length yc] 24) := KX9.out.below hb
  have DA10 : Hid (DskAt y10 gDA DAs DAw) := DA9.out.below hb
  have DB10 : Hid (DskAt y10 gDB DBs DBw) := DB9.out.below hb
  have DK10 : Hid (DskAt y10 gDK ls lt) := DK9.out.below hb
  have DR10 : Hid (DskAt y10 gDR DRs DRw) := DR9.out.below hb
  have RRDR10 : Hid (RecsAt y10 (.slice ra4 ps4.length rc4) ps4) := RRDR9.out.below hb
  have DN10 : Hid (DskAt y10 gDN [] []) := DN9.out.below hb
  have DP10 : Hid (DskAt y10 gDP DAs DAw) := DP9.out.below hb
  have DS10 : Hid (DskAt y10 gDS DBs DBw) := DS9.out.below hb
  have DQ10 : Hid (DskAt y10 gDQ DRs DRw) := DQ9.out.below hb
  have RRDQ10 : Hid (RecsAt y10 (.slice ra9 ps9.length rc9) ps9) := RRDQ9.out.below hb
  clear hb HST HB9 KD9 RC9 KX9 DA9 DB9 DK9 DR9 RRDR9 DN9 DP9 DS9 DQ9 RRDQ9
  obtain ⟨sa, sc, sa', sc', h1, h2, k0, k1⟩ := dsk_open DB10.out
  obtain ⟨ta, tc, ta', tc', h3, h4, m0, m1⟩ := dsk_open DS10.out
  have HST : Hid (Calls Tryz.prog 13 #[.agg #[.slice sa DBs.length sc, .slice sa' DBw.length sc'], .agg #[.slice ta DBs.length tc, .slice ta' DBw.length tc']] y10 fun e w' => e = .returned (.bool true) ∧ Below y10.heap.size y10 w') := sameTrue _ _ _ _ _ _ _ h1 h2 h3 h4
  clear h1 h2 h3 h4
  go_wp2_with fail
  clear k0 k1 m0 m1
  refine HST.out.mono ?_
  rintro e y11 ⟨rfl, hb⟩
  have HB11 : Hid (Below w.heap.size w y11) := HB10.out.trans (hb.mono HB10.out.size)
  have KD11 : Hid (Blk y11 w.heap.size #[.slice a ls.length c, .slice a' lw.length c'] 24) := KD10.out.below hb
  have RC11 : Hid (RecAt y11 (w.heap.size + 1) r1 r2 r3 r4 r5 r6 (.slice pa r7.length pc)) := RC10.out.below hb
  have KX11 : Hid (Blk y11 (w.heap.size + 1 + 1) #[.slice xa xl.length xc, .slice ya xm.length yc] 24) := KX10.out.below hb
  have DA11 : Hid (DskAt y11 gDA DAs DAw) := DA10.out.below hb
  have DB11 : Hid (DskAt y11 gDB DBs DBw) := DB10.out.below hb
  have DK11 : Hid (DskAt y11 gDK ls lt) := DK10.out.below hb
  have DR11 : Hid (DskAt y11 gDR DRs DRw) := DR10.out.below hb
  have RRDR11 : Hid (RecsAt y11 (.slice ra4 ps4.length rc4) ps4) := RRDR10.out.below hb
  have DN11 : Hid (DskAt y11 gDN [] []) := DN10.out.below hb
  have DP11 : Hid (DskAt y11 gDP DAs DAw) := DP10.out.below hb
  have DS11 : Hid (DskAt y11 gDS DBs DBw) := DS10.out.below hb
  have DQ11 : Hid (DskAt y11 gDQ DRs DRw) := DQ10.out.below hb
  have RRDQ11 : Hid (RecsAt y11 (.slice ra9 ps9.length rc9) ps9) := RRDQ10.out.below hb
  clear hb HST HB10 KD10 RC10 KX10 DA10 DB10 DK10 DR10 RRDR10 DN10 DP10 DS10 DQ10 RRDQ10
  obtain ⟨sa, sc, sa', sc', h1, h2, k0, k1⟩ := dsk_open DR11.out
  obtain ⟨ta, tc, ta', tc', h3, h4, m0, m1⟩ := dsk_open DQ11.out
  have HST : Hid (Calls Tryz.prog 13 #[.agg #[.slice sa DRs.length sc, .slice sa' DRw.length sc'], .agg #[.slice ta DRs.length tc, .slice ta' DRw.length tc']] y11 fun e w' => e = .returned (.bool true) ∧ Below y11.heap.size y11 w') := sameTrue _ _ _ _ _ _ _ h1 h2 h3 h4
  clear h1 h2 h3 h4
  go_wp2_with fail
  clear k0 k1 m0 m1
  refine HST.out.mono ?_
  rintro e y12 ⟨rfl, hb⟩
  have HB12 : Hid (Below w.heap.size w y12) := HB11.out.trans (hb.mono HB11.out.size)
  have KD12 : Hid (Blk y12 w.heap.size #[.slice a ls.length c, .slice a' lw.length c'] 24) := KD11.out.below hb
  have RC12 : Hid (RecAt y12 (w.heap.size + 1) r1 r2 r3 r4 r5 r6 (.slice pa r7.length pc)) := RC11.out.below hb
  have KX12 : Hid (Blk y12 (w.heap.size + 1 + 1) #[.slice xa xl.length xc, .slice ya xm.length yc] 24) := KX11.out.below hb
  have DA12 : Hid (DskAt y12 gDA DAs DAw) := DA11.out.below hb
  have DB12 : Hid (DskAt y12 gDB DBs DBw) := DB11.out.below hb
  have DK12 : Hid (DskAt y12 gDK ls lt) := DK11.out.below hb
  have DR12 : Hid (DskAt y12 gDR DRs DRw) := DR11.out.below hb
  have RRDR12 : Hid (RecsAt y12 (.slice ra4 ps4.length rc4) ps4) := RRDR11.out.below hb
  have DN12 : Hid (DskAt y12 gDN [] []) := DN11.out.below hb
  have DP12 : Hid (DskAt y12 gDP DAs DAw) := DP11.out.below hb
  have DS12 : Hid (DskAt y12 gDS DBs DBw) := DS11.out.below hb
  have DQ12 : Hid (DskAt y12 gDQ DRs DRw) := DQ11.out.below hb
  have RRDQ12 : Hid (RecsAt y12 (.slice ra9 ps9.length rc9) ps9) := RRDQ11.out.below hb
  clear hb HST HB11 KD11 RC11 KX11 DA11 DB11 DK11 DR11 RRDR11 DN11 DP11 DS11 DQ11 RRDQ11
  have HEF : Hid (Calls Tryz.prog 17 #[.slice ra4 ps4.length rc4, .slice ra9 ps9.length rc9, .func (.func 18) #[] #[]] y12 fun e w' => e = .returned (.bool true) ∧ Below y12.heap.size y12 w') := recsame _ _ _ _ _ RRDR12.out RRDQ12.out (by rw [HMDR.out, HMDQ.out])
  go_wp2_with fail
  refine HEF.out.mono ?_
  rintro e y13 ⟨rfl, hb⟩
  have HB13 : Hid (Below w.heap.size w y13) := HB12.out.trans (hb.mono HB12.out.size)
  have KD13 : Hid (Blk y13 w.heap.size #[.slice a ls.length c, .slice a' lw.length c'] 24) := KD12.out.below hb
  have RC13 : Hid (RecAt y13 (w.heap.size + 1) r1 r2 r3 r4 r5 r6 (.slice pa r7.length pc)) := RC12.out.below hb
  have KX13 : Hid (Blk y13 (w.heap.size + 1 + 1) #[.slice xa xl.length xc, .slice ya xm.length yc] 24) := KX12.out.below hb
  have DA13 : Hid (DskAt y13 gDA DAs DAw) := DA12.out.below hb
  have DB13 : Hid (DskAt y13 gDB DBs DBw) := DB12.out.below hb
  have DK13 : Hid (DskAt y13 gDK ls lt) := DK12.out.below hb
  have DR13 : Hid (DskAt y13 gDR DRs DRw) := DR12.out.below hb
  have RRDR13 : Hid (RecsAt y13 (.slice ra4 ps4.length rc4) ps4) := RRDR12.out.below hb
  have DN13 : Hid (DskAt y13 gDN [] []) := DN12.out.below hb
  have DP13 : Hid (DskAt y13 gDP DAs DAw) := DP12.out.below hb
  have DS13 : Hid (DskAt y13 gDS DBs DBw) := DS12.out.below hb
  have DQ13 : Hid (DskAt y13 gDQ DRs DRw) := DQ12.out.below hb
  have RRDQ13 : Hid (RecsAt y13 (.slice ra9 ps9.length rc9) ps9) := RRDQ12.out.below hb
  clear hb HEF HB12 KD12 RC12 KX12 DA12 DB12 DK12 DR12 RRDR12 DN12 DP12 DS12 DQ12 RRDQ12
  have k3 := KD13.out.cell 1
  have k4 := KD13.out.cell 0
  simp only [List.getElem?_toArray, List.getElem?_cons_zero, List.getElem?_cons_succ] at k3 k4
  obtain ⟨sa, sc, sa', sc', h1, h2, k0, k1⟩ := dsk_open DK13.out
  have HST : Hid (∀ w', Below y13.heap.size y13 w' → Calls Tryz.prog 13 #[.agg #[.slice sa ls.length sc, .slice sa' lt.length sc'], .agg #[.slice a ls.length c, .slice a' n c']] w' fun e w'' => e = .returned (.bool true) ∧ Below w'.heap.size w' w'') := fun w' hb => sameTrue _ _ _ _ _ ls lt (h1.below hb) (h2.below hb) ((HS.out.below HB13.out).below hb) (by rw [HLt.out]; exact bytes_take ((HW.out.below HB13.out).below hb) n hnl)
  clear h1 h2
  have hnl' : (n : Int) ≤ (lw.length : Int) := by omega
  have hnc : (n : Int) ≤ (c' : Int) := by omega
  have hB0 : Below y13.heap.size y13 y13.drew := (Below.refl _ _).drew
  go_wp2_with fail
  go_region_with (first
    | (go_at_call 13; refine (HST.out _ (by assumption)).mono ?_; rintro e yA ⟨rfl, hbA⟩))
  all_goals
    go_wp2
    go_ret
    exact ⟨rfl, HB13.out.trans ((hB0.trans (hbA.mono hB0.size)).mono HB13.out.size)⟩
end Go.Proofs.YtlnbcgjahjjpfacGreatDoor
