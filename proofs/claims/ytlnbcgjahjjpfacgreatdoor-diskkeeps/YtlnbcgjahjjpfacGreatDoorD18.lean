/- The contract of the document's Recovered. -/
import Derived.Test.YtlnbcgjahjjpfacGreatDoorD12
import Derived.Test.YtlnbcgjahjjpfacGreatDoorMF
import Derived.Test.YtlnbcgjahjjpfacGreatDoorD16
namespace Go.Proofs.YtlnbcgjahjjpfacGreatDoor
open Go.RowKit
theorem recs_off {w : World} {p : Option Addr} {n c : Nat} {ps : List (Lk.Note × Value)} {b : Nat} {a a' : Option Addr} {m m' d d' : Nat} {t : TypeId} (hN : Blk w b #[.slice a m d, .slice a' m' d'] t) (h : RecsAt w (.slice p n c) ps) : ∀ ad, p = some ad → 0 < ps.length → ad.block ≠ b := by
  obtain ⟨_, p', c', e, _, _, h2, h3, _⟩ := h
  simp only [Value.slice.injEq] at e
  obtain ⟨rfl, rfl, rfl⟩ := e
  intro ad ha h0 hb
  obtain ⟨hs, _⟩ := h2 ad ha h0
  cases ps with
  | nil => simp at h0
  | cons q r =>
    have hc := h3 ad ha 0 (.int .i64 q.1.kind) rfl
    obtain ⟨b', o, spot⟩ := ad
    simp only at hs hb
    subst hs hb
    rw [WideShapes.add_plain, Nat.add_zero, hN.cell] at hc
    rcases o with _ | _ | o
    all_goals simp at hc
theorem recs_set {w : World} {p : Option Addr} {n c : Nat} {ps : List (Lk.Note × Value)} {b o : Nat} {u : Value} (h : RecsAt w (.slice p n c) ps) (hrow : ∀ ad, p = some ad → 0 < ps.length → ad.block ≠ b) (hpin : ∀ q ∈ ps, ∀ o' c', q.2 = .slice (some ⟨b, o', none⟩) q.1.lock.length c' → q.1.lock = []) : RecsAt (w.setCell ⟨b, o, none⟩ u) (.slice p n c) ps := by
  obtain ⟨hl, p', c', e, hc, h1, h2, h3, h4⟩ := h
  simp only [Value.slice.injEq] at e
  obtain ⟨rfl, rfl, rfl⟩ := e
  refine ⟨hl, p, c, rfl, hc, h1, fun ad ha h0 => ⟨(h2 ad ha h0).1, by simpa [World.setCell] using (h2 ad ha h0).2⟩, fun ad ha j x hx => ?_, fun q hq => pins_set (h4 q hq) (hpin q hq)⟩
  rw [← h3 ad ha j x hx]
  refine World.cell?_setCell_other _ _ _ _ (fun e => hrow ad ha (flatR_pos hx) ?_)
  have hblk : (ad.add j).block = ad.block := by unfold Addr.add; split <;> rfl
  rw [← hblk, ← e]
theorem recs_set2 {w : World} {p : Option Addr} {n c b : Nat} {ps : List (Lk.Note × Value)} {t : TypeId} (hn : Blk w b #[.slice none 0 0, .slice none 0 0] t) (h : RecsAt w (.slice p n c) ps) (u0 u1 : Value) : RecsAt ((w.setCell ⟨b, 0, none⟩ u0).setCell ⟨b, 1, none⟩ u1) (.slice p n c) ps :=
  recs_set (recs_set h (recs_off hn h) (fun q hq => pins_off hn (recs_pins h q hq))) (recs_off hn h) (fun q hq => pins_off hn (recs_pins h q hq))
theorem below_up {w x : World} (h : Below w.heap.size w x) (o : Obj) : Below w.heap.size w (x.alloc o) := h.alloc h.size o
theorem below_step {w x y : World} (h : Below w.heap.size w x) (h' : Below x.heap.size x y) : Below w.heap.size w y := h.trans (h'.mono h.size)
/-- what Recovered answers -/
def recovR (w : World) (q : Lk.Disk × List Lk.Note) (e : Ending) : Prop := ∃ va vb v ps, e = .returned (.tuple #[.agg #[va, vb], v]) ∧ BytesAt w va q.1.safe ∧ BytesAt w vb q.1.wait ∧ RecsAt w v ps ∧ ps.map Prod.fst = q.2
set_option maxHeartbeats 16000000 in
set_option maxRecDepth 100000 in
theorem recoveredR_any (vs vw : Value) (ls lw : List UInt8) (w : World) (hE : Env w) (hS : BytesAt w vs ls) (hW : BytesAt w vw lw) (hsum : ls.length + lw.length ≤ 60000) :
    Calls Tryz.prog 16 #[.agg #[vs, vw]] w fun e w' => recovR w' (Lk.recov ⟨ls, lw⟩) e ∧ Below w.heap.size w w' := by
  obtain ⟨a, c, rfl⟩ := bytes_slice hS
  obtain ⟨a', c', rfl⟩ := bytes_slice hW
  have hroom := (bytes_room hW).2
  have HE : Hid (Env w) := hE
  have HS : Hid (BytesAt w (.slice a ls.length c) ls) := hS
  have HW : Hid (BytesAt w (.slice a' lw.length c') lw) := hW
  have HB0 : Hid (Below w.heap.size w ((w.alloc (.cells #[.slice a ls.length c, .slice a' lw.length c'] 24)).alloc (.cells #[.slice none 0 0, .slice none 0 0] 24))) := ((Below.refl _ w).alloc (Nat.le_refl _) _).alloc (by simp) _
  have HK0 : Hid (Blk ((w.alloc (.cells #[.slice a ls.length c, .slice a' lw.length c'] 24)).alloc (.cells #[.slice none 0 0, .slice none 0 0] 24)) w.heap.size #[.slice a ls.length c, .slice a' lw.length c'] 24) := (blk_alloc w _ _).below ((Below.refl _ _).alloc (Nat.le_refl _) _)
  have HN0 : Hid (Blk ((w.alloc (.cells #[.slice a ls.length c, .slice a' lw.length c'] 24)).alloc (.cells #[.slice none 0 0, .slice none 0 0] 24)) (w.heap.size + 1) #[.slice none 0 0, .slice none 0 0] 24) := by
    have := blk_alloc (w.alloc (.cells #[.slice a ls.length c, .slice a' lw.length c'] 24)) #[.slice none 0 0, .slice none 0 0] 24
    rwa [World.size_alloc] at this
  have HL1 : Hid (∀ w, Env w → Calls Tryz.prog 31 #[.string ⟨ls.toArray⟩, .int .i64 200] w fun e w' => linedR w.heap.size w' (Lk.linesOf ls 200) e ∧ Below w.heap.size w w') := fun w hE => linesR_any ⟨ls.toArray⟩ (by show ls.toArray.size ≤ 60000; rw [List.size_toArray]; omega) 200 (by decide) w hE
  have HL2 : Hid (∀ k : Nat, k ≤ 200 → ∀ w, Env w → Calls Tryz.prog 31 #[.string ⟨lw.toArray⟩, .int .i64 (200 - (k : Int))] w fun e w' => linedR w.heap.size w' (Lk.linesOf lw (200 - k)) e ∧ Below w.heap.size w w') := fun k hk w hE => by
    have := linesR_any ⟨lw.toArray⟩ (by show lw.toArray.size ≤ 60000; rw [List.size_toArray]; omega) (200 - k) (by omega) w hE
    rwa [show (((200 - k : Nat)) : Int) = 200 - (k : Int) from by omega] at this
  have HQ : Hid (∀ A n1 e1 B n2 e2, Lk.linesOf ls 200 = (A, n1, e1) → Lk.linesOf lw (200 - A.length) = (B, n2, e2) → Lk.recov ⟨ls, lw⟩ = (⟨ls ++ lw.take n2, []⟩, A ++ B)) := fun A n1 e1 B n2 e2 h1 h2 => by
    unfold Lk.recov; simp only [h1, h2]
  have F1 : (Lk.linesOf ls 200).1.length ≤ 200 := (Lk.lines_len _ _).2
  have F2 : Hid (∀ k, (Lk.linesOf lw k).2.1 ≤ lw.length ∧ (Lk.linesOf lw k).1.length ≤ k) := fun k => Lk.lines_len _ _
  have hcv := str_of (HS.out.below HB0.out)
  have HS2 : Hid (∀ w', Below w.heap.size w w' → (convert 22 9 (.slice a' lw.length c')).run Tryz.prog w' = .ok (.string ⟨lw.toArray⟩) w') := fun w' hb => str_of (hW.below hb)
  clear hE hS hW
  generalize Lk.recov ⟨ls, lw⟩ = Q at HQ ⊢
  generalize hA0 : Lk.linesOf ls 200 = LA at HL1 HQ F1
  obtain ⟨A, n1, e1⟩ := LA
  simp only at F1
  generalize (⟨ls.toArray⟩ : ByteArray) = S1 at HL1 hcv
  generalize (⟨lw.toArray⟩ : ByteArray) = S2 at HL2 HS2
  generalize hB0 : Lk.linesOf lw (200 - A.length) = LB at HQ
  obtain ⟨B, n2, e2⟩ := LB
  have HL2' : Hid (∀ w, Env w → Calls Tryz.prog 31 #[.string S2, .int .i64 (200 - (A.length : Int))] w fun e w' => linedR w.heap.size w' (B, n2, e2) e ∧ Below w.heap.size w w') := fun w hE => by
    have := HL2.out A.length F1 w hE
    rwa [hB0] at this
  have hn2 : n2 ≤ lw.length ∧ B.length ≤ 200 - A.length := by have := F2.out (200 - A.length); rwa [hB0] at this
  have HQ' : Hid (Q = (⟨ls ++ lw.take n2, []⟩, A ++ B)) := HQ.out A n1 e1 B n2 e2 rfl (by rw [hB0])
  clear HL2 F2 HQ hA0 hB0
  go_enter Tryz.func16, Tryz.ntmps16
  go_wp2_with fail
  clear hcv
  refine (HL1.out _ (HE.out.below HB0.out)).mono ?_
  rintro e w1 ⟨⟨v1, ps1, rfl, ho1, hl1, hm1⟩, hb1⟩
  simp only at hm1
  have HB1 : Hid (Below w.heap.size w w1) := HB0.out.trans (hb1.mono HB0.out.size)
  have hk := HK0.out.below hb1
  have HK1 : Hid (Blk w1 w.heap.size #[.slice a ls.length c, .slice a' lw.length c'] 24) := hk
  have HN1 : Hid (Blk w1 (w.heap.size + 1) #[.slice none 0 0, .slice none 0 0] 24) := HN0.out.below hb1
  have hpl : ps1.length = A.length := by rw [← hm1, List.length_map]
  have HR1 : Hid (RecsAt w1 v1 ps1) := recs_owns rfl (by omega) ho1 (fun q hq => (hl1 q hq).1)
  have HM1 : Hid (ps1.map Prod.fst = A) := hm1
  obtain ⟨ra, rc, rfl⟩ := slice_of_owns ho1
  rw [hpl] at HR1 ⊢
  have hcv := HS2.out _ HB1.out
  have k1 := hk.cell 1
  simp only [List.getElem?_toArray, List.getElem?_cons_zero, List.getElem?_cons_succ] at k1
  have hal : A.length ≤ 200 := F1
  clear hb1 HB0 HK0 HN0 hk ho1 hl1 hm1 HL1
  go_wp2_with fail
  clear hcv k1
  refine (HL2'.out _ (HE.out.below HB1.out)).mono ?_
  rintro e w2 ⟨⟨v2, ps2, rfl, ho2, hl2, hm2⟩, hb2⟩
  simp only at hm2 ⊢
  have HB2 : Hid (Below w.heap.size w w2) := HB1.out.trans (hb2.mono HB1.out.size)
  have hk := HK1.out.below hb2
  have hn := HN1.out.below hb2
  have HN2 : Hid (Blk w2 (w.heap.size + 1) #[.slice none 0 0, .slice none 0 0] 24) := hn
  have HK2 : Hid (Blk w2 w.heap.size #[.slice a ls.length c, .slice a' lw.length c'] 24) := hk
  have hpl2 : ps2.length = B.length := by rw [← hm2, List.length_map]
  have HR2 : Hid (RecsAt w2 v2 ps2) := recs_owns rfl (by omega) ho2 (fun q hq => (hl2 q hq).1)
  have HR1' : Hid (RecsAt w2 (.slice ra A.length rc) ps1) := HR1.out.below hb2
  have HM2 : Hid (ps2.map Prod.fst = B) := hm2
  obtain ⟨rb, rd, rfl⟩ := slice_of_owns ho2
  rw [hpl2] at HR2 ⊢
  have k0 := hk.cell 0
  have k1 := hk.cell 1
  have d1 := hn.cell 0
  have d2 := hn.cell 1
  have f1 := hn.free 0
  have f2 := hn.free 1
  simp only [List.getElem?_toArray, List.getElem?_cons_zero, List.getElem?_cons_succ] at k0 k1 d1 d2
  have hn2' : (n2 : Int) ≤ (c' : Int) := by omega
  have HJA : Hid (∀ w' b, Below w2.heap.size w2 w' → w'.cell? ⟨b, 0, none⟩ = some (.slice a ls.length c) → w'.cell? ⟨b, 1, none⟩ = some (.slice a' n2 c') → Calls Tryz.prog 35 #[.slice (some ⟨b, 0, none⟩) 2 2] w' fun e w'' => (∃ x, e = .returned x ∧ NewBytes (w.heap.size + 2) w'' x (ls ++ lw.take n2)) ∧ Below w'.heap.size w' w'') := fun w' b hb h0 h1 => by
    refine (concatB_any b _ _ ls (lw.take n2) w' h0 h1 ((HS.out.below HB2.out).below hb) (bytes_take ((HW.out.below HB2.out).below hb) n2 hn2.1) (by rw [List.length_take]; omega)).mono ?_
    rintro e w'' ⟨⟨x, he, hx⟩, hb'⟩
    exact ⟨⟨x, he, hx.less (Nat.le_trans HN2.out.lt hb.size)⟩, hb'⟩
  have HJB : Hid (∀ w' b, Below w2.heap.size w2 w' → w'.cell? ⟨b, 0, none⟩ = some (.slice ra A.length rc) → w'.cell? ⟨b, 1, none⟩ = some (.slice rb B.length rd) → Calls Tryz.prog 21 #[.slice (some ⟨b, 0, none⟩) 2 2] w' fun e w'' => (∃ x, e = .returned x ∧ RecsAt w'' x (ps1 ++ ps2)) ∧ Below w'.heap.size w' w'') := fun w' b hb h0 h1 => concatR_any b _ _ ps1 ps2 w' h0 h1 (HR1'.out.below hb) (HR2.out.below hb) (by omega)
  have HKN : Hid (∀ y, Below w2.heap.size w2 y → y.cell? ⟨w.heap.size, 0, none⟩ = some (.slice a ls.length c) ∧ y.cell? ⟨w.heap.size, 1, none⟩ = some (.slice a' lw.length c') ∧ y.cell? ⟨w.heap.size + 1, 0, none⟩ = some (.slice none 0 0) ∧ y.cell? ⟨w.heap.size + 1, 1, none⟩ = some (.slice none 0 0) ∧ y.frozen? ⟨w.heap.size + 1, 0, none⟩ = false ∧ y.frozen? ⟨w.heap.size + 1, 1, none⟩ = false ∧ w.heap.size < y.heap.size ∧ w.heap.size + 1 < y.heap.size) := fun y hb =>
    ⟨(HK2.out.below hb).cell 0, (HK2.out.below hb).cell 1, (HN2.out.below hb).cell 0, (HN2.out.below hb).cell 1, (HN2.out.below hb).free 0, (HN2.out.below hb).free 1, (HK2.out.below hb).lt, (HN2.out.below hb).lt⟩
  have HNb : Hid (∀ y, Below w2.heap.size w2 y → Blk y (w.heap.size + 1) #[.slice none 0 0, .slice none 0 0] 24) := fun y hb => HN2.out.below hb
  have HEnd : Hid (∀ y (u0 u1 : Value), Below w2.heap.size w2 y → Below w.heap.size w ((y.setCell ⟨w.heap.size + 1, 0, none⟩ u0).setCell ⟨w.heap.size + 1, 1, none⟩ u1)) := fun y u0 u1 hb => ((HB2.out.trans (hb.mono HB2.out.size)).setCell (Nat.le_succ _) _).setCell (Nat.le_succ _) _
  have HMM : Hid ((ps1 ++ ps2).map Prod.fst = A ++ B) := by show List.map _ _ = _; rw [List.map_append, HM1.out, HM2.out]
  have hg0 : w.heap.size < w2.heap.size := HK2.out.lt
  have hg1 : w.heap.size + 1 < w2.heap.size := HN2.out.lt
  have hB0 : Below w2.heap.size w2 w2.drew := (Below.refl _ _).drew
  generalize ls ++ lw.take n2 = L at HQ' HJA
  generalize ps1 ++ ps2 = PS at HJB HMM
  clear hb2 HB1 HK1 HN1 HB2 HK2 HN2 HR1 HR1' HR2 HS HW ho2 hl2 hm2 HM1 HM2 hk hn HL2' HS2 hpl hpl2
  go_wp2_with fail
  go_region_with (first
    | (go_at_call 35; refine (HJA.out _ _ (by repeat (first | assumption | exact Below.refl _ _ | refine Below.drew ?_ | refine below_up ?_ _)) (by first | (simp [go_sem]; done) | exact (hbB.cell (p := ⟨_, 0, none⟩) (by first | (simp; done) | (simp; omega))).trans (by simp [go_sem])) (by first | (simp [go_sem]; done) | exact (hbB.cell (p := ⟨_, 1, none⟩) (by first | (simp; done) | (simp; omega))).trans (by simp [go_sem]))).mono ?_; rintro e yA ⟨⟨uA, rfl, hA⟩, hbA⟩; obtain ⟨a1, c1, rfl⟩ := bytes_slice hA.1; have hBA : Below w2.heap.size w2 yA := below_step (w := w2) (by repeat (first | assumption | exact Below.refl _ _ | refine Below.drew ?_ | refine below_up ?_ _)) hbA; obtain ⟨k0, k1, d1, d2, f1, f2, hg0, hg1⟩ := HKN.out yA hBA)
    | (go_at_call 21; refine (HJB.out _ _ (by repeat (first | assumption | exact Below.refl _ _ | refine Below.drew ?_ | refine below_up ?_ _)) (by first | (simp [go_sem]; done) | exact (hbA.cell (p := ⟨_, 0, none⟩) (by first | (simp; done) | (simp; omega))).trans (by simp [go_sem])) (by first | (simp [go_sem]; done) | exact (hbA.cell (p := ⟨_, 1, none⟩) (by first | (simp; done) | (simp; omega))).trans (by simp [go_sem]))).mono ?_; rintro e yB ⟨⟨uB, rfl, hB⟩, hbB⟩; obtain ⟨a2, c2, rfl⟩ := recs_slice hB; have hBB : Below w2.heap.size w2 yB := below_step (w := w2) (by repeat (first | assumption | exact Below.refl _ _ | refine Below.drew ?_ | refine below_up ?_ _)) hbB; obtain ⟨k0, k1, d1, d2, f1, f2, hg0, hg1⟩ := HKN.out yB hBB))
  all_goals
    go_wp2
    refine bodyPost_ret (v := .tuple #[.agg #[.slice a1 L.length c1, .slice none 0 0], .slice a2 PS.length c2]) (by simp [results, Tryz.results16, go_sem, d1, d2]) rfl ?_
    rw [HQ'.out]
    first
      | exact ⟨⟨_, _, _, PS, rfl, (((hA.below (below_step (w := yA) (by repeat (first | assumption | exact Below.refl _ _ | refine Below.drew ?_ | refine below_up ?_ _)) hbB)).set _ (by omega)).set _ (by omega)).1, bytes_none _, recs_set2 (HNb.out yB hBB) hB _ _, HMM.out⟩, HEnd.out yB _ _ hBB⟩
      | exact ⟨⟨_, _, _, PS, rfl, ((hA.set _ (by omega)).set _ (by omega)).1, bytes_none _, recs_set2 (HNb.out yA hBA) (hB.below (below_step (w := yB) (by repeat (first | assumption | exact Below.refl _ _ | refine Below.drew ?_ | refine below_up ?_ _)) hbA)) _ _, HMM.out⟩, HEnd.out yA _ _ hBA⟩
end Go.Proofs.YtlnbcgjahjjpfacGreatDoor
