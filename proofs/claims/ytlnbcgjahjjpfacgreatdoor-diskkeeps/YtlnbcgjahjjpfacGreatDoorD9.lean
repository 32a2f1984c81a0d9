/- Contracts of disk.Same, disk.Sync, disk.Crash. -/
import Derived.Test.YtlnbcgjahjjpfacGreatDoorD6
import Derived.Test.YtlnbcgjahjjpfacGreatDoorME
import Derived.Deep.RegionHeld3
namespace Go.Proofs.YtlnbcgjahjjpfacGreatDoor
open Go.RowKit
theorem bytes_set {w : World} {v : Value} {l : List UInt8} {b o : Nat} {u : Value} (h : BytesAt w v l) (hne : ∀ o' n' c', v = .slice (some ⟨b, o', none⟩) n' c' → l = []) : BytesAt (w.setCell ⟨b, o, none⟩ u) v l := by
  obtain ⟨hl, c, hc, h | ⟨b', o', h1, h2, h3⟩⟩ := h
  · exact ⟨hl, c, hc, .inl h⟩
  · by_cases e : b' = b
    · subst e
      have := hne o' _ c h1
      subst this
      exact ⟨hl, c, hc, .inl ⟨rfl, _, h1, fun e => by cases e⟩⟩
    · refine ⟨hl, c, hc, .inr ⟨b', o', h1, by simpa [World.setCell] using h2, fun j hj => ?_⟩⟩
      have hk : ∀ x, (w.setCell ⟨b, o, none⟩ u).cell? ⟨b', x, none⟩ = w.cell? ⟨b', x, none⟩ := fun x => World.cell?_setCell_other _ _ _ _ (by intro y; injection y with y; exact e y.symm)
      exact (hk _).trans (h3 j hj)
theorem fresh_ne {v : Value} {l : List UInt8} {b N : Nat} (h : FreshS N v) (hb : b < N) : ∀ o' n' c', v = .slice (some ⟨b, o', none⟩) n' c' → l = [] := fun o' n' c' e => absurd (h b o' n' c' e) (by omega)
theorem NewBytes.set {w : World} {v : Value} {l : List UInt8} {b o N : Nat} (u : Value) (h : NewBytes N w v l) (hb : b < N) : NewBytes N (w.setCell ⟨b, o, none⟩ u) v l := ⟨bytes_set h.1 (fresh_ne h.2 hb), h.2⟩
theorem NewBytes.less {N M : Nat} {w : World} {v : Value} {l : List UInt8} (h : NewBytes N w v l) (hm : M ≤ N) : NewBytes M w v l := ⟨h.1, h.2.mono hm⟩
theorem newBytes_none (N : Nat) (w : World) : NewBytes N w (.slice none 0 0) [] := ⟨bytes_none w, fresh_none _ _ _⟩
/-- what is answered: a disk, and what is wrong -/
def diskN (N : Nat) (w : World) (q : Lk.Disk × Int) (e : Ending) : Prop := ∃ va vb, e = .returned (.tuple #[.agg #[va, vb], .int .i64 q.2]) ∧ NewBytes N w va q.1.safe ∧ NewBytes N w vb q.1.wait
theorem diskN_none (N : Nat) (w : World) {q : Lk.Disk × Int} {x : Int} (h : q = (Lk.Disk.none, x)) : diskN N w q (.returned (.tuple #[.agg #[.slice none 0 0, .slice none 0 0], .int .i64 x])) := by
  subst h
  exact ⟨_, _, rfl, newBytes_none _ _, newBytes_none _ _⟩
set_option maxHeartbeats 1000000 in
theorem sameDisk_any (va vb ua ub : Value) (a b c d : List UInt8) (w : World) (h1 : BytesAt w va a) (h2 : BytesAt w vb b) (h3 : BytesAt w ua c) (h4 : BytesAt w ub d) :
    Calls Tryz.prog 12 #[.agg #[va, vb], .agg #[ua, ub]] w fun e w' => e = .returned (.bool (Lk.sameDisk ⟨a, b⟩ ⟨c, d⟩)) ∧ Below w.heap.size w w' := by
  obtain ⟨a1, c1, rfl⟩ := bytes_slice h1
  obtain ⟨a2, c2, rfl⟩ := bytes_slice h2
  obtain ⟨a3, c3, rfl⟩ := bytes_slice h3
  obtain ⟨a4, c4, rfl⟩ := bytes_slice h4
  have H1 : Hid (∀ w', Below w.heap.size w w' → Calls Tryz.prog 32 #[.slice a1 a.length c1, .slice a3 c.length c3] w' fun e w'' => e = .returned (.bool (sameB a c)) ∧ Below w'.heap.size w' w'') := fun w' hb => equalP_any _ _ a c w' (h1.below hb) (h3.below hb)
  have H2 : Hid (∀ w', Below w.heap.size w w' → Calls Tryz.prog 32 #[.slice a2 b.length c2, .slice a4 d.length c4] w' fun e w'' => e = .returned (.bool (sameB b d)) ∧ Below w'.heap.size w' w'') := fun w' hb => equalP_any _ _ b d w' (h2.below hb) (h4.below hb)
  have HS : Hid (Lk.sameDisk ⟨a, b⟩ ⟨c, d⟩ = (sameB a c && sameB b d)) := rfl
  have HB : Hid (∀ o o', Below w.heap.size w ((w.alloc o).alloc o')) := fun o o' => ((Below.refl _ w).alloc (Nat.le_refl _) o).alloc (by simp) o'
  clear h1 h2 h3 h4
  generalize Lk.sameDisk ⟨a, b⟩ ⟨c, d⟩ = SS at HS ⊢
  generalize sameB a c = s1 at HS H1
  generalize sameB b d = s2 at HS H2
  have R0 : Hid (∀ w1, Below ((w.alloc (.cells #[.slice a1 a.length c1, .slice a2 b.length c2] 24)).alloc (.cells #[.slice a3 c.length c3, .slice a4 d.length c4] 24)).heap.size ((w.alloc (.cells #[.slice a1 a.length c1, .slice a2 b.length c2] 24)).alloc (.cells #[.slice a3 c.length c3, .slice a4 d.length c4] 24)) w1 → w1.cell? ⟨w.heap.size, 1, none⟩ = some (.slice a2 b.length c2) ∧ w1.cell? ⟨w.heap.size + 1, 1, none⟩ = some (.slice a4 d.length c4)) := fun w1 hb =>
    ⟨(hb.cell (p := ⟨w.heap.size, 1, none⟩) (by simp; omega)).trans (by simp [go_sem]), (hb.cell (p := ⟨w.heap.size + 1, 1, none⟩) (by simp)).trans (by simp [go_sem])⟩
  go_enter Tryz.func12, Tryz.ntmps12
  go_wp2_with fail
  refine (H1.out _ (HB.out _ _)).mono ?_
  rintro e w1 ⟨rfl, hb1⟩
  obtain ⟨k1, k2⟩ := R0.out w1 hb1
  have HB1 : Hid (Below w.heap.size w w1) := (HB.out _ _).trans (hb1.mono (HB.out _ _).size)
  clear hb1 R0 HB
  cases s1
  · have HS' : Hid (SS = false) := (show SS = false from by have := HS.out; simpa using this)
    go_wp2
    go_ret
    exact ⟨by rw [HS'.out]; rfl, HB1.out⟩
  · have HS' : Hid (SS = s2) := (show SS = s2 from by have := HS.out; simpa using this)
    go_wp2_with fail
    refine (H2.out _ HB1.out).mono ?_
    rintro e w2 ⟨rfl, hb2⟩
    go_wp2
    go_ret
    exact ⟨by rw [HS'.out]; rfl, HB1.out.trans (hb2.mono HB1.out.size)⟩
theorem sync_bad {d : Lk.Disk} (h : ¬ Lk.chkDisk d = 0) : Lk.syncP d = (Lk.Disk.none, Lk.chkDisk d) := by unfold Lk.syncP; rw [if_neg h]
theorem sync_bad2 {d : Lk.Disk} (h : Lk.chkDisk d = 0) (h' : ¬ Lk.chkDisk ⟨d.safe ++ d.wait, []⟩ = 0) : Lk.syncP d = (Lk.Disk.none, Lk.chkDisk ⟨d.safe ++ d.wait, []⟩) := by unfold Lk.syncP Lk.synced; rw [if_pos h, if_neg h']
theorem sync_ok {d : Lk.Disk} (h : Lk.chkDisk d = 0) (h' : Lk.chkDisk ⟨d.safe ++ d.wait, []⟩ = 0) : Lk.syncP d = (⟨d.safe ++ d.wait, []⟩, 0) := by unfold Lk.syncP Lk.synced; rw [if_pos h, if_pos h']
theorem chk_size {d : Lk.Disk} (h : Lk.chkDisk d = 0) : d.safe.length + d.wait.length ≤ 60000 := by
  rcases Nat.lt_or_ge 60000 (d.safe.length + d.wait.length) with h' | h'
  · rw [chk_many (by rw [Lk.tooMany_iff]; exact decide_eq_true h')] at h
    exact absurd h (by decide)
  · exact h'
set_option maxHeartbeats 4000000 in
set_option maxRecDepth 100000 in
theorem sync_any (vs vw : Value) (ls lw : List UInt8) (w : World) (hE : Env w) (hS : BytesAt w vs ls) (hW : BytesAt w vw lw) :
    Calls Tryz.prog 6 #[.agg #[vs, vw]] w fun e w' => diskN w.heap.size w' (Lk.syncP ⟨ls, lw⟩) e ∧ Below w.heap.size w w' := by
  obtain ⟨a, c, rfl⟩ := bytes_slice hS
  obtain ⟨a', c', rfl⟩ := bytes_slice hW
  have HE : Hid (Env w) := hE
  have HS : Hid (BytesAt w (.slice a ls.length c) ls) := hS
  have HW : Hid (BytesAt w (.slice a' lw.length c') lw) := hW
  have HB0 : Hid (Below w.heap.size w ((w.alloc (.cells #[.slice a ls.length c, .slice a' lw.length c'] 24)).alloc (.cells #[.slice none 0 0, .slice none 0 0] 24))) := ((Below.refl _ w).alloc (Nat.le_refl _) _).alloc (by simp) _
  have HK0 : Hid (Blk ((w.alloc (.cells #[.slice a ls.length c, .slice a' lw.length c'] 24)).alloc (.cells #[.slice none 0 0, .slice none 0 0] 24)) w.heap.size #[.slice a ls.length c, .slice a' lw.length c'] 24) := (blk_alloc w _ _).below ((Below.refl _ _).alloc (Nat.le_refl _) _)
  have HN0 : Hid (Blk ((w.alloc (.cells #[.slice a ls.length c, .slice a' lw.length c'] 24)).alloc (.cells #[.slice none 0 0, .slice none 0 0] 24)) (w.heap.size + 1) #[.slice none 0 0, .slice none 0 0] 24) := by
    have := blk_alloc (w.alloc (.cells #[.slice a ls.length c, .slice a' lw.length c'] 24)) #[.slice none 0 0, .slice none 0 0] 24
    rwa [World.size_alloc] at this
  have F1 : Hid (¬ Lk.chkDisk ⟨ls, lw⟩ = 0 → Lk.syncP ⟨ls, lw⟩ = (Lk.Disk.none, Lk.chkDisk ⟨ls, lw⟩)) := fun h => sync_bad h
  have F2 : Hid (Lk.chkDisk ⟨ls, lw⟩ = 0 → ¬ Lk.chkDisk ⟨ls ++ lw, []⟩ = 0 → Lk.syncP ⟨ls, lw⟩ = (Lk.Disk.none, Lk.chkDisk ⟨ls ++ lw, []⟩)) := fun h h' => sync_bad2 h h'
  have F3 : Hid (Lk.chkDisk ⟨ls, lw⟩ = 0 → Lk.chkDisk ⟨ls ++ lw, []⟩ = 0 → Lk.syncP ⟨ls, lw⟩ = (⟨ls ++ lw, []⟩, 0)) := fun h h' => sync_ok h h'
  have F4 : Hid (Lk.chkDisk ⟨ls, lw⟩ = 0 → ls.length + lw.length ≤ 60000) := fun h => chk_size h
  have HC1 : Hid (∀ w', Below w.heap.size w w' → Calls Tryz.prog 11 #[.agg #[.slice a ls.length c, .slice a' lw.length c']] w' fun e w'' => e = .returned (.int .i64 (Lk.chkDisk ⟨ls, lw⟩)) ∧ Below w'.heap.size w' w'') := fun w' hb => checkDisk_any _ _ ls lw w' (hE.below hb) (hS.below hb) (hW.below hb)
  have HC2 : Hid (∀ w' v, Below w.heap.size w w' → BytesAt w' v (ls ++ lw) → Calls Tryz.prog 11 #[.agg #[v, .slice none 0 0]] w' fun e w'' => e = .returned (.int .i64 (Lk.chkDisk ⟨ls ++ lw, []⟩)) ∧ Below w'.heap.size w' w'') := fun w' v hb hv => checkDisk_any _ _ (ls ++ lw) [] w' (hE.below hb) hv (bytes_none _)
  clear hE hS hW
  generalize Lk.syncP ⟨ls, lw⟩ = Q at F1 F2 F3 ⊢
  generalize Lk.chkDisk ⟨ls, lw⟩ = C1 at F1 F2 F3 F4 HC1
  generalize Lk.chkDisk ⟨ls ++ lw, []⟩ = C2 at F2 F3 HC2
  go_enter Tryz.func6, Tryz.ntmps6
  go_wp2_with fail
  refine (HC1.out _ HB0.out).mono ?_
  rintro e w1 ⟨rfl, hb1⟩
  have HB1 : Hid (Below w.heap.size w w1) := HB0.out.trans (hb1.mono HB0.out.size)
  have hk := HK0.out.below hb1
  have HN1 := HN0.out.below hb1
  clear hb1 HB0 HK0 HN0 HC1
  by_cases h1 : C1 = 0
  rotate_left
  · have h1b : (C1 != 0) = true := by rw [bne_iff_ne]; exact h1
    have HQ : Hid (Q = (Lk.Disk.none, C1)) := F1.out h1
    have d1 := HN1.cell 0
    have d2 := HN1.cell 1
    have f1 := HN1.free 0
    have f2 := HN1.free 1
    simp only [List.getElem?_toArray, List.getElem?_cons_zero, List.getElem?_cons_succ] at d1 d2
    have hBs : ∀ u0 u1 : Value, Below w.heap.size w ((w1.setCell ⟨w.heap.size + 1, 0, none⟩ u0).setCell ⟨w.heap.size + 1, 1, none⟩ u1) := fun u0 u1 => (HB1.out.setCell (Nat.le_succ _) _).setCell (Nat.le_succ _) _
    have HBs : Hid (∀ u0 u1 : Value, Below w.heap.size w ((w1.setCell ⟨w.heap.size + 1, 0, none⟩ u0).setCell ⟨w.heap.size + 1, 1, none⟩ u1)) := hBs
    clear F1 F2 F3 F4 h1 hk HN1 HC2 hBs
    go_wp2
    refine bodyPost_ret (v := .tuple #[.agg #[.slice none 0 0, .slice none 0 0], .int .i64 C1]) (by simp [results, Tryz.results6, go_sem, d1, d2]) rfl ⟨diskN_none _ _ HQ.out, HBs.out _ _⟩
  subst h1
  have hsum := F4.out rfl
  have HG2 : Hid (¬ C2 = 0 → Q = (Lk.Disk.none, C2)) := F2.out rfl
  have HG3 : Hid (C2 = 0 → Q = (⟨ls ++ lw, []⟩, 0)) := F3.out rfl
  have HJ : Hid (∀ w', Below w.heap.size w w' → Calls Tryz.prog 27 #[.slice a ls.length c, .slice a' lw.length c'] w' fun e w'' => (∃ x, e = .returned x ∧ NewBytes w'.heap.size w'' x (ls ++ lw)) ∧ Below w'.heap.size w' w'') := fun w' hb => joined_any _ _ ls lw w' (HS.out.below hb) (HW.out.below hb) (by omega)
  have k0 := hk.cell 0
  have k1 := hk.cell 1
  simp only [List.getElem?_toArray, List.getElem?_cons_zero, List.getElem?_cons_succ] at k0 k1
  have HN1' : Hid (Blk w1 (w.heap.size + 1) #[.slice none 0 0, .slice none 0 0] 24) := HN1
  clear F1 F2 F3 F4 hk HN1
  go_wp2_with fail
  refine (HJ.out _ HB1.out).mono ?_
  rintro e w2 ⟨⟨x, rfl, hx⟩, hb2⟩
  obtain ⟨xa, xc, rfl⟩ := bytes_slice hx.1
  have HB2 : Hid (Below w.heap.size w w2) := HB1.out.trans (hb2.mono HB1.out.size)
  have HN2 := HN1'.out.below hb2
  have hlt : w.heap.size + 1 < w1.heap.size := HN1'.out.lt
  have HX2 : Hid (NewBytes (w.heap.size + 2) w2 (.slice xa (ls ++ lw).length xc) (ls ++ lw)) := hx.less hlt
  clear hx hb2 HB1 HN1' HJ k0 k1 hlt
  generalize (ls ++ lw).length = nl at HX2 ⊢
  generalize ls ++ lw = L at HX2 HG3 HC2
  go_wp2_with fail
  have hbA : Below w2.heap.size w2 (w2.alloc (.cells #[.slice xa nl xc, .slice none 0 0] 24)) := (Below.refl _ _).alloc (Nat.le_refl _) _
  have HB3 : Hid (Below w.heap.size w (w2.alloc (.cells #[.slice xa nl xc, .slice none 0 0] 24))) := HB2.out.trans (hbA.mono HB2.out.size)
  have HN3 := HN2.below hbA
  have HX3 : Hid (NewBytes (w.heap.size + 2) (w2.alloc (.cells #[.slice xa nl xc, .slice none 0 0] 24)) (.slice xa nl xc) L) := HX2.out.below hbA
  have HK3 := blk_alloc w2 #[.slice xa nl xc, .slice none 0 0] 24
  clear hbA HB2 HN2 HX2
  generalize w2.alloc (.cells #[.slice xa nl xc, .slice none 0 0] 24) = W3 at HB3 HN3 HX3 HK3 ⊢
  generalize w2.heap.size = g2 at HK3 ⊢
  refine (HC2.out _ _ HB3.out HX3.out.1).mono ?_
  rintro e w4 ⟨rfl, hb4⟩
  have HB4 : Hid (Below w.heap.size w w4) := HB3.out.trans (hb4.mono HB3.out.size)
  have HN4 := HN3.below hb4
  have HX4 : Hid (NewBytes (w.heap.size + 2) w4 (.slice xa nl xc) L) := HX3.out.below hb4
  have HK4 := HK3.below hb4
  clear hb4 HB3 HN3 HX3 HK3 HC2
  have d1 := HN4.cell 0
  have d2 := HN4.cell 1
  have f1 := HN4.free 0
  have f2 := HN4.free 1
  have k1 := HK4.cell 0
  have k2 := HK4.cell 1
  simp only [List.getElem?_toArray, List.getElem?_cons_zero, List.getElem?_cons_succ] at d1 d2 k1 k2
  have HBs : Hid (∀ u0 u1 : Value, Below w.heap.size w ((w4.setCell ⟨w.heap.size + 1, 0, none⟩ u0).setCell ⟨w.heap.size + 1, 1, none⟩ u1)) := fun u0 u1 => (HB4.out.setCell (Nat.le_succ _) _).setCell (Nat.le_succ _) _
  clear HN4 HK4
  by_cases h2 : C2 = 0
  · subst h2
    have HQ : Hid (Q = (⟨L, []⟩, 0)) := HG3.out rfl
    clear HG2 HG3
    go_wp2
    refine bodyPost_ret (v := .tuple #[.agg #[.slice xa nl xc, .slice none 0 0], .int .i64 0]) (by simp [results, Tryz.results6, go_sem, d1, d2]) rfl ⟨?_, HBs.out _ _⟩
    rw [HQ.out]
    exact ⟨_, _, rfl, ((HX4.out.set _ (by omega)).set _ (by omega)).less (by omega), newBytes_none _ _⟩
  · have h2b : (C2 != 0) = true := by rw [bne_iff_ne]; exact h2
    have HQ : Hid (Q = (Lk.Disk.none, C2)) := HG2.out h2
    clear HG2 HG3 h2
    go_wp2
    refine bodyPost_ret (v := .tuple #[.agg #[.slice none 0 0, .slice none 0 0], .int .i64 C2]) (by simp [results, Tryz.results6, go_sem, d1, d2]) rfl ⟨diskN_none _ _ HQ.out, HBs.out _ _⟩
end Go.Proofs.YtlnbcgjahjjpfacGreatDoor
