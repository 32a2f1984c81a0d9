/- The contract of disk.Crash. -/
import Derived.Test.YtlnbcgjahjjpfacGreatDoorD9
import Derived.Deep.RegionWith
namespace Go.Proofs.YtlnbcgjahjjpfacGreatDoor
open Go.RowKit
theorem bytes_room {w : World} {a : Option Addr} {n c : Nat} {l : List UInt8} (h : BytesAt w (.slice a n c) l) : n = l.length ∧ l.length ≤ c := by
  obtain ⟨_, c', hc, ⟨rfl, a', e, _⟩ | ⟨b, o, e, _⟩⟩ := h
  · simp only [Value.slice.injEq] at e
    exact ⟨e.2.1, by rw [e.2.2]; exact hc⟩
  · simp only [Value.slice.injEq] at e
    exact ⟨e.2.1, by rw [e.2.2]; exact hc⟩
theorem crash_bad {d : Lk.Disk} {n : Int} (h : ¬ Lk.chkDisk d = 0) : Lk.crashP d n = (Lk.Disk.none, Lk.chkDisk d) := by unfold Lk.crashP; rw [if_neg h]
theorem crash_out {d : Lk.Disk} {n : Int} (h : Lk.chkDisk d = 0) (h' : ¬ (0 ≤ n ∧ n ≤ d.wait.length)) : Lk.crashP d n = (Lk.Disk.none, 3) := by unfold Lk.crashP; rw [if_pos h, if_neg h']
theorem crash_ok {d : Lk.Disk} {k : Nat} (h : Lk.chkDisk d = 0) (h' : k ≤ d.wait.length) : Lk.crashP d (k : Int) = (⟨d.safe, d.wait.take k⟩, 0) := by
  unfold Lk.crashP; rw [if_pos h, if_pos (by omega)]; simp
set_option maxHeartbeats 4000000 in
set_option maxRecDepth 100000 in
theorem crash_any (vs vw : Value) (ls lw : List UInt8) (n : Int) (w : World) (hE : Env w) (hS : BytesAt w vs ls) (hW : BytesAt w vw lw) :
    Calls Tryz.prog 7 #[.agg #[vs, vw], .int .i64 n] w fun e w' => diskN w.heap.size w' (Lk.crashP ⟨ls, lw⟩ n) e ∧ Below w.heap.size w w' := by
  obtain ⟨a, c, rfl⟩ := bytes_slice hS
  obtain ⟨a', c', rfl⟩ := bytes_slice hW
  have HS : Hid (BytesAt w (.slice a ls.length c) ls) := hS
  have HW : Hid (BytesAt w (.slice a' lw.length c') lw) := hW
  have HB0 : Hid (Below w.heap.size w ((w.alloc (.cells #[.slice a ls.length c, .slice a' lw.length c'] 24)).alloc (.cells #[.slice none 0 0, .slice none 0 0] 24))) := ((Below.refl _ w).alloc (Nat.le_refl _) _).alloc (by simp) _
  have HK0 : Hid (Blk ((w.alloc (.cells #[.slice a ls.length c, .slice a' lw.length c'] 24)).alloc (.cells #[.slice none 0 0, .slice none 0 0] 24)) w.heap.size #[.slice a ls.length c, .slice a' lw.length c'] 24) := (blk_alloc w _ _).below ((Below.refl _ _).alloc (Nat.le_refl _) _)
  have HN0 : Hid (Blk ((w.alloc (.cells #[.slice a ls.length c, .slice a' lw.length c'] 24)).alloc (.cells #[.slice none 0 0, .slice none 0 0] 24)) (w.heap.size + 1) #[.slice none 0 0, .slice none 0 0] 24) := by
    have := blk_alloc (w.alloc (.cells #[.slice a ls.length c, .slice a' lw.length c'] 24)) #[.slice none 0 0, .slice none 0 0] 24
    rwa [World.size_alloc] at this
  have F1 : Hid (¬ Lk.chkDisk ⟨ls, lw⟩ = 0 → Lk.crashP ⟨ls, lw⟩ n = (Lk.Disk.none, Lk.chkDisk ⟨ls, lw⟩)) := fun h => crash_bad h
  have F2 : Hid (Lk.chkDisk ⟨ls, lw⟩ = 0 → ¬ (0 ≤ n ∧ n ≤ lw.length) → Lk.crashP ⟨ls, lw⟩ n = (Lk.Disk.none, 3)) := fun h h' => crash_out h h'
  have F3 : Hid (Lk.chkDisk ⟨ls, lw⟩ = 0 → ∀ k : Nat, n = (k : Int) → k ≤ lw.length → Lk.crashP ⟨ls, lw⟩ n = (⟨ls, lw.take k⟩, 0)) := fun h k e h' => by subst e; exact crash_ok h h'
  have HC1 : Hid (∀ w', Below w.heap.size w w' → Calls Tryz.prog 11 #[.agg #[.slice a ls.length c, .slice a' lw.length c']] w' fun e w'' => e = .returned (.int .i64 (Lk.chkDisk ⟨ls, lw⟩)) ∧ Below w'.heap.size w' w'') := fun w' hb => checkDisk_any _ _ ls lw w' (hE.below hb) (hS.below hb) (hW.below hb)
  have hroom := (bytes_room hW).2
  clear hE hS hW
  generalize Lk.crashP ⟨ls, lw⟩ n = Q at F1 F2 F3 ⊢
  generalize Lk.chkDisk ⟨ls, lw⟩ = C1 at F1 F2 F3 HC1
  go_enter Tryz.func7, Tryz.ntmps7
  go_wp2_with fail
  refine (HC1.out _ HB0.out).mono ?_
  rintro e w1 ⟨rfl, hb1⟩
  have HB1 : Hid (Below w.heap.size w w1) := HB0.out.trans (hb1.mono HB0.out.size)
  have hk := HK0.out.below hb1
  have HN1 := HN0.out.below hb1
  clear hb1 HB0 HK0 HN0 HC1
  have k0 := hk.cell 0
  have k1 := hk.cell 1
  have d1 := HN1.cell 0
  have d2 := HN1.cell 1
  have f1 := HN1.free 0
  have f2 := HN1.free 1
  simp only [List.getElem?_toArray, List.getElem?_cons_zero, List.getElem?_cons_succ] at d1 d2 k0 k1
  have HBs : Hid (∀ u0 u1 : Value, Below w.heap.size w ((w1.setCell ⟨w.heap.size + 1, 0, none⟩ u0).setCell ⟨w.heap.size + 1, 1, none⟩ u1)) := fun u0 u1 => (HB1.out.setCell (Nat.le_succ _) _).setCell (Nat.le_succ _) _
  have HK1 : Hid (Blk w1 w.heap.size #[.slice a ls.length c, .slice a' lw.length c'] 24) := hk
  have HN1' : Hid (Blk w1 (w.heap.size + 1) #[.slice none 0 0, .slice none 0 0] 24) := HN1
  clear hk HN1
  by_cases h1 : C1 = 0
  rotate_left
  · have h1b : (C1 != 0) = true := by rw [bne_iff_ne]; exact h1
    have HQ : Hid (Q = (Lk.Disk.none, C1)) := F1.out h1
    clear F1 F2 F3 h1
    go_wp2
    refine bodyPost_ret (v := .tuple #[.agg #[.slice none 0 0, .slice none 0 0], .int .i64 C1]) (by simp [results, Tryz.results7, go_sem, d1, d2]) rfl ⟨diskN_none _ _ HQ.out, HBs.out _ _⟩
  subst h1
  by_cases h2 : 0 ≤ n
  rotate_left
  · have HQ : Hid (Q = (Lk.Disk.none, 3)) := F2.out rfl (by omega)
    have h2' : n < 0 := by omega
    clear F1 F2 F3 h2
    go_wp2
    refine bodyPost_ret (v := .tuple #[.agg #[.slice none 0 0, .slice none 0 0], .int .i64 3]) (by simp [results, Tryz.results7, go_sem, d1, d2]) rfl ⟨diskN_none _ _ HQ.out, HBs.out _ _⟩
  by_cases h3 : n ≤ (lw.length : Int)
  rotate_left
  · have HQ : Hid (Q = (Lk.Disk.none, 3)) := F2.out rfl (by omega)
    have h3' : decide (n ≤ (lw.length : Int)) = false := decide_eq_false h3
    clear F1 F2 F3 h3
    go_wp2
    refine bodyPost_ret (v := .tuple #[.agg #[.slice none 0 0, .slice none 0 0], .int .i64 3]) (by simp [results, Tryz.results7, go_sem, d1, d2]) rfl ⟨diskN_none _ _ HQ.out, HBs.out _ _⟩
  obtain ⟨k, rfl⟩ := Int.eq_ofNat_of_zero_le h2
  have hkl : k ≤ lw.length := by omega
  have HQ : Hid (Q = (⟨ls, lw.take k⟩, 0)) := F3.out rfl k rfl hkl
  have hkc : (k : Int) ≤ (c' : Int) := by omega
  have HCA : Hid (∀ w', Below w1.heap.size w1 w' → Calls Tryz.prog 26 #[.slice a ls.length c] w' fun e w'' => (∃ u, e = .returned u ∧ NewBytes (w.heap.size + 2) w'' u ls) ∧ Below w'.heap.size w' w'') := fun w' hb => by
    refine (clone_any _ ls w' ((HS.out.below HB1.out).below hb)).mono ?_
    rintro e w'' ⟨⟨u, he, hu⟩, hb'⟩
    exact ⟨⟨u, he, hu.less (Nat.le_trans HN1'.out.lt hb.size)⟩, hb'⟩
  have HCB : Hid (∀ w', Below w1.heap.size w1 w' → Calls Tryz.prog 26 #[.slice a' k c'] w' fun e w'' => (∃ u, e = .returned u ∧ NewBytes (w.heap.size + 2) w'' u (lw.take k)) ∧ Below w'.heap.size w' w'') := fun w' hb => by
    refine (clone_any _ (lw.take k) w' (bytes_take ((HW.out.below HB1.out).below hb) k hkl)).mono ?_
    rintro e w'' ⟨⟨u, he, hu⟩, hb'⟩
    exact ⟨⟨u, he, hu.less (Nat.le_trans HN1'.out.lt hb.size)⟩, hb'⟩
  have HKN : Hid (∀ y, Below w1.heap.size w1 y → y.cell? ⟨w.heap.size, 0, none⟩ = some (.slice a ls.length c) ∧ y.cell? ⟨w.heap.size, 1, none⟩ = some (.slice a' lw.length c') ∧ y.cell? ⟨w.heap.size + 1, 0, none⟩ = some (.slice none 0 0) ∧ y.cell? ⟨w.heap.size + 1, 1, none⟩ = some (.slice none 0 0) ∧ y.frozen? ⟨w.heap.size + 1, 0, none⟩ = false ∧ y.frozen? ⟨w.heap.size + 1, 1, none⟩ = false) := fun y hb =>
    ⟨(HK1.out.below hb).cell 0, (HK1.out.below hb).cell 1, (HN1'.out.below hb).cell 0, (HN1'.out.below hb).cell 1, (HN1'.out.below hb).free 0, (HN1'.out.below hb).free 1⟩
  have HEnd : Hid (∀ y (u0 u1 : Value), Below w1.heap.size w1 y → Below w.heap.size w ((y.setCell ⟨w.heap.size + 1, 0, none⟩ u0).setCell ⟨w.heap.size + 1, 1, none⟩ u1)) := fun y u0 u1 hb => ((HB1.out.trans (hb.mono HB1.out.size)).setCell (Nat.le_succ _) _).setCell (Nat.le_succ _) _
  generalize lw.take k = lt at HQ HCB
  clear F1 F2 F3 h2 h3 HS HW HBs HB1 HK1 HN1'
  have hB0 : Below w1.heap.size w1 w1.drew := (Below.refl _ _).drew
  go_wp2_with go_in
  go_region_with (first
    | (go_at_call_of 26 (Value.slice a ls.length c); refine (HCA.out _ (by assumption)).mono ?_; rintro e yA ⟨⟨uA, rfl, hA⟩, hbA⟩; obtain ⟨a1, c1, rfl⟩ := bytes_slice hA.1; have hBA : Below w1.heap.size w1 yA := Below.trans (by assumption) (hbA.mono (Below.size (by assumption))); obtain ⟨k0, k1, d1, d2, f1, f2⟩ := HKN.out yA hBA)
    | (go_at_call_of 26 (Value.slice a' k c'); refine (HCB.out _ (by assumption)).mono ?_; rintro e yB ⟨⟨uB, rfl, hB⟩, hbB⟩; obtain ⟨a2, c2, rfl⟩ := bytes_slice hB.1; have hBB : Below w1.heap.size w1 yB := Below.trans (by assumption) (hbB.mono (Below.size (by assumption))); obtain ⟨k0, k1, d1, d2, f1, f2⟩ := HKN.out yB hBB))
  all_goals
    go_wp2
    refine bodyPost_ret (v := .tuple #[.agg #[.slice a1 ls.length c1, .slice a2 lt.length c2], .int .i64 0]) (by simp [results, Tryz.results7, go_sem, d1, d2]) rfl ?_
    rw [HQ.out]
    first
      | exact ⟨⟨_, _, rfl, (((hA.below hbB).set _ (by omega)).set _ (by omega)).less (by omega), ((hB.set _ (by omega)).set _ (by omega)).less (by omega)⟩, HEnd.out yB _ _ hBB⟩
      | exact ⟨⟨_, _, rfl, ((hA.set _ (by omega)).set _ (by omega)).less (by omega), (((hB.below hbA).set _ (by omega)).set _ (by omega)).less (by omega)⟩, HEnd.out yA _ _ hBA⟩
end Go.Proofs.YtlnbcgjahjjpfacGreatDoor
