/- Contracts of the document's PutOn and Synced. -/
import Derived.Test.YtlnbcgjahjjpfacGreatDoorD11
import Derived.Test.YtlnbcgjahjjpfacGreatDoorMF
import Derived.Test.YtlnbcgjahjjpfacGreatDoorN9
namespace Go.Proofs.YtlnbcgjahjjpfacGreatDoor
open Go.RowKit
/-- what the document answers: a disk, and what is wrong -/
def diskR (w : World) (q : Lk.Disk × Int) (e : Ending) : Prop := ∃ va vb, e = .returned (.tuple #[.agg #[va, vb], .int .i64 q.2]) ∧ BytesAt w va q.1.safe ∧ BytesAt w vb q.1.wait
theorem diskR_none (w : World) {q : Lk.Disk × Int} {x : Int} (h : q = (Lk.Disk.none, x)) : diskR w q (.returned (.tuple #[.agg #[.slice none 0 0, .slice none 0 0], .int .i64 x])) := by
  subst h
  exact ⟨_, _, rfl, bytes_none _, bytes_none _⟩
theorem diskN.old {N : Nat} {w : World} {q : Lk.Disk × Int} {e : Ending} (h : diskN N w q e) : diskR w q e := by
  obtain ⟨va, vb, he, h1, h2⟩ := h
  exact ⟨va, vb, he, h1.1, h2.1⟩
theorem Blk.set {w : World} {b b' o : Nat} {cs : Array Value} {t : TypeId} {u : Value} (h : Blk w b cs t) (hne : b' ≠ b) : Blk (w.setCell ⟨b', o, none⟩ u) b cs t := by
  have e : (w.setCell ⟨b', o, none⟩ u).heap[b]? = w.heap[b]? := Below.heap_setCell _ _ _ _ (Ne.symm hne)
  exact e.trans h
theorem Blk.put2 {w : World} {b : Nat} {x y u v : Value} {t : TypeId} (h : Blk w b #[x, y] t) : Blk ((w.setCell ⟨b, 0, none⟩ u).setCell ⟨b, 1, none⟩ v) b #[u, v] t := by
  have h1 := Go.Joins.block_setCell (i := 0) h u
  have h2 := Go.Joins.block_setCell (i := 1) h1 v
  exact h2
/-- bytes that lie in an old world stand whatever is written above it -/
theorem synced_bad {d : Lk.Disk} (h : ¬ Lk.chkDisk ⟨d.safe ++ d.wait, []⟩ = 0) : Lk.synced d = (Lk.Disk.none, Lk.chkDisk ⟨d.safe ++ d.wait, []⟩) := by unfold Lk.synced; rw [if_neg h]
theorem synced_ok {d : Lk.Disk} (h : Lk.chkDisk ⟨d.safe ++ d.wait, []⟩ = 0) : Lk.synced d = (⟨d.safe ++ d.wait, []⟩, 0) := by unfold Lk.synced; rw [if_pos h]
set_option maxHeartbeats 4000000 in
set_option maxRecDepth 100000 in
theorem syncedR_any (vs vw : Value) (ls lw : List UInt8) (w : World) (hE : Env w) (hS : BytesAt w vs ls) (hW : BytesAt w vw lw) (hsum : ls.length + lw.length ≤ 60000) :
    Calls Tryz.prog 15 #[.agg #[vs, vw]] w fun e w' => diskR w' (Lk.synced ⟨ls, lw⟩) e ∧ Below w.heap.size w w' := by
  obtain ⟨a, c, rfl⟩ := bytes_slice hS
  obtain ⟨a', c', rfl⟩ := bytes_slice hW
  have HE : Hid (Env w) := hE
  have HS : Hid (BytesAt w (.slice a ls.length c) ls) := hS
  have HW : Hid (BytesAt w (.slice a' lw.length c') lw) := hW
  have HB0 : Hid (Below w.heap.size w (((w.alloc (.cells #[.slice a ls.length c, .slice a' lw.length c'] 24)).alloc (.cells #[.slice none 0 0, .slice none 0 0] 24)).alloc (.cells #[.slice a ls.length c, .slice a' lw.length c'] 22))) := (((Below.refl _ w).alloc (Nat.le_refl _) _).alloc (by simp) _).alloc (by simp; omega) _
  have HK0 : Hid (Blk (((w.alloc (.cells #[.slice a ls.length c, .slice a' lw.length c'] 24)).alloc (.cells #[.slice none 0 0, .slice none 0 0] 24)).alloc (.cells #[.slice a ls.length c, .slice a' lw.length c'] 22)) w.heap.size #[.slice a ls.length c, .slice a' lw.length c'] 24) := ((blk_alloc w _ _).below ((Below.refl _ _).alloc (Nat.le_refl _) _)).below ((Below.refl _ _).alloc (Nat.le_refl _) _)
  have HN0 : Hid (Blk (((w.alloc (.cells #[.slice a ls.length c, .slice a' lw.length c'] 24)).alloc (.cells #[.slice none 0 0, .slice none 0 0] 24)).alloc (.cells #[.slice a ls.length c, .slice a' lw.length c'] 22)) (w.heap.size + 1) #[.slice none 0 0, .slice none 0 0] 24) := by
    have := blk_alloc (w.alloc (.cells #[.slice a ls.length c, .slice a' lw.length c'] 24)) #[.slice none 0 0, .slice none 0 0] 24
    rw [World.size_alloc] at this
    exact this.below ((Below.refl _ _).alloc (Nat.le_refl _) _)
  have F2 : Hid (¬ Lk.chkDisk ⟨ls ++ lw, []⟩ = 0 → Lk.synced ⟨ls, lw⟩ = (Lk.Disk.none, Lk.chkDisk ⟨ls ++ lw, []⟩)) := fun h => synced_bad h
  have F3 : Hid (Lk.chkDisk ⟨ls ++ lw, []⟩ = 0 → Lk.synced ⟨ls, lw⟩ = (⟨ls ++ lw, []⟩, 0)) := fun h => synced_ok h
  have HC2 : Hid (∀ w' v, Below w.heap.size w w' → BytesAt w' v (ls ++ lw) → Calls Tryz.prog 9 #[.agg #[v, .slice none 0 0]] w' fun e w'' => e = .returned (.int .i64 (Lk.chkDisk ⟨ls ++ lw, []⟩)) ∧ Below w'.heap.size w' w'') := fun w' v hb hv => checkDiskR_any _ _ (ls ++ lw) [] w' (hE.below hb) hv (bytes_none _)
  have HJ : Hid (∀ w' b, Below w.heap.size w w' → w'.cell? ⟨b, 0, none⟩ = some (.slice a ls.length c) → w'.cell? ⟨b, 1, none⟩ = some (.slice a' lw.length c') → Calls Tryz.prog 35 #[.slice (some ⟨b, 0, none⟩) 2 2] w' fun e w'' => (∃ x, e = .returned x ∧ NewBytes w'.heap.size w'' x (ls ++ lw)) ∧ Below w'.heap.size w' w'') := fun w' b hb h0 h1 => concatB_any b _ _ ls lw w' h0 h1 (hS.below hb) (hW.below hb) (by omega)
  clear hE hS hW
  generalize Lk.synced ⟨ls, lw⟩ = Q at F2 F3 ⊢
  generalize Lk.chkDisk ⟨ls ++ lw, []⟩ = C2 at F2 F3 HC2
  generalize ls ++ lw = L at F2 F3 HC2 HJ
  go_enter Tryz.func15, Tryz.ntmps15
  go_wp2_with fail
  refine (HJ.out _ _ HB0.out (by simp [go_sem]) (by simp [go_sem])).mono ?_
  rintro e w1 ⟨⟨x, rfl, hx⟩, hb1⟩
  obtain ⟨xa, xc, rfl⟩ := bytes_slice hx.1
  have HB1 : Hid (Below w.heap.size w w1) := HB0.out.trans (hb1.mono HB0.out.size)
  have hk := HK0.out.below hb1
  have hn := HN0.out.below hb1
  have HX1 : Hid (NewBytes (w.heap.size + 2) w1 (.slice xa L.length xc) L) := hx.less HN0.out.lt
  clear hx hb1 HB0 HK0 HN0 HJ
  have k0 := hk.cell 0
  have k1 := hk.cell 1
  have f0 := hk.free 0
  have f1 := hk.free 1
  simp only [List.getElem?_toArray, List.getElem?_cons_zero, List.getElem?_cons_succ] at k0 k1
  go_upto_region 2 with fail
  have HK2 := Blk.put2 (u := .slice xa L.length xc) (v := .slice none 0 0) hk
  have HN2 : Hid (Blk ((w1.setCell ⟨w.heap.size, 0, none⟩ (.slice xa L.length xc)).setCell ⟨w.heap.size, 1, none⟩ (.slice none 0 0)) (w.heap.size + 1) #[.slice none 0 0, .slice none 0 0] 24) := (hn.set (by omega)).set (by omega)
  have HB2 : Hid (Below w.heap.size w ((w1.setCell ⟨w.heap.size, 0, none⟩ (.slice xa L.length xc)).setCell ⟨w.heap.size, 1, none⟩ (.slice none 0 0))) := (HB1.out.setCell (Nat.le_refl _) _).setCell (Nat.le_refl _) _
  have HX2 : Hid (NewBytes (w.heap.size + 2) ((w1.setCell ⟨w.heap.size, 0, none⟩ (.slice xa L.length xc)).setCell ⟨w.heap.size, 1, none⟩ (.slice none 0 0)) (.slice xa L.length xc) L) := (HX1.out.set _ (by omega)).set _ (by omega)
  clear hk hn k0 k1 f0 f1 HB1 HX1
  generalize (w1.setCell ⟨w.heap.size, 0, none⟩ (.slice xa L.length xc)).setCell ⟨w.heap.size, 1, none⟩ (.slice none 0 0) = W2 at HK2 HN2 HB2 HX2 ⊢
  have k0 := HK2.cell 0
  have k1 := HK2.cell 1
  simp only [List.getElem?_toArray, List.getElem?_cons_zero, List.getElem?_cons_succ] at k0 k1
  go_wp2_with fail
  clear k0 k1
  refine (HC2.out _ _ HB2.out HX2.out.1).mono ?_
  rintro e w4 ⟨rfl, hb4⟩
  have HB4 : Hid (Below w.heap.size w w4) := HB2.out.trans (hb4.mono HB2.out.size)
  have HN4 := HN2.out.below hb4
  have HX4 : Hid (NewBytes (w.heap.size + 2) w4 (.slice xa L.length xc) L) := HX2.out.below hb4
  have HK4 := HK2.below hb4
  clear hb4 HB2 HN2 HX2 HK2 HC2
  have d1 := HN4.cell 0
  have d2 := HN4.cell 1
  have f1 := HN4.free 0
  have f2 := HN4.free 1
  have k1 := HK4.cell 0
  have k2 := HK4.cell 1
  simp only [List.getElem?_toArray, List.getElem?_cons_zero, List.getElem?_cons_succ] at d1 d2 k1 k2
  have HBs : Hid (∀ u0 u1 : Value, Below w.heap.size w ((w4.setCell ⟨w.heap.size + 1, 0, none⟩ u0).setCell ⟨w.heap.size + 1, 1, none⟩ u1)) := fun u0 u1 => (HB4.out.setCell (Nat.le_succ _) _).setCell (Nat.le_succ _) _
  clear HN4 HK4
  by_cases h2 : C2 = 0
  · subst h2
    have HQ : Hid (Q = (⟨L, []⟩, 0)) := F3.out rfl
    clear F2 F3
    go_wp2
    refine bodyPost_ret (v := .tuple #[.agg #[.slice xa L.length xc, .slice none 0 0], .int .i64 0]) (by simp [results, Tryz.results15, go_sem, d1, d2]) rfl ⟨?_, HBs.out _ _⟩
    rw [HQ.out]
    exact ⟨_, _, rfl, ((HX4.out.set _ (by omega)).set _ (by omega)).1, bytes_none _⟩
  · have h2b : (C2 != 0) = true := by rw [bne_iff_ne]; exact h2
    have HQ : Hid (Q = (Lk.Disk.none, C2)) := F2.out h2
    clear F2 F3 h2
    go_wp2
    refine bodyPost_ret (v := .tuple #[.agg #[.slice none 0 0, .slice none 0 0], .int .i64 C2]) (by simp [results, Tryz.results15, go_sem, d1, d2]) rfl ⟨diskR_none _ HQ.out, HBs.out _ _⟩
end Go.Proofs.YtlnbcgjahjjpfacGreatDoor
