/- The contract of whole.Release; blocks that are written. -/
import Derived.Test.YtmlhipdfjnamiaaGreatN1
import Derived.Test.YtmlhipdfjnamiaaGreatPC
import Derived.Test.YtmlhipdfjnamiaaGreatKK
import Derived.Deep.RegionHeld3
import Derived.Deep.RegionWith
import Derived.Deep.CutRange
import Derived.Laws.OwnMore
import Derived.Deep.OwnRows
namespace Go.Proofs.YtmlhipdfjnamiaaGreat
open Go.RowKit
theorem Blk.put {w : World} {b : Nat} {cs : Array Value} {t : TypeId} (h : Blk w b cs t) (i : Nat) (v : Value) : Blk (w.setCell ⟨b, i, none⟩ v) b (cs.setIfInBounds i v) t := by
  unfold Blk at h ⊢
  simp [World.setCell, Array.getElem?_modify, h]
theorem Blk.off {w : World} {b g o : Nat} {cs : Array Value} {t : TypeId} {u : Value} (h : Blk w b cs t) (hne : g ≠ b) : Blk (w.setCell ⟨g, o, none⟩ u) b cs t := by
  unfold Blk at h ⊢
  simp [World.setCell, Array.getElem?_modify, h, hne]
theorem chk_len {l : List (Int × Int)} (h : Lk.chk l = 0) : l.length ≤ 12 := by
  unfold Lk.chk at h
  by_cases hl : 12 < l.length
  · rw [if_pos hl] at h; exact absurd h (by decide)
  · omega
set_option maxHeartbeats 2000000 in
theorem wRel_any (i : Int) (v : Value) (l : List (Int × Int)) (w : World) (hP : PinsAt w v l) (hl : l.length ≤ 12) :
    Calls Tryz.prog 44 #[.agg #[.int .i64 i, v]] w fun e w' => (∃ y, e = .returned (.agg #[.int .i64 i, y]) ∧ PinsNew w' w.heap.size y l) ∧ Below w.heap.size w w' := by
  obtain ⟨a, c, rfl⟩ := pins_slice hP
  have HC : Hid (∀ w', Below w.heap.size w w' → Calls Tryz.prog 76 #[.slice a l.length c] w' fun e w'' => (∃ y, e = .returned y ∧ PinsNew w'' w'.heap.size y l) ∧ Below w'.heap.size w' w'') := fun w' hb => clonePins_any _ l w' (hP.below hb) hl
  clear hP hl
  have HB0 : Hid (Below w.heap.size w ((w.alloc (.cells #[.int .i64 i, .slice a l.length c] 24)).alloc (.cells #[.int .i64 0, .slice none 0 0] 24))) := ((Below.refl _ w).alloc (Nat.le_refl _) _).alloc (by simp) _
  have HK0 : Hid (Blk ((w.alloc (.cells #[.int .i64 i, .slice a l.length c] 24)).alloc (.cells #[.int .i64 0, .slice none 0 0] 24)) w.heap.size #[.int .i64 i, .slice a l.length c] 24) := (blk_alloc w _ _).below ((Below.refl _ _).alloc (Nat.le_refl _) _)
  have HZ0 : Hid (Blk ((w.alloc (.cells #[.int .i64 i, .slice a l.length c] 24)).alloc (.cells #[.int .i64 0, .slice none 0 0] 24)) (w.heap.size + 1) #[.int .i64 0, .slice none 0 0] 24) := by
    have := blk_alloc (w.alloc (.cells #[.int .i64 i, .slice a l.length c] 24)) #[.int .i64 0, .slice none 0 0] 24
    rwa [World.size_alloc] at this
  go_enter Tryz.func44, Tryz.ntmps44
  go_wp2_with fail
  generalize ((w.alloc (.cells #[.int .i64 i, .slice a l.length c] 24)).alloc (.cells #[.int .i64 0, .slice none 0 0] 24)) = W at HB0 HK0 HZ0 ⊢
  refine (HC.out _ HB0.out).mono ?_
  rintro e w1 ⟨⟨y, rfl, hy⟩, hb1⟩
  obtain ⟨ya, yc, rfl⟩ := pins_slice hy.pins
  have HY : Hid (PinsNew w1 W.heap.size (.slice ya l.length yc) l) := hy
  have HB1 : Hid (Below w.heap.size w w1) := HB0.out.trans (hb1.mono HB0.out.size)
  have hk := HK0.out.below hb1
  have hz := HZ0.out.below hb1
  have HL1 : Hid (w.heap.size < W.heap.size) := HK0.out.lt
  have HL2 : Hid (w.heap.size + 1 < W.heap.size) := HZ0.out.lt
  clear hy hb1 HB0 HK0 HZ0 HC
  have k0 := hk.cell 0
  have k1 := hk.cell 1
  simp only [List.getElem?_toArray, List.getElem?_cons_zero, List.getElem?_cons_succ] at k0 k1
  have kf0 := hk.free 0
  have kf1 := hk.free 1
  have d0 := hz.cell 0
  have d1 := hz.cell 1
  simp only [List.getElem?_toArray, List.getElem?_cons_zero, List.getElem?_cons_succ] at d0 d1
  have df0 := hz.free 0
  have df1 := hz.free 1
  clear hk hz
  go_wp2
  refine bodyPost_ret (v := .agg #[.int .i64 i, .slice ya l.length yc]) (by simp [results, Tryz.results44, go_sem, d0, d1]) rfl ⟨⟨_, rfl, ?_⟩, ?_⟩
  · exact (((HY.out.set HL1.out).set HL2.out).set HL2.out).mono (Nat.le_of_lt HL1.out)
  · exact (((HB1.out.setCell (Nat.le_refl _) _).setCell (Nat.le_succ _) _).setCell (Nat.le_succ _) _)
end Go.Proofs.YtmlhipdfjnamiaaGreat
