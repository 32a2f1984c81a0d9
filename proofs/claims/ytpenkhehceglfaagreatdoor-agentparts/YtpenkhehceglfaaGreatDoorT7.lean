/- The contracts of diff.lay and diff.Apply. -/
import Derived.Test.YtpenkhehceglfaaGreatDoorT6
import Derived.Test.YtpenkhehceglfaaGreatDoorMG
import Derived.BigRegion
import Derived.Deep.RegionWith
import Derived.Deep.CutRange
namespace Go.Proofs.YtpenkhehceglfaaGreatDoor
open Go.RowKit
theorem orr3 (l : List (Int × Int)) (o : Int × Int × Int) : orr [Lk.chk l, Dk.opErr o, Dk.fitErr l o] = Dk.applyErr l o := by
  simp only [orr, Dk.applyErr]
  by_cases h : Dk.fitErr l o = 0
  · rw [if_pos h, h]
  · rw [if_neg h]
/-- a step's three cells -/
def OpAt (w : World) (g : Nat) (k n x : Int) : Prop := w.cell? ⟨g, 0, none⟩ = some (.int .i64 k) ∧ w.cell? ⟨g, 1, none⟩ = some (.int .i64 n) ∧ w.cell? ⟨g, 2, none⟩ = some (.int .i64 x)
theorem OpAt.below {w w' : World} {g B : Nat} {k n x : Int} (h : OpAt w g k n x) (hb : Below B w w') (hg : g < B) : OpAt w' g k n x :=
  ⟨(hb.cell (p := ⟨g, 0, none⟩) hg).trans h.1, (hb.cell (p := ⟨g, 1, none⟩) hg).trans h.2.1, (hb.cell (p := ⟨g, 2, none⟩) hg).trans h.2.2⟩
theorem or3_any (w : World) (l : List (Int × Int)) (k n x : Int) :
    Calls Tryz.prog 20 #[.slice (some ⟨w.heap.size, 0, none⟩) 3 3] (w.alloc (.cells #[.int .i64 (Lk.chk l), .int .i64 (Dk.opErr (k, n, x)), .int .i64 (Dk.fitErr l (k, n, x))] 28)) fun e w' => e = .returned (.int .i64 (Dk.applyErr l (k, n, x))) ∧ Below w.heap.size w w' := by
  refine (or_any w.heap.size 3 [Lk.chk l, Dk.opErr (k, n, x), Dk.fitErr l (k, n, x)] _ (by simp) (cells3 _ _ _ _ _)).mono ?_
  rintro e w' ⟨rfl, hb⟩
  exact ⟨by rw [orr3], ((Below.refl _ w).alloc (Nat.le_refl _) _).trans (hb.mono (by simp))⟩
theorem TabAt.drew {w : World} {b : Nat} {ty : TypeId} {t : List Int} (h : TabAt w b ty t) : TabAt w.drew b ty t := h
set_option maxHeartbeats 2000000 in
theorem lay_any (g : Nat) (t : List Int) (k : Int) (n : Nat) (z : Int) (w : World) (hT : TabAt w g 110 t) (hl : t.length = 21) (hn : n < 21) :
    Calls Tryz.prog 53 #[.pointer (some ⟨g, 0, none⟩), .agg #[.int .i64 k, .int .i64 n, .int .i64 z]] w fun e w' => e = .returned (.tuple #[]) ∧ w' = ((w.setCell ⟨g, n, none⟩ (.int .i64 z)).alloc (.cells #[.int .i64 k, .int .i64 n, .int .i64 z] 70)).drew := by
  have c0 := hT.cell n (by rw [hl]; exact hn)
  have hsz := hT.lt
  have hf := frozen_of_row w g n _ _ hT
  have hn' : (n : Int) < 21 := by omega
  clear hT hl
  go_enter Tryz.func53, Tryz.ntmps53
  go_wp2_with fail
  go_region
  go_wp2
  go_end0
  exact ⟨rfl, rfl⟩
set_option maxHeartbeats 8000000 in
theorem apply_new (vl : Value) (l : List (Int × Int)) (k n x : Int) (w : World) (hP : PinsAt w vl l) :
    Calls Tryz.prog 25 #[vl, .agg #[.int .i64 k, .int .i64 n, .int .i64 x]] w fun e w' => (∃ y, e = .returned (.tuple #[y, .int .i64 (Dk.applyErr l (k, n, x))]) ∧ PinsNew w' w.heap.size y (Dk.applied l (k, n, x))) ∧ Below w.heap.size w w' := by
  have HP0 : Hid (PinsAt w vl l) := hP
  have HB0 : Hid (∀ O, Below w.heap.size w (w.alloc O)) := fun O => (Below.refl _ w).alloc (Nat.le_refl _) O
  have HO0 : Hid (OpAt (w.alloc (.cells #[.int .i64 k, .int .i64 n, .int .i64 x] 70)) w.heap.size k n x) := ⟨by simp [go_sem], by simp [go_sem], by simp [go_sem]⟩
  have HE' : Hid (orr [Lk.chk l, Dk.opErr (k, n, x), Dk.fitErr l (k, n, x)] = Dk.applyErr l (k, n, x)) := orr3 l (k, n, x)
  clear hP
  go_enter Tryz.func25, Tryz.ntmps25
  go_wp2_with fail
  refine (of_any _ _ _ (HP0.out.below (HB0.out _))).mono ?_
  rintro e w1 ⟨rfl, hb1⟩
  have HO1 : Hid (OpAt w1 w.heap.size k n x) := HO0.out.below hb1 (by simp)
  have HB1 : Hid (Below w.heap.size w w1) := (HB0.out _).trans (hb1.mono (by simp))
  have hs1 : w.heap.size < w1.heap.size := by have := hb1.size; simp at this; omega
  clear hb1 HO0
  go_upto_region 2 with (guard_target = wpList _ _ _ (Oper.mk _ (Op.store 110 (.tmp 6) _) _ _ _ _ :: _) _ _; refine stNV rfl (.tmp 6) (.tmp 12) rfl (by rfl) (ofTab l) (by rfl) (ofTab_len l) ?_)
  have HO : Hid (OpAt (w1.alloc (.cells (tcells (ofTab l)) 110)) w.heap.size k n x) := HO1.out.below ((Below.refl _ w1).alloc (Nat.le_refl _) _) hs1
  have HT : Hid (TabAt (w1.alloc (.cells (tcells (ofTab l)) 110)) w1.heap.size 110 (ofTab l)) := heap_alloc_last w1 _
  have HB : Hid (Below w.heap.size w (w1.alloc (.cells (tcells (ofTab l)) 110))) := HB1.out.alloc HB1.out.size _
  have HP : Hid (PinsAt (w1.alloc (.cells (tcells (ofTab l)) 110)) vl l) := HP0.out.below HB.out
  clear HO1 HB1 HB0 HP0
  generalize w1.alloc (.cells (tcells (ofTab l)) 110) = W at HO HT HB HP
  have hW1 : w1.heap.size < W.heap.size := HT.out.lt
  generalize w1.heap.size = g at HT hs1 hW1
  go_cut [8] from 14 to 21 (fun s8 wx => s8 = .int .i64 (Dk.applyErr l (k, n, x)) ∧ Hid (Below W.heap.size W wx))
  case first =>
    have hB : Below W.heap.size W W.drew := (Below.refl _ _).drew
    have hc : OpAt W w.heap.size k n x := HO.out
    obtain ⟨c0, c1, c2⟩ := hc
    go_region_with (first
      | (go_at_call 51; refine (checkOp_any k n x _).mono ?_; rintro e w' ⟨rfl, hb'⟩; have hB' : Below W.heap.size W w' := Below.trans (by assumption) (hb'.mono (Below.size (by assumption))); obtain ⟨c0, c1, c2⟩ := HO.out.below hB' (by omega))
      | (go_at_call 52; refine (checkFit_any _ l k n x _ (HP.out.below (by assumption))).mono ?_; rintro e w' ⟨rfl, hb'⟩; have hB' : Below W.heap.size W w' := Below.trans (by assumption) (hb'.mono (Below.size (by assumption))); obtain ⟨c0, c1, c2⟩ := HO.out.below hB' (by omega))
      | (go_at_call 20; refine (or3_any _ l k n x).mono ?_; rintro e w' ⟨rfl, hb'⟩))
    all_goals
      go_wp2_with fail
      go_meet
      exact ⟨rfl, Below.trans hB' (hb'.mono hB'.size)⟩
  case rest =>
    obtain ⟨rfl, HC⟩ := hcut
    have HBC : Hid (Below w.heap.size w wc) := HB.out.trans (HC.out.mono HB.out.size)
    by_cases he : Dk.applyErr l (k, n, x) = 0
    · have hc : Lk.chk l = 0 := by
        unfold Dk.applyErr at he
        by_cases hc : Lk.chk l = 0
        · exact hc
        · rw [if_neg hc] at he; exact he
      have ho : Dk.opErr (k, n, x) = 0 := by
        unfold Dk.applyErr at he
        rw [if_pos hc] at he
        by_cases ho : Dk.opErr (k, n, x) = 0
        · exact ho
        · rw [if_neg ho] at he; exact he
      have hn : 1 ≤ n ∧ n ≤ 20 := by
        by_cases hn : 1 ≤ n ∧ n ≤ 20
        · exact hn
        · exfalso
          unfold Dk.opErr at ho
          by_cases hk : 1 ≤ k ∧ k ≤ 3
          · rw [if_pos hk, if_neg (fun h => hn h.1)] at ho; cases ho
          · rw [if_neg hk] at ho; cases ho
      have HAP : Hid (Dk.applied l (k, n, x) = Dk.pinsOf ((Dk.tb l).set n.toNat x)) := by rw [Dk.applied, if_pos he]; rfl
      have HOF : Hid (ofTab l = Dk.tb l) := by rw [ofTab, if_pos hc]; rfl
      rw [he]
      obtain ⟨m, rfl⟩ : ∃ m : Nat, n = m := ⟨n.toNat, by omega⟩
      obtain ⟨hn1, hn2⟩ := hn
      have hm : m < 21 := by omega
      have HE0 : Hid (Dk.applyErr l (k, (m : Int), x) = 0) := he
      obtain ⟨c0, c1, c2⟩ := HO.out.below HC.out (by omega)
      have HTc : Hid (TabAt wc g 110 (Dk.tb l)) := by
        have := HT.out.below HC.out hW1
        rw [HOF.out] at this
        exact this
      have hsc : W.heap.size ≤ wc.heap.size := HC.out.size
      clear he ho hc HE' HB
      go_wp2_with fail
      refine (lay_any g (Dk.tb l) k m x wc HTc.out (Dk.tb_len l) hm).mono ?_
      rintro e w2 ⟨rfl, hw2⟩
      have HT2 : Hid (TabAt w2 g 110 ((Dk.tb l).set m x)) := by rw [hw2]; exact ((HTc.out.set m x).alloc _).drew
      have HB2 : Hid (Below w.heap.size w w2) := by rw [hw2]; exact ((HBC.out.setCell (Nat.le_of_lt hs1) _).alloc (by simp only [World.size_setCell]; exact HBC.out.size) _).drew
      have HL : Hid (((Dk.tb l).set m x).length = 21) := by rw [List.length_set, Dk.tb_len]; rfl
      clear hw2 HTc c0 c1 c2
      go_wp2_with (guard_target = wpList _ _ _ (Oper.mk _ (Op.load 110 (.tmp 6)) _ _ _ _ :: _) _ _; refine ldV (t := (Dk.tb l).set m x) rfl (.tmp 6) rfl g (by rfl) HT2.out HL.out ?_)
      refine (pins_new _ HL.out _).mono ?_
      rintro e w3 ⟨⟨y, rfl, hy⟩, hb3⟩
      have HY : Hid (PinsNew w3 w.heap.size y (Dk.applied l (k, (m : Int), x))) := by rw [HAP.out, Int.toNat_natCast]; exact hy.mono HB2.out.size
      have HB3 : Hid (Below w.heap.size w w3) := HB2.out.trans (hb3.mono HB2.out.size)
      clear hy hb3 HT2
      go_wp2
      go_ret2
      exact ⟨⟨_, by rw [HE0.out]; rfl, HY.out⟩, HB3.out⟩
    · have he' : (Dk.applyErr l (k, n, x) != 0) = true := by simpa using he
      have HAP : Hid (Dk.applied l (k, n, x) = []) := by rw [Dk.applied, if_neg he]; rfl
      clear he
      go_wp2
      go_ret2
      exact ⟨⟨_, rfl, by rw [HAP.out]; exact pinsNew_none _ _⟩, HBC.out⟩
theorem apply_any (vl : Value) (l : List (Int × Int)) (k n x : Int) (w : World) (hP : PinsAt w vl l) :
    Calls Tryz.prog 25 #[vl, .agg #[.int .i64 k, .int .i64 n, .int .i64 x]] w fun e w' => (∃ y, e = .returned (.tuple #[y, .int .i64 (Dk.applyErr l (k, n, x))]) ∧ PinsAt w' y (Dk.applied l (k, n, x))) ∧ Below w.heap.size w w' := by
  refine (apply_new vl l k n x w hP).mono ?_
  rintro e w' ⟨⟨y, h1, h2⟩, hb⟩
  exact ⟨⟨y, h1, h2.pins⟩, hb⟩
end Go.Proofs.YtpenkhehceglfaaGreatDoor
