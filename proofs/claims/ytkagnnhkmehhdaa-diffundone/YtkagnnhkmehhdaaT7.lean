/- The contract of diff.Apply. -/
import Derived.Test.YtkagnnhkmehhdaaT6
import Derived.Test.YtkagnnhkmehhdaaT3
import Derived.Deep.RegionWith
import Derived.Deep.CutRange
namespace Go.Proofs.Ytkagnnhkmehhdaa
open Go.RowKit
theorem orr3 (l : List (Int × Int)) (o : Int × Int × Int) : orr [Lk.chk l, Dk.opErr o, Dk.fitErr l o] = Dk.applyErr l o := by
  simp only [orr, Dk.applyErr]
  by_cases h : Dk.fitErr l o = 0
  · rw [if_pos h, h]
  · rw [if_neg h]
theorem cells3 (w : World) (x y z : Int) (t : TypeId) : ∀ j, j < [x, y, z].length → (w.alloc (.cells #[.int .i64 x, .int .i64 y, .int .i64 z] t)).cell? ⟨w.heap.size, j, none⟩ = some (.int .i64 ([x, y, z].getD j 0)) := by
  intro j hj
  rcases j with _ | _ | _ | j
  · simp [go_sem]
  · simp [go_sem]
  · simp [go_sem]
  · simp at hj; omega
/-- a step's three cells -/
def OpAt (w : World) (g : Nat) (k n x : Int) : Prop := w.cell? ⟨g, 0, none⟩ = some (.int .i64 k) ∧ w.cell? ⟨g, 1, none⟩ = some (.int .i64 n) ∧ w.cell? ⟨g, 2, none⟩ = some (.int .i64 x)
theorem OpAt.below {w w' : World} {g B : Nat} {k n x : Int} (h : OpAt w g k n x) (hb : Below B w w') (hg : g < B) : OpAt w' g k n x :=
  ⟨(hb.cell (p := ⟨g, 0, none⟩) hg).trans h.1, (hb.cell (p := ⟨g, 1, none⟩) hg).trans h.2.1, (hb.cell (p := ⟨g, 2, none⟩) hg).trans h.2.2⟩
theorem or3_any (w : World) (l : List (Int × Int)) (k n x : Int) :
    Calls Try.prog 18 #[.slice (some ⟨w.heap.size, 0, none⟩) 3 3] (w.alloc (.cells #[.int .i64 (Lk.chk l), .int .i64 (Dk.opErr (k, n, x)), .int .i64 (Dk.fitErr l (k, n, x))] 22)) fun e w' => e = .returned (.int .i64 (Dk.applyErr l (k, n, x))) ∧ Below w.heap.size w w' := by
  refine (or_any w.heap.size 3 [Lk.chk l, Dk.opErr (k, n, x), Dk.fitErr l (k, n, x)] _ (by simp) (cells3 _ _ _ _ _)).mono ?_
  rintro e w' ⟨rfl, hb⟩
  exact ⟨by rw [orr3], ((Below.refl _ w).alloc (Nat.le_refl _) _).trans (hb.mono (by simp))⟩
set_option maxHeartbeats 8000000 in
theorem apply_any (vl : Value) (l : List (Int × Int)) (k n x : Int) (w : World) (hP : PinsAt w vl l) :
    Calls Try.prog 9 #[vl, .agg #[.int .i64 k, .int .i64 n, .int .i64 x]] w fun e w' => (∃ y, e = .returned (.tuple #[y, .int .i64 (Dk.applyErr l (k, n, x))]) ∧ PinsAt w' y (Dk.applied l (k, n, x))) ∧ Below w.heap.size w w' := by
  obtain ⟨W, hW⟩ : ∃ W, W = w.alloc (.cells #[.int .i64 k, .int .i64 n, .int .i64 x] 29) := ⟨_, rfl⟩
  have HW : Hid (W = w.alloc (.cells #[.int .i64 k, .int .i64 n, .int .i64 x] 29)) := hW
  have HB : Hid (Below w.heap.size w W) := by rw [hW]; exact (Below.refl _ w).alloc (Nat.le_refl _) _
  have HP : Hid (PinsAt W vl l) := hP.below HB.out
  have HS : Hid (W.heap.size = w.heap.size + 1) := by rw [hW]; exact World.size_alloc _ _
  have HO : Hid (OpAt W w.heap.size k n x) := by rw [hW]; exact ⟨by simp [go_sem], by simp [go_sem], by simp [go_sem]⟩
  have HE := orr3 l (k, n, x)
  have HE' : Hid (orr [Lk.chk l, Dk.opErr (k, n, x), Dk.fitErr l (k, n, x)] = Dk.applyErr l (k, n, x)) := HE
  clear HE hW hP
  go_enter Try.func9, Try.ntmps9
  go_upto_region 1 with fail
  rw [← HW.out]
  go_cut [6] from 8 to 16 (fun s6 wx => s6 = .int .i64 (Dk.applyErr l (k, n, x)) ∧ Hid (Below W.heap.size W wx))
  case first =>
    have hB : Below W.heap.size W W.drew := (Below.refl _ _).drew
    have hc : OpAt W w.heap.size k n x := HO.out
    obtain ⟨c0, c1, c2⟩ := hc
    go_region_with (first
      | (go_at_call 17; refine (check_any _ l _ (HP.out.below (by assumption))).mono ?_; rintro e w' ⟨rfl, hb'⟩; have hB' : Below W.heap.size W w' := Below.trans (by assumption) (hb'.mono (Below.size (by assumption))); obtain ⟨c0, c1, c2⟩ := HO.out.below hB' (by rw [HS.out]; omega))
      | (go_at_call 20; refine (checkOp_any k n x _).mono ?_; rintro e w' ⟨rfl, hb'⟩; have hB' : Below W.heap.size W w' := Below.trans (by assumption) (hb'.mono (Below.size (by assumption))); obtain ⟨c0, c1, c2⟩ := HO.out.below hB' (by rw [HS.out]; omega))
      | (go_at_call 21; refine (checkFit_any _ l k n x _ (HP.out.below (by assumption))).mono ?_; rintro e w' ⟨rfl, hb'⟩; have hB' : Below W.heap.size W w' := Below.trans (by assumption) (hb'.mono (Below.size (by assumption))); obtain ⟨c0, c1, c2⟩ := HO.out.below hB' (by rw [HS.out]; omega))
      | (go_at_call 18; refine (or3_any _ l k n x).mono ?_; rintro e w' ⟨rfl, hb'⟩))
    all_goals
      go_wp2_with fail
      go_meet
      exact ⟨rfl, Below.trans hB' (hb'.mono hB'.size)⟩
  case rest =>
    obtain ⟨rfl, HC⟩ := hcut
    have HBC : Hid (Below w.heap.size w wc) := HB.out.trans (HC.out.mono HB.out.size)
    by_cases he : Dk.applyErr l (k, n, x) = 0
    · have hc : Lk.chk l = 0 := by
        unfold Dk.applyErr at he
        by_cases hc : Lk.chk l = 0
        · exact hc
        · rw [if_neg hc] at he; exact he
      have ho : Dk.opErr (k, n, x) = 0 := by
        unfold Dk.applyErr at he
        rw [if_pos hc] at he
        by_cases ho : Dk.opErr (k, n, x) = 0
        · exact ho
        · rw [if_neg ho] at he; exact he
      have hn : 1 ≤ n ∧ n ≤ 20 := by
        by_cases hn : 1 ≤ n ∧ n ≤ 20
        · exact hn
        · exfalso
          unfold Dk.opErr at ho
          by_cases hk : 1 ≤ k ∧ k ≤ 3
          · rw [if_pos hk, if_neg (fun h => hn h.1)] at ho; cases ho
          · rw [if_neg hk] at ho; cases ho
      have HAP : Hid (Dk.applied l (k, n, x) = Dk.pinsOf ((Dk.tb l).set n.toNat x)) := by rw [Dk.applied, if_pos he]; rfl
      rw [he]
      obtain ⟨m, rfl⟩ : ∃ m : Nat, n = m := ⟨n.toNat, by omega⟩
      obtain ⟨hn1, hn2⟩ := hn
      have hm : m < 21 := by omega
      have HC0 : Hid (Lk.chk l = 0) := hc
      have HE0 : Hid (Dk.applyErr l (k, (m : Int), x) = 0) := he
      clear he ho hc HE' HB
      go_wp2_with fail
      refine (tableOf_any _ _ _ (HP.out.below HC.out) HC0.out).mono ?_
      rintro e w1 ⟨rfl, hb1⟩
      have hB1 : Below W.heap.size W w1 := HC.out.trans (hb1.mono HC.out.size)
      obtain ⟨c0, c1, c2⟩ := HO.out.below hB1 (by rw [HS.out]; omega)
      have hs1 : w.heap.size < w1.heap.size := by have := hB1.size; rw [HS.out] at this; omega
      have HB1 : Hid (Below w.heap.size w w1) := HBC.out.trans (hb1.mono HBC.out.size)
      clear hB1 hb1
      have hsz : (tcells (Dk.tb l)).size = 21 := by rw [tcells_size, Dk.tb_len]
      have HT : Hid (TabAt (w1.alloc (.cells ((tcells (Dk.tb l)).setIfInBounds m (.int .i64 x)) 47)) w1.heap.size 47 ((Dk.tb l).set m x)) := by rw [tcells_set]; exact heap_alloc_last w1 _
      have HL : Hid (((Dk.tb l).set m x).length = 21) := by rw [List.length_set, Dk.tb_len]; rfl
      go_wp2_with (first | (guard_target = wpList _ _ _ (Oper.mk _ (Op.store 47 (.tmp 7) _) _ _ _ _ :: _) _ _; refine stNT rfl (.tmp 7) (.tmp 21) rfl (by rfl) (Dk.tb l) (by rfl) (Dk.tb_len l) ?_) | (guard_target = wpList _ _ _ (Oper.mk _ (Op.load 47 (.tmp 7)) _ _ _ _ :: _) _ _; refine ldT (t := (Dk.tb l).set m x) rfl (.tmp 7) rfl w1.heap.size (by rfl) HT.out HL.out ?_))
      refine (pins_any _ HL.out _).mono ?_
      rintro e w2 ⟨⟨y, rfl, hy⟩, hb2⟩
      have HY : Hid (PinsAt w2 y (Dk.applied l (k, (m : Int), x))) := by rw [HAP.out, Int.toNat_natCast]; exact hy
      have HB2 : Hid (Below w.heap.size w w2) := (HB1.out.alloc HB1.out.size _).trans (hb2.mono (by simp only [World.size_alloc]; omega))
      clear hy hb2 HT hsz
      go_wp2
      go_ret2
      exact ⟨⟨_, by rw [HE0.out]; rfl, HY.out⟩, HB2.out⟩
    · have he' : (Dk.applyErr l (k, n, x) != 0) = true := by simpa using he
      have HAP : Hid (Dk.applied l (k, n, x) = []) := by rw [Dk.applied, if_neg he]; rfl
      clear he
      go_wp2
      go_ret2
      exact ⟨⟨_, rfl, by rw [HAP.out]; exact pins_none _⟩, HBC.out⟩
end Go.Proofs.Ytkagnnhkmehhdaa
