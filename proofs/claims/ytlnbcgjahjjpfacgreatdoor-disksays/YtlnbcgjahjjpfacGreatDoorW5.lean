/- The contract of lock.readPin. -/
import Derived.Test.YtlnbcgjahjjpfacGreatDoorW4
namespace Go.Proofs.YtlnbcgjahjjpfacGreatDoor
open Go.RowKit
theorem cut_any (s : ByteArray) (hs : s.size ≤ 60000) (w : World) (hE : Env w) :
    Calls Tryz.prog 85 #[.string s, .string ⟨#[64]⟩] w fun e w' => (∃ a b : ByteArray, e = .returned (.tuple #[.string a, .string b, .bool (Lib.cut s.data.toList [64]).2.2]) ∧ a.data.toList = (Lib.cut s.data.toList [64]).1 ∧ b.data.toList = (Lib.cut s.data.toList [64]).2.1 ∧ a.size ≤ 60000 ∧ b.size ≤ 60000) ∧ Below w.heap.size w w' := by
  obtain ⟨m, hm⟩ := hE.mx
  refine (Tryz.strings_Cut s ⟨#[64]⟩ m w (by omega) hm).mono ?_
  rintro e w' ⟨rfl, n, rfl⟩
  refine ⟨⟨_, _, rfl, rfl, rfl, ?_, ?_⟩, below_drewN (Below.refl _ _) n⟩
  · show (Lib.cut s.data.toList [64]).1.toArray.size ≤ 60000
    have hl : s.data.toList.length ≤ 60000 := hs
    unfold Lib.cut; split <;> simp <;> omega
  · show (Lib.cut s.data.toList [64]).2.1.toArray.size ≤ 60000
    have hl : s.data.toList.length ≤ 60000 := hs
    unfold Lib.cut; split <;> simp <;> omega
theorem bcell {W w1 : World} (hb : Below W.heap.size W w1) : (∀ b o, b < W.heap.size → w1.cell? ⟨b, o, none⟩ = W.cell? ⟨b, o, none⟩) ∧ (∀ b o, b < W.heap.size → w1.frozen? ⟨b, o, none⟩ = W.frozen? ⟨b, o, none⟩) :=
  ⟨fun b o h => hb.cell (p := ⟨b, o, none⟩) h, fun b o h => hb.frozen (p := ⟨b, o, none⟩) h⟩
theorem pinOf_no (s : List UInt8) (h : (Lib.cut s [64]).2.2 = false ∨ (Lk.numOf (Lib.cut s [64]).1).isSome = false ∨ (Lk.numOf (Lib.cut s [64]).2.1).isSome = false) : Lk.pinOf s = none := by
  unfold Lk.pinOf
  rcases h with h | h | h
  · rw [if_neg (by rw [h]; decide)]
  · split
    · cases e : Lk.numOf (Lib.cut s [64]).1 with
      | none => rfl
      | some v => rw [e] at h; simp at h
    · rfl
  · split
    · cases e : Lk.numOf (Lib.cut s [64]).2.1 with
      | none => cases Lk.numOf (Lib.cut s [64]).1 <;> rfl
      | some v => rw [e] at h; simp at h
    · rfl
theorem pinOf_yes (s : List UInt8) (x y : Int) (h : (Lib.cut s [64]).2.2 = true) (h1 : (Lk.numOf (Lib.cut s [64]).1).isSome = true) (h2 : (Lk.numOf (Lib.cut s [64]).2.1).isSome = true)
    (hx : ∀ v, Lk.numOf (Lib.cut s [64]).1 = some v → x = v) (hy : ∀ v, Lk.numOf (Lib.cut s [64]).2.1 = some v → y = v) : Lk.pinOf s = some (x, y) := by
  unfold Lk.pinOf
  rw [if_pos h]
  cases e : Lk.numOf (Lib.cut s [64]).1 with
  | none => rw [e] at h1; simp at h1
  | some u =>
    cases e' : Lk.numOf (Lib.cut s [64]).2.1 with
    | none => rw [e'] at h2; simp at h2
    | some v => rw [hx u e, hy v e']
set_option maxHeartbeats 2000000 in
theorem readPin_any (s : ByteArray) (hs : s.size ≤ 60000) (w : World) (hE : Env w) :
    Calls Tryz.prog 107 #[.string s] w fun e w' => (∃ x y : Int, e = .returned (.tuple #[.agg #[.int .i64 x, .int .i64 y], .bool (Lk.pinOf s.data.toList).isSome]) ∧ ∀ p, Lk.pinOf s.data.toList = some p → p = (x, y)) ∧ Below w.heap.size w w' := by
  have HE : Hid (Env w) := hE
  clear hE
  go_enter Tryz.func107, Tryz.ntmps107
  go_wp2_with fail
  have hb0 : Below w.heap.size w (w.alloc (.cells #[.int .i64 0, .int .i64 0] 91)) := (Below.refl _ w).alloc (Nat.le_refl _) _
  have HE0 : Hid (Env (w.alloc (.cells #[.int .i64 0, .int .i64 0] 91))) := HE.out.below hb0
  refine (cut_any s hs _ HE0.out).mono ?_
  rintro e w1 ⟨⟨a, b, rfl, ha, hb, hsa, hsb⟩, hb1⟩
  have HA : Hid (a.data.toList = (Lib.cut s.data.toList [64]).1) := ha
  have HB : Hid (b.data.toList = (Lib.cut s.data.toList [64]).2.1) := hb
  have HE1 : Hid (Env w1) := HE0.out.below hb1
  clear ha hb
  go_wp2_with fail
  refine (readNumber_any a hsa _ HE1.out).mono ?_
  rintro e w2 ⟨⟨n1, rfl, hn1⟩, hb2⟩
  have HE2 : Hid (Env w2) := HE1.out.below hb2
  have HN1 : Hid (∀ v, Lk.numOf a.data.toList = some v → n1 = v) := hn1
  clear hn1
  go_wp2_with fail
  refine (readNumber_any b hsb _ HE2.out).mono ?_
  rintro e w3 ⟨⟨n2, rfl, hn2⟩, hb3⟩
  have HN2 : Hid (∀ v, Lk.numOf b.data.toList = some v → n2 = v) := hn2
  clear hn2
  rw [HA.out] at HN1
  rw [HB.out] at HN2
  rw [HA.out, HB.out]
  have HF : Hid (∀ c o1 o2 : Bool, (Lib.cut s.data.toList [64]).2.2 = c → (Lk.numOf (Lib.cut s.data.toList [64]).1).isSome = o1 → (Lk.numOf (Lib.cut s.data.toList [64]).2.1).isSome = o2 → (c = false ∨ o1 = false ∨ o2 = false) → Lk.pinOf s.data.toList = none) := fun c o1 o2 h0 h1 h2 h => pinOf_no _ (by subst h0 h1 h2; exact h)
  have HY : Hid (∀ c o1 o2 : Bool, (Lib.cut s.data.toList [64]).2.2 = c → (Lk.numOf (Lib.cut s.data.toList [64]).1).isSome = o1 → (Lk.numOf (Lib.cut s.data.toList [64]).2.1).isSome = o2 → c = true → o1 = true → o2 = true → Lk.pinOf s.data.toList = some (n1, n2)) := fun c o1 o2 h0 h1 h2 e0 e1 e2 => pinOf_yes _ _ _ (h0.trans e0) (h1.trans e1) (h2.trans e2) HN1.out HN2.out
  generalize h0 : (Lib.cut s.data.toList [64]).2.2 = c
  generalize h1 : (Lk.numOf (Lib.cut s.data.toList [64]).1).isSome = o1
  generalize h2 : (Lk.numOf (Lib.cut s.data.toList [64]).2.1).isSome = o2
  have HNo : Hid ((c = false ∨ o1 = false ∨ o2 = false) → Lk.pinOf s.data.toList = none) := HF.out c o1 o2 h0 h1 h2
  have HYes : Hid (c = true → o1 = true → o2 = true → Lk.pinOf s.data.toList = some (n1, n2)) := HY.out c o1 o2 h0 h1 h2
  clear HF HY h0 h1 h2 HN1 HN2 HA HB HE HE0 HE1 HE2
  have hB1 : Below (w.alloc (.cells #[.int .i64 0, .int .i64 0] 91)).heap.size (w.alloc (.cells #[.int .i64 0, .int .i64 0] 91)) w3 := (hb1.trans (hb2.mono hb1.size)).trans (hb3.mono (Nat.le_trans hb1.size hb2.size))
  have hBw : Below w.heap.size w w3 := hb0.trans (hB1.mono hb0.size)
  have c0 : w3.cell? ⟨w.heap.size, 0, none⟩ = some (.int .i64 0) := (hB1.cell (p := ⟨w.heap.size, 0, none⟩) (by simp)).trans (by simp [go_sem])
  have c1 : w3.cell? ⟨w.heap.size, 1, none⟩ = some (.int .i64 0) := (hB1.cell (p := ⟨w.heap.size, 1, none⟩) (by simp)).trans (by simp [go_sem])
  have f0 : w3.frozen? ⟨w.heap.size, 0, none⟩ = false := (hB1.frozen (p := ⟨w.heap.size, 0, none⟩) (by simp)).trans (by simp [go_sem])
  have f1 : w3.frozen? ⟨w.heap.size, 1, none⟩ = false := (hB1.frozen (p := ⟨w.heap.size, 1, none⟩) (by simp)).trans (by simp [go_sem])
  clear hb1 hb2 hb3 hb0 hB1
  have HBw : Hid (Below w.heap.size w w3) := hBw
  clear hBw
  cases c <;> cases o1 <;> cases o2
  all_goals go_wp2
  iterate 7
    · have hp := HNo.out (by simp)
      refine bodyPost_ret (v := .tuple #[.agg #[.int .i64 0, .int .i64 0], .bool false]) (by simp [results, Tryz.results107, go_sem, c0, c1]) rfl ⟨⟨0, 0, by rw [hp]; rfl, fun p e => by rw [hp] at e; cases e⟩, ?_⟩
      exact (HBw.out.setCell (Nat.le_refl _) _).setCell (Nat.le_refl _) _
  have hp := HYes.out (by simp) (by simp) (by simp)
  refine bodyPost_ret (v := .tuple #[.agg #[.int .i64 n1, .int .i64 n2], .bool true]) (by simp [results, Tryz.results107, go_sem, c0, c1]) rfl ⟨⟨n1, n2, by rw [hp]; rfl, fun p e => by rw [hp] at e; exact (Option.some.inj e).symm⟩, ?_⟩
  exact (HBw.out.setCell (Nat.le_refl _) _).setCell (Nat.le_refl _) _
end Go.Proofs.YtlnbcgjahjjpfacGreatDoor
