/- The contract of the document's Stepped, whole. -/
import Derived.Test.YtbnaaookeagjgaaT10
import Derived.Deep.RegionWith
namespace Go.Proofs.Ytbnaaookeagjgaa
open Go.RowKit
theorem applyErr_lock {l : List (Int × Int)} {o : Int × Int × Int} (h : Lk.chk l ≠ 0) : Dk.applyErr l o = Lk.chk l := by rw [Dk.applyErr, if_neg h]
theorem applyErr_op {l : List (Int × Int)} {o : Int × Int × Int} (h : Lk.chk l = 0) (ho : Dk.opErr o ≠ 0) : Dk.applyErr l o = Dk.opErr o := by rw [Dk.applyErr, if_pos h, if_neg ho]
theorem applyErr_fit {l : List (Int × Int)} {o : Int × Int × Int} (h : Lk.chk l = 0) (ho : Dk.opErr o = 0) : Dk.applyErr l o = Dk.fitErr l o := by rw [Dk.applyErr, if_pos h, if_pos ho]
theorem applied_bad {l : List (Int × Int)} {o : Int × Int × Int} (h : Dk.applyErr l o ≠ 0) : Dk.applied l o = [] := by rw [Dk.applied, if_neg h]
theorem stepped_new (vl : Value) (l : List (Int × Int)) (k n x : Int) (w : World) (hP : PinsAt w vl l) :
    Calls Try.prog 33 #[vl, .agg #[.int .i64 k, .int .i64 n, .int .i64 x]] w fun e w' => (∃ y, e = .returned (.tuple #[y, .int .i64 (Dk.applyErr l (k, n, x))]) ∧ PinsNew w' w.heap.size y (Dk.applied l (k, n, x))) ∧ Below w.heap.size w w' := by
  by_cases hc : Lk.chk l = 0
  · by_cases hk : 1 ≤ k ∧ k ≤ 3
    · by_cases hr : (1 ≤ n ∧ n ≤ 20) ∧ ((k = 2 ∧ x = 0) ∨ (k ≠ 2 ∧ 1 ≤ x ∧ x ≤ 99))
      · obtain ⟨hn, hx⟩ := hr
        have ho : Dk.opErr (k, n, x) = 0 := by
          rcases hx with ⟨rfl, hx⟩ | ⟨h2, hx⟩
          · rw [opErr_drop hn, if_pos hx]
          · rw [opErr_come (by omega) hn, if_pos hx]
        obtain ⟨m, rfl⟩ : ∃ m : Nat, n = m := ⟨n.toNat, by omega⟩
        refine (stepped_fit vl l k x m w hP hc hk (by omega) hx _ rfl).mono ?_
        rintro e w' ⟨⟨y, rfl, hy⟩, hb⟩
        refine ⟨⟨y, by rw [applyErr_fit hc ho], ?_⟩, hb⟩
        rw [Dk.applied, applyErr_fit hc ho]
        have e : Dk.putO (Dk.tb l) (k, (m : Int), x) = (Dk.tb l).set m x := by rw [Dk.putO]; simp
        rw [e]
        exact hy
      · have ho : Dk.opErr (k, n, x) = 3 := by
          by_cases hn : 1 ≤ n ∧ n ≤ 20
          · by_cases h2 : k = 2
            · subst h2; rw [opErr_drop hn, if_neg]; intro hx; exact hr ⟨hn, .inl ⟨rfl, hx⟩⟩
            · rw [opErr_come (by omega) hn, if_neg]; intro hx; exact hr ⟨hn, .inr ⟨h2, hx⟩⟩
          · exact opErr_name hk hn
        have he : Dk.applyErr l (k, n, x) = 3 := (applyErr_op hc (by rw [ho]; decide)).trans ho
        refine (stepped_range vl l k n x w hP hc hk ?_).mono ?_
        · by_cases hn : 1 ≤ n ∧ n ≤ 20
          · refine .inr (.inr ⟨hn.1, hn.2, ?_⟩)
            by_cases h2 : k = 2
            · exact .inl ⟨h2, fun hx => hr ⟨hn, .inl ⟨h2, hx⟩⟩⟩
            · refine .inr ⟨h2, ?_⟩
              have : ¬ (1 ≤ x ∧ x ≤ 99) := fun hx => hr ⟨hn, .inr ⟨h2, hx⟩⟩
              omega
          · omega
        · rintro e w' ⟨rfl, hb⟩
          exact ⟨⟨_, by rw [he], by rw [applied_bad (by rw [he]; decide)]; exact pinsNew_none _ _⟩, hb⟩
    · have ho : Dk.opErr (k, n, x) = 4 := opErr_kind (by omega) (by omega) (by omega)
      have he : Dk.applyErr l (k, n, x) = 4 := (applyErr_op hc (by rw [ho]; decide)).trans ho
      refine (stepped_kind vl l k n x w hP hc (by omega)).mono ?_
      rintro e w' ⟨rfl, hb⟩
      exact ⟨⟨_, by rw [he], by rw [applied_bad (by rw [he]; decide)]; exact pinsNew_none _ _⟩, hb⟩
  · refine (stepped_lock vl l k n x w hP hc).mono ?_
    rintro e w' ⟨rfl, hb⟩
    exact ⟨⟨_, by rw [applyErr_lock hc], by rw [applied_bad (by rw [applyErr_lock hc]; exact hc)]; exact pinsNew_none _ _⟩, hb⟩
theorem stepped_any (vl : Value) (l : List (Int × Int)) (k n x : Int) (w : World) (hP : PinsAt w vl l) :
    Calls Try.prog 33 #[vl, .agg #[.int .i64 k, .int .i64 n, .int .i64 x]] w fun e w' => (∃ y, e = .returned (.tuple #[y, .int .i64 (Dk.applyErr l (k, n, x))]) ∧ PinsAt w' y (Dk.applied l (k, n, x))) ∧ Below w.heap.size w w' := by
  refine (stepped_new vl l k n x w hP).mono ?_
  rintro e w' ⟨⟨y, h1, h2⟩, hb⟩
  exact ⟨⟨y, h1, h2.pins⟩, hb⟩
end Go.Proofs.Ytbnaaookeagjgaa
