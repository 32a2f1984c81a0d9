/- The contract of slices.Equal at slices of steps. -/
import Derived.Test.YtbnaaookeagjgaaOO
import Derived.Test.YtbnaaookeagjgaaW3
import Derived.Laws.StructEq
import Derived.BigQuiet
import Derived.Deep.QuietTactic
namespace Go.Proofs.Ytbnaaookeagjgaa
open Go.RowKit
def sameO (l m : List (Int × Int × Int)) : Bool := decide (l = m)
theorem sameO_of {l m : List (Int × Int × Int)} (hn : l.length = m.length) (h : ∀ j, j < l.length → l.getD j (0, 0, 0) = m.getD j (0, 0, 0)) : sameO l m = true := by
  refine decide_eq_true (List.ext_getElem hn fun j h1 h2 => ?_)
  have := h j h1
  rwa [List.getD_eq_getElem?_getD, List.getD_eq_getElem?_getD, List.getElem?_eq_getElem h1, List.getElem?_eq_getElem h2] at this
theorem sameO_not {l m : List (Int × Int × Int)} {j : Nat} (h : l.getD j (0, 0, 0) ≠ m.getD j (0, 0, 0)) : sameO l m = false :=
  decide_eq_false fun e => h (by rw [e])
theorem sameO_len {l m : List (Int × Int × Int)} (h : l.length ≠ m.length) : sameO l m = false :=
  decide_eq_false fun e => h (by rw [e])
set_option maxHeartbeats 400000 in
theorem equalO_len (a1 a2 : Option Addr) (n c m d : Nat) (w : World) (h : n ≠ m) :
    Calls Try.prog 17 #[.slice a1 n c, .slice a2 m d] w fun e w' => e = .returned (.bool false) ∧ Below w.heap.size w w' := by
  have h' : ((n : Int) != (m : Int)) = true := by rw [bne_iff_ne]; omega
  go_enter Try.func17, Try.ntmps17
  go_wp2
  go_ret
  exact ⟨rfl, Below.refl _ _⟩
theorem neq_op (x y z u v t : Int) (w : World) : (binOp .neq 43 (.agg #[.int .i64 x, .int .i64 y, .int .i64 z]) (.agg #[.int .i64 u, .int .i64 v, .int .i64 t])).run Try.prog w = .ok (.bool (!(x == u && (y == v && z == t)))) w := by
  have u3 := Try.underlying3
  have hS : Try.prog.underlying 43 = some (.struct (Try.prog.fieldsOf 43)) := by kernel_rfl
  have hp : Try.prog.stoodInHeld 43 = false := by kernel_rfl
  rw [run_neq_struct, show (10000 : Nat) = 9999 + 1 from rfl, run_equalIn_agg w 9999 43 _ _ hS hp]
  simp only [Program.fieldsOf, Try.underlying43]
  go_simp
  by_cases h1 : x = u <;> by_cases h2 : y = v <;> by_cases h3 : z = t <;> simp [h1, h2, h3]
set_option maxHeartbeats 2000000 in
theorem equalO_same (A1 A2 : Option Addr) (b1 o1 c b2 o2 d : Nat) (l m : List (Int × Int × Int)) (w : World) (hl : l.length ≤ 70368744177664) (hn : l.length = m.length)
    (hA : 0 < l.length → A1 = some ⟨b1, o1, none⟩) (hB : 0 < l.length → A2 = some ⟨b2, o2, none⟩)
    (hP : ∀ j, j < l.length → w.cell? ⟨b1, o1 + j * 3, none⟩ = some (.int .i64 (l.getD j (0, 0, 0)).1) ∧ w.cell? ⟨b1, o1 + j * 3 + 1, none⟩ = some (.int .i64 (l.getD j (0, 0, 0)).2.1) ∧ w.cell? ⟨b1, o1 + j * 3 + 2, none⟩ = some (.int .i64 (l.getD j (0, 0, 0)).2.2))
    (hQ : ∀ j, j < m.length → w.cell? ⟨b2, o2 + j * 3, none⟩ = some (.int .i64 (m.getD j (0, 0, 0)).1) ∧ w.cell? ⟨b2, o2 + j * 3 + 1, none⟩ = some (.int .i64 (m.getD j (0, 0, 0)).2.1) ∧ w.cell? ⟨b2, o2 + j * 3 + 2, none⟩ = some (.int .i64 (m.getD j (0, 0, 0)).2.2)) :
    Calls Try.prog 17 #[.slice A1 l.length c, .slice A2 l.length d] w fun e w' => e = .returned (.bool (sameO l m)) ∧ Below w.heap.size w w' := by
  have HN : Hid (l.length = m.length) := hn
  have HA : Hid (0 < l.length → A1 = some ⟨b1, o1, none⟩) := hA
  have HB : Hid (0 < l.length → A2 = some ⟨b2, o2, none⟩) := hB
  have HP : Hid (∀ j, j < l.length → w.cell? ⟨b1, o1 + j * 3, none⟩ = some (.int .i64 (l.getD j (0, 0, 0)).1) ∧ w.cell? ⟨b1, o1 + j * 3 + 1, none⟩ = some (.int .i64 (l.getD j (0, 0, 0)).2.1) ∧ w.cell? ⟨b1, o1 + j * 3 + 2, none⟩ = some (.int .i64 (l.getD j (0, 0, 0)).2.2)) := hP
  have HQ : Hid (∀ j, j < m.length → w.cell? ⟨b2, o2 + j * 3, none⟩ = some (.int .i64 (m.getD j (0, 0, 0)).1) ∧ w.cell? ⟨b2, o2 + j * 3 + 1, none⟩ = some (.int .i64 (m.getD j (0, 0, 0)).2.1) ∧ w.cell? ⟨b2, o2 + j * 3 + 2, none⟩ = some (.int .i64 (m.getD j (0, 0, 0)).2.2)) := hQ
  clear hn hA hB hP hQ
  go_enter Try.func17, Try.ntmps17
  go_wp2
  go_loopg [13] l.length (fun g s13 wr => ∃ k q : Nat, k ≤ l.length ∧ l.length - k ≤ g ∧ s13 = .int .i64 k ∧ wr = w.drewN q ∧ Hid (∀ j, j < k → l.getD j (0, 0, 0) = m.getD j (0, 0, 0)))
  case atStart => exact ⟨0, 0, Nat.zero_le _, by omega, rfl, rfl, fun j hj => absurd hj (Nat.not_lt_zero _)⟩
  case round =>
    obtain ⟨k, q, hk, hg, rfl, rfl, HJ⟩ := hrel
    by_cases hlt : k < l.length
    · have hA := HA.out (by omega)
      have hB := HB.out (by omega)
      subst hA hB
      clear HA HB
      obtain ⟨g1, g2, g3⟩ := HP.out k hlt
      obtain ⟨g4, g5, g6⟩ := HQ.out k (by rw [← HN.out]; exact hlt)
      have HM : Hid (l.getD k (0, 0, 0) = m.getD k (0, 0, 0) → ∀ j, j < k + 1 → l.getD j (0, 0, 0) = m.getD j (0, 0, 0)) := fun e j hj => by
        by_cases h : j = k
        · subst h; exact e
        · exact HJ.out j (by omega)
      have HF : Hid (l.getD k (0, 0, 0) ≠ m.getD k (0, 0, 0) → sameO l m = false) := fun e => sameO_not e
      generalize l.getD k (0, 0, 0) = p at g1 g2 g3 HM HF
      generalize m.getD k (0, 0, 0) = p' at g4 g5 g6 HM HF
      obtain ⟨x, y, z⟩ := p
      obtain ⟨u, v, t⟩ := p'
      simp only at g1 g2 g3 g4 g5 g6
      have hne := fun w => neq_op x y z u v t w
      by_cases he : x = u ∧ y = v ∧ z = t
      · have hb : (!(x == u && (y == v && z == t))) = false := by simp [he]
        have HE : Hid (∀ j, j < k + 1 → l.getD j (0, 0, 0) = m.getD j (0, 0, 0)) := HM.out (by rw [he.1, he.2.1, he.2.2])
        rw [hb] at hne
        clear HM HF he hb
        go_wp2_with fail
        go_quiet (fail)
        go_wp2
        go_roundg (l.length - (k + 1))
        case measure => omega
        case rel => exact ⟨k + 1, q + nq, by omega, by omega, by go_num, by simp, HE⟩
      · have hb : (!(x == u && (y == v && z == t))) = true := by simp; omega
        have HE : Hid (sameO l m = false) := HF.out (fun e => he (by simpa using e))
        rw [hb] at hne
        clear HM HF he hb
        go_wp2_with fail
        go_quiet (fail)
        go_wp2
        go_ret
        exact ⟨by rw [HE.out]; rfl, below_drewN (below_drewN (Below.refl _ _) _) _⟩
    · have hk' : k = l.length := by omega
      have HE : Hid (sameO l m = true) := sameO_of HN.out (by subst hk'; exact HJ.out)
      subst hk'
      clear hk hlt HJ
      go_wp2
      go_ret
      exact ⟨by rw [HE.out]; rfl, below_drewN (Below.refl _ _) _⟩
theorem equalO_any (v u : Value) (l m : List (Int × Int × Int)) (w : World) (hP : OpsAt w v l) (hQ : OpsAt w u m) :
    Calls Try.prog 17 #[v, u] w fun e w' => e = .returned (.bool (sameO l m)) ∧ Below w.heap.size w w' := by
  have hll := hP.1
  obtain ⟨A1, b1, o1, c1, rfl, h1, h2⟩ := hP.open
  obtain ⟨A2, b2, o2, c2, rfl, h3, h4⟩ := hQ.open
  by_cases h : l.length = m.length
  · rw [← h]
    exact equalO_same A1 A2 b1 o1 c1 b2 o2 c2 l m w hll h (fun hl => (h1 hl).1) (fun hl => (h3 (by omega)).1) h2 h4
  · rw [sameO_len h]
    exact equalO_len _ _ _ _ _ _ w h
end Go.Proofs.Ytbnaaookeagjgaa
