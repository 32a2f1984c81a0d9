/- Contracts of note.hasUnused and note.Check. -/
import Derived.Test.YtbnaaookeagjgaaN2
namespace Go.Proofs.Ytbnaaookeagjgaa
open Go.RowKit
theorem num_cell (ns : List Int) (k : Nat) (h : k < ns.length) : ((ns.map fun n => Value.int .i64 n).toArray)[k]? = some (.int .i64 (ns.getD k 0)) := by
  simp [List.getElem?_eq_getElem h]
theorem ixN (ns : List Int) (k : Nat) (hk : k < 6) (hl : ns.length = 6) (w : World) : (Instr.index 86 (numV ns) (.int .i64 k)).run Try.prog w = .ok (.int .i64 (ns.getD k 0)) w := by
  have h1 : (0 : Int) ≤ k ∧ (k : Int) < ((6 : Nat) : Int) := by omega
  unfold numV
  simp only [Instr.index, asIntOf, Sem.run_bind, Sem.run_pure, Result.andThen_ok, run_underlying Try.underlying86, if_pos h1, Try.sizeOf3, part, Try.isAgg3]
  simp [num_cell ns k (by omega)]
/-- some number that isn't used isn't 0 -/
def hasU (ns : List Int) (us : List Bool) (n : Nat) : Bool := (List.range 6).any (fun j => ns.getD j 0 != 0 && !us.getD j false) || (decide (0 < n) && !us.getD 5 false)
theorem hasU_hit {ns : List Int} {us : List Bool} {n k : Nat} (hk : k < 6) (h : (ns.getD k 0 != 0 && !us.getD k false) = true) : hasU ns us n = true := by
  unfold hasU
  rw [Bool.or_eq_true]
  exact .inl (List.any_eq_true.2 ⟨k, by simp [hk], h⟩)
theorem hasU_end {ns : List Int} {us : List Bool} {n : Nat} (h : ∀ j, j < 6 → (ns.getD j 0 != 0 && !us.getD j false) = false) : hasU ns us n = (decide (0 < n) && !us.getD 5 false) := by
  unfold hasU
  rw [show (List.range 6).any (fun j => ns.getD j 0 != 0 && !us.getD j false) = false from List.any_eq_false.2 (fun j hj => by rw [h j (by simpa using hj)]; decide), Bool.false_or]
set_option maxHeartbeats 2000000 in
theorem hasUnused_any (r : Lk.Note) (a : Option Addr) (n c : Nat) (us : List Bool) (hu : us.length = 6) (hn : n ≤ 70368744177664) (w : World) :
    Calls Try.prog 45 #[recV r (.slice a n c), .agg (us.map Value.bool).toArray] w fun e w' => e = .returned (.bool (hasU r.nums us n)) ∧ Below w.heap.size w w' := by
  have hnl : r.nums.length = 6 := rfl
  have HU : Hid (∀ (W : World) (k : Nat), k < 6 → (W.alloc (.cells (us.map Value.bool).toArray 69)).cell? ⟨W.heap.size, k, none⟩ = some (.bool (us.getD k false))) := fun W k hk => by
    have hk' : k < us.length := by omega
    rw [World.cell?_alloc_new]
    simp [List.getElem?_eq_getElem hk']
  have hix : ∀ k : Nat, k < 6 → ∀ w, (Instr.index 86 (numV r.nums) (.int .i64 k)).run Try.prog w = .ok (.int .i64 (r.nums.getD k 0)) w := fun k hk w => ixN r.nums k hk hnl w
  have HN : Hid (∀ w, Calls Try.prog 54 #[recV r (.slice a n c)] w fun e w' => e = .returned (numV r.nums) ∧ Below w.heap.size w w') := fun w => numbers_any r a n c w
  have HIX : Hid (∀ k : Nat, k < 6 → ∀ w, (Instr.index 86 (numV r.nums) (.int .i64 k)).run Try.prog w = .ok (.int .i64 (r.nums.getD k 0)) w) := hix
  clear hix hnl
  generalize r.nums = ns at HN HIX
  generalize numV ns = NV at HN HIX
  obtain ⟨rk, ra, rt, rn, rg, ri, rl⟩ := r
  unfold recV at HN ⊢
  simp only at HN ⊢
  go_enter Try.func45, Try.ntmps45
  go_wp2_with fail
  refine (HN.out _).mono ?_
  rintro e w1 ⟨rfl, hb1⟩
  have HC : Hid (∀ k : Nat, k < 6 → w1.cell? ⟨w.heap.size + 1, k, none⟩ = some (.bool (us.getD k false))) := fun k hk => by
    refine (hb1.cell (p := ⟨w.heap.size + 1, k, none⟩) (by simp)).trans ?_
    have := HU.out (w.alloc (.cells #[.int .i64 rk, .int .i64 ra, .int .i64 rt, .int .i64 rn, .bool rg, .int .i64 ri, .slice a n c] 28)) k hk
    simpa using this
  have c6 : w1.cell? ⟨w.heap.size, 6, none⟩ = some (.slice a n c) := (hb1.cell (p := ⟨w.heap.size, 6, none⟩) (by simp; omega)).trans (by simp [go_sem])
  have HB1 : Hid (Below w.heap.size w w1) := (((Below.refl _ w).alloc (Nat.le_refl _) _).alloc (by simp) _).trans (hb1.mono (by simp; omega))
  clear hb1 HU HN
  go_wp2_with fail
  go_loopg [9] 6 (fun g s9 wr => ∃ k : Nat, k ≤ 6 ∧ 6 - k ≤ g ∧ s9 = .int .i64 k ∧ wr = w1 ∧ Hid (∀ j, j < k → (ns.getD j 0 != 0 && !us.getD j false) = false))
  case atStart => exact ⟨0, Nat.zero_le _, by omega, rfl, rfl, fun j hj => absurd hj (Nat.not_lt_zero _)⟩
  case round =>
    obtain ⟨k, hk, hg, rfl, rfl, A⟩ := hrel
    by_cases hlt : k < 6
    · have hlt' : (k : Int) < 6 := by omega
      have hix := HIX.out k hlt
      have g1 := HC.out k hlt
      have HS : Hid ((ns.getD k 0 != 0 && !us.getD k false) = false → ∀ j, j < k + 1 → (ns.getD j 0 != 0 && !us.getD j false) = false) := fun e j hj => by
        by_cases h : j = k
        · subst h; exact e
        · exact A.out j (by omega)
      have HH : Hid ((ns.getD k 0 != 0 && !us.getD k false) = true → hasU ns us n = true) := fun e => hasU_hit hlt e
      clear A
      generalize ns.getD k 0 = x at hix HS HH
      generalize us.getD k false = u at g1 HS HH
      by_cases hx : x = 0
      · have hx' : (x != 0) = false := by simp [hx]
        have HS' : Hid (∀ j, j < k + 1 → (ns.getD j 0 != 0 && !us.getD j false) = false) := HS.out (by rw [hx']; rfl)
        clear HS HH
        go_wp2
        go_roundg (6 - (k + 1))
        case measure => omega
        case rel => exact ⟨k + 1, by omega, by omega, by go_num, rfl, HS'⟩
      · have hx' : (x != 0) = true := by simpa using hx
        clear hx
        cases u
        · have HH' : Hid (hasU ns us n = true) := HH.out (by rw [hx']; rfl)
          clear HS HH
          go_wp2
          go_ret
          exact ⟨by rw [HH'.out]; rfl, HB1.out⟩
        · have HS' : Hid (∀ j, j < k + 1 → (ns.getD j 0 != 0 && !us.getD j false) = false) := HS.out (by rw [hx']; rfl)
          clear HS HH
          go_wp2
          go_roundg (6 - (k + 1))
          case measure => omega
          case rel => exact ⟨k + 1, by omega, by omega, by go_num, rfl, HS'⟩
    · have hk' : k = 6 := by omega
      subst hk'
      have HE : Hid (hasU ns us n = (decide (0 < n) && !us.getD 5 false)) := hasU_end A.out
      have g5 := HC.out 5 (by omega)
      clear A hk hlt
      generalize us.getD 5 false = u at g5 HE
      by_cases h0 : n = 0
      · subst h0
        go_wp2
        go_ret
        exact ⟨by rw [HE.out]; rfl, HB1.out⟩
      · have h0' : ((n : Int) != 0) = true := by rw [bne_iff_ne]; omega
        have h0d : decide (0 < n) = true := decide_eq_true (by omega)
        rw [h0d] at HE
        clear h0 h0d
        go_wp2
        go_ret
        exact ⟨by rw [HE.out]; rfl, HB1.out⟩
theorem hasU_unused (r : Lk.Note) : hasU r.nums (useL r.kind) r.lock.length = Lk.unused r := by
  obtain ⟨k, a, t, n, g, i, l⟩ := r
  have hg : (Lk.goodNum g != 0) = g := by cases g <;> rfl
  have hr : List.range 6 = [0, 1, 2, 3, 4, 5] := by decide
  simp only [hasU, hr, useL, Lk.Note.nums, Lk.unused, List.any_cons, List.any_nil, List.getD_cons_zero, List.getD_cons_succ, hg, Bool.not_true, Bool.and_false, Bool.false_or, Bool.or_false]
  cases Lk.uR k <;> simp [Bool.or_assoc]
end Go.Proofs.Ytbnaaookeagjgaa
