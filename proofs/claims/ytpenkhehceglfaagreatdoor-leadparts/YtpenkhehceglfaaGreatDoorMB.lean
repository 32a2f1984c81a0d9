import Derived.Test.YtpenkhehceglfaaGreatDoorW3
import Derived.Test.YtpenkhehceglfaaGreatDoorMA
/- Contracts of note.Release, note.Alike, note.numbersOf, note.useOf, and of the document's CheckRelease, AlikeRelease. -/
namespace Go.Proofs.YtpenkhehceglfaaGreatDoor
open Go.RowKit
/-- a release, a record, as values -/
def relV (id : Int) (v : Value) : Value := .agg #[.int .i64 id, v]
def recV (r : Lk.Note) (v : Value) : Value := .agg #[.int .i64 r.kind, .int .i64 r.agent, .int .i64 r.tr, .int .i64 r.n, .bool r.good, .int .i64 r.id, v]
def numV (ns : List Int) : Value := .agg (ns.map fun n => Value.int .i64 n).toArray
theorem pins_slice {w : World} {v : Value} {l : List (Int × Int)} (h : PinsAt w v l) : ∃ a c, v = .slice a l.length c := by
  obtain ⟨_, c, ⟨rfl, a, rfl⟩ | ⟨b, o, rfl, _⟩⟩ := h
  · exact ⟨a, c, rfl⟩
  · exact ⟨_, c, rfl⟩
theorem rel_out {id : Int} {l : List (Int × Int)} (h : id < 1 ∨ 6 < id) : Lk.chkRel id l = 3 := by
  unfold Lk.chkRel; rw [if_neg]; simp [Lk.within]; omega
theorem rel_in {id : Int} {l : List (Int × Int)} (h1 : 1 ≤ id) (h2 : id ≤ 6) : Lk.chkRel id l = Lk.chk l := by
  unfold Lk.chkRel; rw [if_pos]; simp [Lk.within]; omega
set_option maxHeartbeats 1000000 in
theorem release_any (id : Int) (v : Value) (l : List (Int × Int)) (w : World) (hP : PinsAt w v l) :
    Calls Tryz.prog 42 #[relV id v] w fun e w' => e = .returned (.int .i64 (Lk.chkRel id l)) ∧ Below w.heap.size w w' := by
  obtain ⟨a, c, rfl⟩ := pins_slice hP
  have HP : Hid (PinsAt w (.slice a l.length c) l) := hP
  clear hP
  unfold relV
  by_cases h1 : 1 ≤ id
  · by_cases h2 : id ≤ 6
    · rw [rel_in h1 h2]
      go_enter Tryz.func42, Tryz.ntmps42
      go_wp2_with (first | (go_at_call 77; refine (check_any _ l _ (HP.out.below ((Below.refl _ w).alloc (Nat.le_refl _) _))).mono ?_; rintro e w' ⟨rfl, hb'⟩) | go_in)
      go_ret
      exact ⟨rfl, ((Below.refl _ w).alloc (Nat.le_refl _) _).trans (hb'.mono (by simp))⟩
    · rw [rel_out (by omega)]
      have h2' : decide (id ≤ 6) = false := decide_eq_false h2
      go_enter Tryz.func42, Tryz.ntmps42
      go_wp2
      go_ret
      exact ⟨rfl, ((Below.refl _ w).alloc (Nat.le_refl _) _)⟩
  · rw [rel_out (by omega)]
    have h1' : id < 1 := by omega
    go_enter Tryz.func42, Tryz.ntmps42
    go_wp2
    go_ret
    exact ⟨rfl, ((Below.refl _ w).alloc (Nat.le_refl _) _)⟩
set_option maxHeartbeats 1000000 in
theorem alike_any (i j : Int) (v u : Value) (l m : List (Int × Int)) (w : World) (hP : PinsAt w v l) (hQ : PinsAt w u m) :
    Calls Tryz.prog 29 #[relV i v, relV j u] w fun e w' => e = .returned (.bool (Lk.alike i l j m)) ∧ Below w.heap.size w w' := by
  obtain ⟨a, c, rfl⟩ := pins_slice hP
  obtain ⟨a', c', rfl⟩ := pins_slice hQ
  have HP : Hid (PinsAt w (.slice a l.length c) l) := hP
  have HQ : Hid (PinsAt w (.slice a' m.length c') m) := hQ
  clear hP hQ
  unfold relV
  have hb1 : ∀ o o', Below w.heap.size w ((w.alloc o).alloc o') := fun o o' => ((Below.refl _ w).alloc (Nat.le_refl _) o).alloc (by simp) o'
  have HB : Hid (∀ o o', Below w.heap.size w ((w.alloc o).alloc o')) := hb1
  clear hb1
  by_cases h1 : i = j
  · have h1' : (i == j) = true := by simp [h1]
    have HA : Hid (Lk.alike i l j m = Lk.same l m) := by unfold Lk.alike; rw [h1']; rfl
    clear h1
    go_enter Tryz.func29, Tryz.ntmps29
    go_wp2_with (first | (go_at_call 19; refine (equal_any _ _ l m _ (HP.out.below (HB.out _ _)) (HQ.out.below (HB.out _ _))).mono ?_; rintro e w' ⟨rfl, hb'⟩) | go_in)
    go_ret
    exact ⟨by rw [HA.out]; rfl, (HB.out _ _).trans (hb'.mono (HB.out _ _).size)⟩
  · have h1' : (i == j) = false := by simp [h1]
    have HA : Hid (Lk.alike i l j m = false) := by unfold Lk.alike; rw [h1']; rfl
    clear h1
    go_enter Tryz.func29, Tryz.ntmps29
    go_wp2
    go_ret
    exact ⟨by rw [HA.out]; rfl, HB.out _ _⟩

theorem good_num (b : Bool) : (Value.int .i64 (Lk.goodNum b)) = if b = true then .int .i64 1 else .int .i64 0 := by cases b <;> rfl
set_option maxHeartbeats 1000000 in
theorem numbers_any (r : Lk.Note) (a : Option Addr) (n c : Nat) (w : World) :
    Calls Tryz.prog 30 #[recV r (.slice a n c)] w fun e w' => e = .returned (numV r.nums) ∧ Below w.heap.size w w' := by
  obtain ⟨k, ag, t, nn, g, i, l⟩ := r
  unfold recV numV Lk.Note.nums
  have HB : Hid (∀ o o', Below w.heap.size w ((w.alloc o).alloc o')) := fun o o' => ((Below.refl _ w).alloc (Nat.le_refl _) o).alloc (by simp) o'
  cases g
  all_goals
    go_enter Tryz.func30, Tryz.ntmps30
    go_wp2
    refine bodyPost_ret (v := .agg (List.map (fun n => Value.int IntKind.i64 n) _).toArray) (by simp [results, Tryz.results30, go_sem, Lk.goodNum]) rfl ⟨rfl, HB.out _ _⟩
end Go.Proofs.YtpenkhehceglfaaGreatDoor
/- Contracts of note.useOf, the closure of note.Check, note.hasUnused, note.Check. -/
namespace Go.Proofs.YtpenkhehceglfaaGreatDoor
open Go.RowKit
/-- what a kind has a use for, by place -/
def useL (k : Int) : List Bool := [true, Lk.uA k, Lk.uT k, Lk.uN k, Lk.uG k, Lk.uR k]
def useV (k : Int) : Value := .agg ((useL k).map Value.bool).toArray
theorem kind_cases (k : Int) : k = 1 ∨ k = 2 ∨ k = 3 ∨ k = 4 ∨ k = 5 ∨ k = 6 ∨ k = 7 ∨ ((k == 1) = false ∧ (k == 2) = false ∧ (k == 3) = false ∧ (k == 4) = false ∧ (k == 5) = false ∧ (k == 6) = false ∧ (k == 7) = false) := by
  simp only [beq_eq_false_iff_ne]; omega
theorem use_none {k : Int} (h1 : (k == 1) = false) (h2 : (k == 2) = false) (h3 : (k == 3) = false) (h4 : (k == 4) = false) (h5 : (k == 5) = false) (h6 : (k == 6) = false) (h7 : (k == 7) = false) : useL k = [true, false, false, false, false, false] := by
  simp [useL, Lk.uA, Lk.uT, Lk.uN, Lk.uG, Lk.uR, h1, h2, h3, h4, h5, h6, h7]
set_option maxHeartbeats 2000000 in
theorem useOf_any (k : Int) (w : World) :
    Calls Tryz.prog 47 #[.int .i64 k] w fun e w' => e = .returned (useV k) ∧ Below w.heap.size w w' := by
  have HB : Hid (∀ o, Below w.heap.size w (w.alloc o)) := fun o => ((Below.refl _ w).alloc (Nat.le_refl _) o)
  unfold useV
  rcases kind_cases k with rfl | rfl | rfl | rfl | rfl | rfl | rfl | ⟨h1, h2, h3, h4, h5, h6, h7⟩
  iterate 7
    · go_enter Tryz.func47, Tryz.ntmps47
      go_wp2
      refine bodyPost_ret (v := .agg ((useL _).map Value.bool).toArray) (by simp [results, Tryz.results47, go_sem]; rfl) rfl ⟨rfl, HB.out _⟩
  · rw [use_none h1 h2 h3 h4 h5 h6 h7]
    go_enter Tryz.func47, Tryz.ntmps47
    go_wp2
    refine bodyPost_ret (v := .agg ([true, false, false, false, false, false].map Value.bool).toArray) (by simp [results, Tryz.results47, go_sem]) rfl ⟨rfl, HB.out _⟩
theorem within_yes {n a b : Int} (h1 : a ≤ n) (h2 : n ≤ b) : Lk.within n a b = true := by simp [Lk.within, h1, h2]
theorem within_hi {n a b : Int} (h2 : ¬ n ≤ b) : Lk.within n a b = false := by simp [Lk.within, h2]
theorem within_lo {n a b : Int} (h1 : ¬ a ≤ n) : Lk.within n a b = false := by simp [Lk.within, h1]
/-- the closure: a number is used, and isn't from 1 to the most -/
theorem bad_any (p : Nat) (hp : p < 6) (n most : Int) (u : Bool) (g : Nat) (w : World) (hg : w.cell? ⟨g, p, none⟩ = some (.bool u)) :
    Calls Tryz.prog 48 #[.int .i64 p, .int .i64 n, .int .i64 most, .pointer (some ⟨g, 0, none⟩)] w fun e w' => e = .returned (.bool (u && !Lk.within n 1 most)) ∧ Below w.heap.size w w' := by
  have hp' : (p : Int) < 6 := by omega
  have HB : Hid (Below w.heap.size w w) := Below.refl _ w
  cases u
  · go_enter Tryz.func48, Tryz.ntmps48
    go_wp2
    go_ret
    exact ⟨rfl, HB.out⟩
  · by_cases h1 : 1 ≤ n
    · by_cases h2 : n ≤ most
      · have HW : Hid (Lk.within n 1 most = true) := within_yes h1 h2
        go_enter Tryz.func48, Tryz.ntmps48
        go_wp2
        go_ret
        exact ⟨by rw [HW.out]; rfl, HB.out⟩
      · have HW : Hid (Lk.within n 1 most = false) := within_hi h2
        have h2' : decide (n ≤ most) = false := decide_eq_false h2
        clear h2
        go_enter Tryz.func48, Tryz.ntmps48
        go_wp2
        go_ret
        exact ⟨by rw [HW.out]; rfl, HB.out⟩
    · have HW : Hid (Lk.within n 1 most = false) := within_lo h1
      have h1' : n < 1 := by omega
      clear h1
      go_enter Tryz.func48, Tryz.ntmps48
      go_wp2
      go_ret
      exact ⟨by rw [HW.out]; rfl, HB.out⟩
end Go.Proofs.YtpenkhehceglfaaGreatDoor
/- Contracts of note.hasUnused and note.Check. -/
namespace Go.Proofs.YtpenkhehceglfaaGreatDoor
open Go.RowKit
theorem num_cell (ns : List Int) (k : Nat) (h : k < ns.length) : ((ns.map fun n => Value.int .i64 n).toArray)[k]? = some (.int .i64 (ns.getD k 0)) := by
  simp [List.getElem?_eq_getElem h]
theorem ixN (ns : List Int) (k : Nat) (hk : k < 6) (hl : ns.length = 6) (w : World) : (Instr.index 81 (numV ns) (.int .i64 k)).run Tryz.prog w = .ok (.int .i64 (ns.getD k 0)) w := by
  have h1 : (0 : Int) ≤ k ∧ (k : Int) < ((6 : Nat) : Int) := by omega
  unfold numV
  simp only [Instr.index, asIntOf, Sem.run_bind, Sem.run_pure, Result.andThen_ok, run_underlying Tryz.underlying81, if_pos h1, Tryz.sizeOf3, part, Tryz.isAgg3]
  simp [num_cell ns k (by omega)]
/-- some number that isn't used isn't 0 -/
def hasU (ns : List Int) (us : List Bool) (n : Nat) : Bool := (List.range 6).any (fun j => ns.getD j 0 != 0 && !us.getD j false) || (decide (0 < n) && !us.getD 5 false)
theorem hasU_hit {ns : List Int} {us : List Bool} {n k : Nat} (hk : k < 6) (h : (ns.getD k 0 != 0 && !us.getD k false) = true) : hasU ns us n = true := by
  unfold hasU
  rw [Bool.or_eq_true]
  exact .inl (List.any_eq_true.2 ⟨k, by simp [hk], h⟩)
theorem hasU_end {ns : List Int} {us : List Bool} {n : Nat} (h : ∀ j, j < 6 → (ns.getD j 0 != 0 && !us.getD j false) = false) : hasU ns us n = (decide (0 < n) && !us.getD 5 false) := by
  unfold hasU
  rw [show (List.range 6).any (fun j => ns.getD j 0 != 0 && !us.getD j false) = false from List.any_eq_false.2 (fun j hj => by rw [h j (by simpa using hj)]; decide), Bool.false_or]
set_option maxHeartbeats 2000000 in
theorem hasUnused_any (r : Lk.Note) (a : Option Addr) (n c : Nat) (us : List Bool) (hu : us.length = 6) (hn : n ≤ 70368744177664) (w : World) :
    Calls Tryz.prog 49 #[recV r (.slice a n c), .agg (us.map Value.bool).toArray] w fun e w' => e = .returned (.bool (hasU r.nums us n)) ∧ Below w.heap.size w w' := by
  have hnl : r.nums.length = 6 := rfl
  have HU : Hid (∀ (W : World) (k : Nat), k < 6 → (W.alloc (.cells (us.map Value.bool).toArray 106)).cell? ⟨W.heap.size, k, none⟩ = some (.bool (us.getD k false))) := fun W k hk => by
    have hk' : k < us.length := by omega
    rw [World.cell?_alloc_new]
    simp [List.getElem?_eq_getElem hk']
  have hix : ∀ k : Nat, k < 6 → ∀ w, (Instr.index 81 (numV r.nums) (.int .i64 k)).run Tryz.prog w = .ok (.int .i64 (r.nums.getD k 0)) w := fun k hk w => ixN r.nums k hk hnl w
  have HN : Hid (∀ w, Calls Tryz.prog 30 #[recV r (.slice a n c)] w fun e w' => e = .returned (numV r.nums) ∧ Below w.heap.size w w') := fun w => numbers_any r a n c w
  have HIX : Hid (∀ k : Nat, k < 6 → ∀ w, (Instr.index 81 (numV r.nums) (.int .i64 k)).run Tryz.prog w = .ok (.int .i64 (r.nums.getD k 0)) w) := hix
  clear hix hnl
  generalize r.nums = ns at HN HIX
  generalize numV ns = NV at HN HIX
  obtain ⟨rk, ra, rt, rn, rg, ri, rl⟩ := r
  unfold recV at HN ⊢
  simp only at HN ⊢
  go_enter Tryz.func49, Tryz.ntmps49
  go_wp2_with fail
  refine (HN.out _).mono ?_
  rintro e w1 ⟨rfl, hb1⟩
  have HC : Hid (∀ k : Nat, k < 6 → w1.cell? ⟨w.heap.size + 1, k, none⟩ = some (.bool (us.getD k false))) := fun k hk => by
    refine (hb1.cell (p := ⟨w.heap.size + 1, k, none⟩) (by simp)).trans ?_
    have := HU.out (w.alloc (.cells #[.int .i64 rk, .int .i64 ra, .int .i64 rt, .int .i64 rn, .bool rg, .int .i64 ri, .slice a n c] 34)) k hk
    simpa using this
  have c6 : w1.cell? ⟨w.heap.size, 6, none⟩ = some (.slice a n c) := (hb1.cell (p := ⟨w.heap.size, 6, none⟩) (by simp; omega)).trans (by simp [go_sem])
  have HB1 : Hid (Below w.heap.size w w1) := (((Below.refl _ w).alloc (Nat.le_refl _) _).alloc (by simp) _).trans (hb1.mono (by simp; omega))
  clear hb1 HU HN
  go_wp2_with fail
  go_loopg [9] 6 (fun g s9 wr => ∃ k : Nat, k ≤ 6 ∧ 6 - k ≤ g ∧ s9 = .int .i64 k ∧ wr = w1 ∧ Hid (∀ j, j < k → (ns.getD j 0 != 0 && !us.getD j false) = false))
  case atStart => exact ⟨0, Nat.zero_le _, by omega, rfl, rfl, fun j hj => absurd hj (Nat.not_lt_zero _)⟩
  case round =>
    obtain ⟨k, hk, hg, rfl, rfl, A⟩ := hrel
    by_cases hlt : k < 6
    · have hlt' : (k : Int) < 6 := by omega
      have hix := HIX.out k hlt
      have g1 := HC.out k hlt
      have HS : Hid ((ns.getD k 0 != 0 && !us.getD k false) = false → ∀ j, j < k + 1 → (ns.getD j 0 != 0 && !us.getD j false) = false) := fun e j hj => by
        by_cases h : j = k
        · subst h; exact e
        · exact A.out j (by omega)
      have HH : Hid ((ns.getD k 0 != 0 && !us.getD k false) = true → hasU ns us n = true) := fun e => hasU_hit hlt e
      clear A
      generalize ns.getD k 0 = x at hix HS HH
      generalize us.getD k false = u at g1 HS HH
      by_cases hx : x = 0
      · have hx' : (x != 0) = false := by simp [hx]
        have HS' : Hid (∀ j, j < k + 1 → (ns.getD j 0 != 0 && !us.getD j false) = false) := HS.out (by rw [hx']; rfl)
        clear HS HH
        go_wp2
        go_roundg (6 - (k + 1))
        case measure => omega
        case rel => exact ⟨k + 1, by omega, by omega, by go_num, rfl, HS'⟩
      · have hx' : (x != 0) = true := by simpa using hx
        clear hx
        cases u
        · have HH' : Hid (hasU ns us n = true) := HH.out (by rw [hx']; rfl)
          clear HS HH
          go_wp2
          go_ret
          exact ⟨by rw [HH'.out]; rfl, HB1.out⟩
        · have HS' : Hid (∀ j, j < k + 1 → (ns.getD j 0 != 0 && !us.getD j false) = false) := HS.out (by rw [hx']; rfl)
          clear HS HH
          go_wp2
          go_roundg (6 - (k + 1))
          case measure => omega
          case rel => exact ⟨k + 1, by omega, by omega, by go_num, rfl, HS'⟩
    · have hk' : k = 6 := by omega
      subst hk'
      have HE : Hid (hasU ns us n = (decide (0 < n) && !us.getD 5 false)) := hasU_end A.out
      have g5 := HC.out 5 (by omega)
      clear A hk hlt
      generalize us.getD 5 false = u at g5 HE
      by_cases h0 : n = 0
      · subst h0
        go_wp2
        go_ret
        exact ⟨by rw [HE.out]; rfl, HB1.out⟩
      · have h0' : ((n : Int) != 0) = true := by rw [bne_iff_ne]; omega
        have h0d : decide (0 < n) = true := decide_eq_true (by omega)
        rw [h0d] at HE
        clear h0 h0d
        go_wp2
        go_ret
        exact ⟨by rw [HE.out]; rfl, HB1.out⟩
theorem hasU_unused (r : Lk.Note) : hasU r.nums (useL r.kind) r.lock.length = Lk.unused r := by
  obtain ⟨k, a, t, n, g, i, l⟩ := r
  have hg : (Lk.goodNum g != 0) = g := by cases g <;> rfl
  have hr : List.range 6 = [0, 1, 2, 3, 4, 5] := by decide
  simp only [hasU, hr, useL, Lk.Note.nums, Lk.unused, List.any_cons, List.any_nil, List.getD_cons_zero, List.getD_cons_succ, hg, Bool.not_true, Bool.and_false, Bool.false_or, Bool.or_false]
  cases Lk.uR k <;> simp [Bool.or_assoc]
end Go.Proofs.YtpenkhehceglfaaGreatDoor
/- The contract of note.Check. -/
namespace Go.Proofs.YtpenkhehceglfaaGreatDoor
open Go.RowKit
/-- a record in a block of its own -/
def RecAt (w : World) (b : Nat) (k a t n : Int) (g : Bool) (i : Int) (v : Value) : Prop :=
  b < w.heap.size ∧ w.cell? ⟨b, 0, none⟩ = some (.int .i64 k) ∧ w.cell? ⟨b, 1, none⟩ = some (.int .i64 a) ∧ w.cell? ⟨b, 2, none⟩ = some (.int .i64 t) ∧ w.cell? ⟨b, 3, none⟩ = some (.int .i64 n) ∧ w.cell? ⟨b, 4, none⟩ = some (.bool g) ∧ w.cell? ⟨b, 5, none⟩ = some (.int .i64 i) ∧ w.cell? ⟨b, 6, none⟩ = some v
theorem RecAt.below {w w' : World} {b : Nat} {k a t n : Int} {g : Bool} {i : Int} {v : Value} (h : RecAt w b k a t n g i v) (hb : Below w.heap.size w w') : RecAt w' b k a t n g i v := by
  obtain ⟨h0, h1, h2, h3, h4, h5, h6, h7⟩ := h
  have e : ∀ o, w'.cell? ⟨b, o, none⟩ = w.cell? ⟨b, o, none⟩ := fun o => hb.cell (p := ⟨b, o, none⟩) h0
  exact ⟨Nat.lt_of_lt_of_le h0 hb.size, (e 0).trans h1, (e 1).trans h2, (e 2).trans h3, (e 3).trans h4, (e 4).trans h5, (e 5).trans h6, (e 6).trans h7⟩
theorem recAt_alloc (w : World) (k a t n : Int) (g : Bool) (i : Int) (v : Value) : RecAt (w.alloc (.cells #[.int .i64 k, .int .i64 a, .int .i64 t, .int .i64 n, .bool g, .int .i64 i, v] 34)) w.heap.size k a t n g i v := by
  refine ⟨by simp, ?_, ?_, ?_, ?_, ?_, ?_, ?_⟩ <;> simp [go_sem]
/-- what is used, in a block of its own -/
def UseAt (w : World) (b : Nat) (a t n g r : Bool) : Prop :=
  b < w.heap.size ∧ w.cell? ⟨b, 0, none⟩ = some (.bool true) ∧ w.cell? ⟨b, 1, none⟩ = some (.bool a) ∧ w.cell? ⟨b, 2, none⟩ = some (.bool t) ∧ w.cell? ⟨b, 3, none⟩ = some (.bool n) ∧ w.cell? ⟨b, 4, none⟩ = some (.bool g) ∧ w.cell? ⟨b, 5, none⟩ = some (.bool r)
theorem UseAt.below {w w' : World} {b : Nat} {a t n g r : Bool} (h : UseAt w b a t n g r) (hb : Below w.heap.size w w') : UseAt w' b a t n g r := by
  obtain ⟨h0, h1, h2, h3, h4, h5, h6⟩ := h
  have e : ∀ o, w'.cell? ⟨b, o, none⟩ = w.cell? ⟨b, o, none⟩ := fun o => hb.cell (p := ⟨b, o, none⟩) h0
  exact ⟨Nat.lt_of_lt_of_le h0 hb.size, (e 0).trans h1, (e 1).trans h2, (e 2).trans h3, (e 3).trans h4, (e 4).trans h5, (e 5).trans h6⟩
theorem useAt_alloc (w : World) (a t n g r : Bool) : UseAt (w.alloc (.cells #[.bool true, .bool a, .bool t, .bool n, .bool g, .bool r] 106)) w.heap.size a t n g r := by
  refine ⟨by simp, ?_, ?_, ?_, ?_, ?_, ?_⟩ <;> simp [go_sem]
theorem chk_kind {r : Lk.Note} (h : Lk.within r.kind 1 9 = false) : Lk.chkNote r = 4 := by unfold Lk.chkNote; rw [if_pos (by rw [h]; rfl)]
theorem chk_unused {r : Lk.Note} (h : Lk.unused r = true) : Lk.chkNote r = 4 := by unfold Lk.chkNote; rw [if_pos (by rw [h]; simp)]
theorem chk_out {r : Lk.Note} (h1 : Lk.within r.kind 1 9 = true) (h2 : Lk.unused r = false) (h3 : Lk.outside r = true) : Lk.chkNote r = 3 := by
  unfold Lk.chkNote; rw [if_neg (by rw [h1, h2]; decide), if_pos h3]
theorem chk_rel {r : Lk.Note} (h1 : Lk.within r.kind 1 9 = true) (h2 : Lk.unused r = false) (h3 : Lk.outside r = false) (h4 : Lk.uR r.kind = true) : Lk.chkNote r = Lk.chkRel r.id r.lock := by
  unfold Lk.chkNote; rw [if_neg (by rw [h1, h2]; decide), if_neg (by rw [h3]; decide), if_pos h4]
theorem chk_zero {r : Lk.Note} (h1 : Lk.within r.kind 1 9 = true) (h2 : Lk.unused r = false) (h3 : Lk.outside r = false) (h4 : Lk.uR r.kind = false) : Lk.chkNote r = 0 := by
  unfold Lk.chkNote; rw [if_neg (by rw [h1, h2]; decide), if_neg (by rw [h3]; decide), if_neg (by rw [h4]; decide)]
set_option maxHeartbeats 2000000 in
theorem noteCheck_kind (r : Lk.Note) (a : Option Addr) (n c : Nat) (w : World) (h : Lk.within r.kind 1 9 = false) :
    Calls Tryz.prog 21 #[recV r (.slice a n c)] w fun e w' => e = .returned (.int .i64 4) ∧ Below w.heap.size w w' := by
  obtain ⟨rk, ra, rt, rn, rg, ri, rl⟩ := r
  unfold recV
  simp only at h ⊢
  have HB : Hid (∀ o, Below w.heap.size w (w.alloc o)) := fun o => ((Below.refl _ w).alloc (Nat.le_refl _) o)
  by_cases h1 : 1 ≤ rk
  · have h2 : decide (rk ≤ 9) = false := by simpa [Lk.within, h1] using h
    clear h
    go_enter Tryz.func21, Tryz.ntmps21
    go_wp2
    go_ret
    exact ⟨rfl, HB.out _⟩
  · have h1' : rk < 1 := by omega
    clear h h1
    go_enter Tryz.func21, Tryz.ntmps21
    go_wp2
    go_ret
    exact ⟨rfl, HB.out _⟩
set_option maxHeartbeats 2000000 in
theorem noteCheck_in (r : Lk.Note) (v : Value) (w : World) (hP : PinsAt w v r.lock) (h : Lk.within r.kind 1 9 = true) :
    Calls Tryz.prog 21 #[recV r v] w fun e w' => e = .returned (.int .i64 (Lk.chkNote r)) ∧ Below w.heap.size w w' := by
  obtain ⟨a, c, rfl⟩ := pins_slice hP
  have hk : 1 ≤ r.kind ∧ r.kind ≤ 9 := by simpa [Lk.within] using h
  obtain ⟨hk1, hk2⟩ := hk
  have HK : Hid (Lk.within r.kind 1 9 = true) := h
  have HP : Hid (PinsAt w (.slice a r.lock.length c) r.lock) := hP
  have HU : Hid (∀ w, Calls Tryz.prog 49 #[recV r (.slice a r.lock.length c), .agg #[.bool true, .bool (Lk.uA r.kind), .bool (Lk.uT r.kind), .bool (Lk.uN r.kind), .bool (Lk.uG r.kind), .bool (Lk.uR r.kind)]] w fun e w' => e = .returned (.bool (Lk.unused r)) ∧ Below w.heap.size w w') := fun w => by
    rw [← hasU_unused r]
    exact hasUnused_any r a r.lock.length c (useL r.kind) rfl hP.1 w
  have HO : Hid (∀ w, Calls Tryz.prog 47 #[.int .i64 r.kind] w fun e w' => e = .returned (.agg #[.bool true, .bool (Lk.uA r.kind), .bool (Lk.uT r.kind), .bool (Lk.uN r.kind), .bool (Lk.uG r.kind), .bool (Lk.uR r.kind)]) ∧ Below w.heap.size w w') := fun w => useOf_any r.kind w
  have HR : Hid (∀ w, PinsAt w (.slice a r.lock.length c) r.lock → Calls Tryz.prog 42 #[.agg #[.int .i64 r.id, .slice a r.lock.length c]] w fun e w' => e = .returned (.int .i64 (Lk.chkRel r.id r.lock)) ∧ Below w.heap.size w w') := fun w h => release_any r.id _ r.lock w h
  have C1 : Hid (Lk.unused r = true → Lk.chkNote r = 4) := chk_unused
  have C2 : Hid (Lk.unused r = false → Lk.outside r = true → Lk.chkNote r = 3) := chk_out h
  have C3 : Hid (Lk.unused r = false → Lk.outside r = false → Lk.uR r.kind = true → Lk.chkNote r = Lk.chkRel r.id r.lock) := chk_rel h
  have C4 : Hid (Lk.unused r = false → Lk.outside r = false → Lk.uR r.kind = false → Lk.chkNote r = 0) := chk_zero h
  have CO : Hid (Lk.outside r = (!Lk.within r.agent 0 5 || (Lk.uT r.kind && !Lk.within r.tr 1 200) || (Lk.uN r.kind && !Lk.within r.n 1 6))) := rfl
  clear h hP HK
  unfold recV at HU ⊢
  generalize Lk.unused r = U at HU C1 C2 C3 C4
  generalize Lk.outside r = O at C2 C3 C4 CO
  generalize Lk.chkNote r = CN at C1 C2 C3 C4 ⊢
  generalize Lk.chkRel r.id r.lock = CR at C3 HR
  generalize Lk.uA r.kind = bA at HU HO
  generalize Lk.uT r.kind = bT at HU HO CO
  generalize Lk.uN r.kind = bN at HU HO CO
  generalize Lk.uG r.kind = bG at HU HO
  generalize Lk.uR r.kind = bR at HU HO C3 C4
  obtain ⟨rk, ra, rt, rn, rg, ri, rl⟩ := r
  simp only at HU HO HR CO hk1 hk2 HP ⊢
  go_enter Tryz.func21, Tryz.ntmps21
  go_wp2_with (go_at_call 46; go_in)
  refine (HO.out _).mono ?_
  rintro e w1 ⟨rfl, hb1⟩
  have HA0 := (recAt_alloc w rk ra rt rn rg ri (.slice a rl.length c)).below hb1
  have HA1 : Hid (RecAt w1 w.heap.size rk ra rt rn rg ri (.slice a rl.length c)) := HA0
  have HB1 : Hid (Below w.heap.size w w1) := ((Below.refl _ w).alloc (Nat.le_refl _) _).trans (hb1.mono (by simp))
  obtain ⟨c0, c1, c2, c3, c4, c5, c6, c7⟩ := HA0
  clear hb1
  go_wp2_with fail
  have hb2 : Below w1.heap.size w1 (w1.alloc (.cells #[.bool true, .bool bA, .bool bT, .bool bN, .bool bG, .bool bR] 106)) := (Below.refl _ w1).alloc (Nat.le_refl _) _
  have HA2 := HA1.out.below hb2
  have HU2 := useAt_alloc w1 bA bT bN bG bR
  refine (HU.out _).mono ?_
  rintro e w2 ⟨rfl, hb3⟩
  have HA3 := HA2.below hb3
  have HU3 := HU2.below hb3
  have HB3 : Hid (Below w.heap.size w w2) := HB1.out.trans ((hb2.trans (hb3.mono (by simp))).mono HB1.out.size)
  clear c0 c1 c2 c3 c4 c5 c6 c7 hb2 HA2 HU2 hb3 HU HO HA1 HB1
  obtain ⟨c0, c1, c2, c3, c4, c5, c6, c7⟩ := HA3
  obtain ⟨d0, d1, d2, d3, d4, d5, d6⟩ := HU3
  have hpre : PinsAt w2 (.slice a rl.length c) rl := HP.out.below HB3.out
  have HP2 : Hid (PinsAt w2 (.slice a rl.length c) rl) := hpre
  clear hpre HP
  cases U
  · by_cases ha : 0 ≤ ra ∧ ra ≤ 5
    · obtain ⟨ha1, ha2⟩ := ha
      have hw0 : Lk.within ra 0 5 = true := within_yes ha1 ha2
      rw [hw0] at CO
      clear hw0
      go_wp2_with (go_at_call 46; go_in)
      have hbd := bad_any 2 (by decide) rt 200 bT w1.heap.size w2 d3
      generalize Lk.within rt 1 200 = wT at CO hbd
      generalize hq : (bT && !wT) = q at hbd
      have HQ : Hid ((bT && !wT) = q) := hq
      clear hq
      refine hbd.mono ?_
      rintro e w3 ⟨rfl, hb4⟩
      have HA4 := (show RecAt w2 w.heap.size rk ra rt rn rg ri (.slice a rl.length c) from ⟨c0, c1, c2, c3, c4, c5, c6, c7⟩).below hb4
      have HU4 := (show UseAt w2 w1.heap.size bA bT bN bG bR from ⟨d0, d1, d2, d3, d4, d5, d6⟩).below hb4
      have HB4 : Hid (Below w.heap.size w w3) := HB3.out.trans (hb4.mono HB3.out.size)
      have HP4 : Hid (PinsAt w3 (.slice a rl.length c) rl) := HP2.out.below hb4
      clear c0 c1 c2 c3 c4 c5 c6 c7 d0 d1 d2 d3 d4 d5 d6 hb4 HB3 HP2 hbd
      obtain ⟨c0, c1, c2, c3, c4, c5, c6, c7⟩ := HA4
      obtain ⟨d0, d1, d2, d3, d4, d5, d6⟩ := HU4
      cases q
      · rw [HQ.out] at CO
        go_wp2_with fail
        have hbd := bad_any 3 (by decide) rn 6 bN w1.heap.size w3 d4
        generalize Lk.within rn 1 6 = wN at CO hbd
        generalize hq : (bN && !wN) = q at hbd
        rw [hq] at CO
        clear hq
        refine hbd.mono ?_
        rintro e w4 ⟨rfl, hb5⟩
        have HA5 := (show RecAt w3 w.heap.size rk ra rt rn rg ri (.slice a rl.length c) from ⟨c0, c1, c2, c3, c4, c5, c6, c7⟩).below hb5
        have HU5 := (show UseAt w3 w1.heap.size bA bT bN bG bR from ⟨d0, d1, d2, d3, d4, d5, d6⟩).below hb5
        have HB5 : Hid (Below w.heap.size w w4) := HB4.out.trans (hb5.mono HB4.out.size)
        have HP5 : Hid (PinsAt w4 (.slice a rl.length c) rl) := HP4.out.below hb5
        clear c0 c1 c2 c3 c4 c5 c6 c7 d0 d1 d2 d3 d4 d5 d6 hb5 HB4 HP4 hbd
        obtain ⟨c0, c1, c2, c3, c4, c5, c6, c7⟩ := HA5
        obtain ⟨d0, d1, d2, d3, d4, d5, d6⟩ := HU5
        cases q
        · have hO : O = false := CO.out
          cases bR
          · have he : CN = 0 := C4.out (by simp) hO (by simp)
            subst he
            go_wp2
            go_ret
            exact ⟨rfl, HB5.out⟩
          · have he : CN = CR := C3.out (by simp) hO (by simp)
            subst he
            go_wp2_with fail
            refine (HR.out _ HP5.out).mono ?_
            rintro e w5 ⟨rfl, hb6⟩
            go_wp2
            go_ret
            exact ⟨rfl, HB5.out.trans (hb6.mono HB5.out.size)⟩
        · have hO : O = true := CO.out
          have he : CN = 3 := C2.out (by simp) hO
          subst he
          go_wp2
          go_ret
          exact ⟨rfl, HB5.out⟩
      · rw [HQ.out] at CO
        have hO : O = true := CO.out
        have he : CN = 3 := C2.out (by simp) hO
        subst he
        go_wp2
        go_ret
        exact ⟨rfl, HB4.out⟩
    · have hO : O = true := by
        have := CO.out
        rw [show Lk.within ra 0 5 = false from by simp only [Lk.within, Bool.and_eq_false_iff, decide_eq_false_iff_not]; omega] at this
        exact this
      have he : CN = 3 := C2.out (by simp) hO
      subst he
      by_cases ha1 : 0 ≤ ra
      · have ha2 : decide (ra ≤ 5) = false := decide_eq_false (by omega)
        clear ha
        go_wp2
        go_ret
        exact ⟨rfl, HB3.out⟩
      · have ha2 : ra < 0 := by omega
        clear ha ha1
        go_wp2
        go_ret
        exact ⟨rfl, HB3.out⟩
  · have he : CN = 4 := C1.out rfl
    subst he
    go_wp2
    go_ret
    exact ⟨rfl, HB3.out⟩
theorem noteCheck_any (r : Lk.Note) (v : Value) (w : World) (hP : PinsAt w v r.lock) :
    Calls Tryz.prog 21 #[recV r v] w fun e w' => e = .returned (.int .i64 (Lk.chkNote r)) ∧ Below w.heap.size w w' := by
  cases h : Lk.within r.kind 1 9
  · obtain ⟨a, c, rfl⟩ := pins_slice hP
    rw [chk_kind h]
    exact noteCheck_kind r a _ c w h
  · exact noteCheck_in r v w hP h
end Go.Proofs.YtpenkhehceglfaaGreatDoor
