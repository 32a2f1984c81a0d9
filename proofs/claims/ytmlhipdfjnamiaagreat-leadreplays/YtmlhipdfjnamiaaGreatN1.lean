/- Contracts of note.Release, note.Alike, note.numbersOf, note.useOf, and of the document's CheckRelease, AlikeRelease. -/
import Derived.Test.YtmlhipdfjnamiaaGreatW3
import Derived.Test.YtmlhipdfjnamiaaGreatMA
namespace Go.Proofs.YtmlhipdfjnamiaaGreat
open Go.RowKit
/-- a release, a record, as values -/
def relV (id : Int) (v : Value) : Value := .agg #[.int .i64 id, v]
def recV (r : Lk.Note) (v : Value) : Value := .agg #[.int .i64 r.kind, .int .i64 r.agent, .int .i64 r.tr, .int .i64 r.n, .bool r.good, .int .i64 r.id, v]
def numV (ns : List Int) : Value := .agg (ns.map fun n => Value.int .i64 n).toArray
theorem pins_slice {w : World} {v : Value} {l : List (Int × Int)} (h : PinsAt w v l) : ∃ a c, v = .slice a l.length c := by
  obtain ⟨_, c, ⟨rfl, a, rfl⟩ | ⟨b, o, rfl, _⟩⟩ := h
  · exact ⟨a, c, rfl⟩
  · exact ⟨_, c, rfl⟩
theorem rel_out {id : Int} {l : List (Int × Int)} (h : id < 1 ∨ 6 < id) : Lk.chkRel id l = 3 := by
  unfold Lk.chkRel; rw [if_neg]; simp [Lk.within]; omega
theorem rel_in {id : Int} {l : List (Int × Int)} (h1 : 1 ≤ id) (h2 : id ≤ 6) : Lk.chkRel id l = Lk.chk l := by
  unfold Lk.chkRel; rw [if_pos]; simp [Lk.within]; omega
set_option maxHeartbeats 1000000 in
theorem release_any (id : Int) (v : Value) (l : List (Int × Int)) (w : World) (hP : PinsAt w v l) :
    Calls Tryz.prog 42 #[relV id v] w fun e w' => e = .returned (.int .i64 (Lk.chkRel id l)) ∧ Below w.heap.size w w' := by
  obtain ⟨a, c, rfl⟩ := pins_slice hP
  have HP : Hid (PinsAt w (.slice a l.length c) l) := hP
  clear hP
  unfold relV
  by_cases h1 : 1 ≤ id
  · by_cases h2 : id ≤ 6
    · rw [rel_in h1 h2]
      go_enter Tryz.func42, Tryz.ntmps42
      go_wp2_with (first | (go_at_call 74; refine (check_any _ l _ (HP.out.below ((Below.refl _ w).alloc (Nat.le_refl _) _))).mono ?_; rintro e w' ⟨rfl, hb'⟩) | go_in)
      go_ret
      exact ⟨rfl, ((Below.refl _ w).alloc (Nat.le_refl _) _).trans (hb'.mono (by simp))⟩
    · rw [rel_out (by omega)]
      have h2' : decide (id ≤ 6) = false := decide_eq_false h2
      go_enter Tryz.func42, Tryz.ntmps42
      go_wp2
      go_ret
      exact ⟨rfl, ((Below.refl _ w).alloc (Nat.le_refl _) _)⟩
  · rw [rel_out (by omega)]
    have h1' : id < 1 := by omega
    go_enter Tryz.func42, Tryz.ntmps42
    go_wp2
    go_ret
    exact ⟨rfl, ((Below.refl _ w).alloc (Nat.le_refl _) _)⟩
set_option maxHeartbeats 1000000 in
theorem releaseR_any (id : Int) (v : Value) (l : List (Int × Int)) (w : World) (hP : PinsAt w v l) :
    Calls Tryz.prog 55 #[relV id v] w fun e w' => e = .returned (.int .i64 (Lk.chkRel id l)) ∧ Below w.heap.size w w' := by
  obtain ⟨a, c, rfl⟩ := pins_slice hP
  have HP : Hid (PinsAt w (.slice a l.length c) l) := hP
  clear hP
  unfold relV
  by_cases h1 : 1 ≤ id
  · by_cases h2 : id ≤ 6
    · rw [rel_in h1 h2]
      go_enter Tryz.func55, Tryz.ntmps55
      go_wp2_with (first | (go_at_call 56; refine (checkR_any _ l _ (HP.out.below ((Below.refl _ w).alloc (Nat.le_refl _) _))).mono ?_; rintro e w' ⟨rfl, hb'⟩) | go_in)
      go_ret
      exact ⟨rfl, ((Below.refl _ w).alloc (Nat.le_refl _) _).trans (hb'.mono (by simp))⟩
    · rw [rel_out (by omega)]
      have h2' : decide (id ≤ 6) = false := decide_eq_false h2
      go_enter Tryz.func55, Tryz.ntmps55
      go_wp2
      go_ret
      exact ⟨rfl, ((Below.refl _ w).alloc (Nat.le_refl _) _)⟩
  · rw [rel_out (by omega)]
    have h1' : id < 1 := by omega
    go_enter Tryz.func55, Tryz.ntmps55
    go_wp2
    go_ret
    exact ⟨rfl, ((Below.refl _ w).alloc (Nat.le_refl _) _)⟩

set_option maxHeartbeats 1000000 in
theorem alike_any (i j : Int) (v u : Value) (l m : List (Int × Int)) (w : World) (hP : PinsAt w v l) (hQ : PinsAt w u m) :
    Calls Tryz.prog 71 #[relV i v, relV j u] w fun e w' => e = .returned (.bool (Lk.alike i l j m)) ∧ Below w.heap.size w w' := by
  obtain ⟨a, c, rfl⟩ := pins_slice hP
  obtain ⟨a', c', rfl⟩ := pins_slice hQ
  have HP : Hid (PinsAt w (.slice a l.length c) l) := hP
  have HQ : Hid (PinsAt w (.slice a' m.length c') m) := hQ
  clear hP hQ
  unfold relV
  have hb1 : ∀ o o', Below w.heap.size w ((w.alloc o).alloc o') := fun o o' => ((Below.refl _ w).alloc (Nat.le_refl _) o).alloc (by simp) o'
  have HB : Hid (∀ o o', Below w.heap.size w ((w.alloc o).alloc o')) := hb1
  clear hb1
  by_cases h1 : i = j
  · have h1' : (i == j) = true := by simp [h1]
    have HA : Hid (Lk.alike i l j m = Lk.same l m) := by unfold Lk.alike; rw [h1']; rfl
    clear h1
    go_enter Tryz.func71, Tryz.ntmps71
    go_wp2_with (first | (go_at_call 66; refine (equal_any _ _ l m _ (HP.out.below (HB.out _ _)) (HQ.out.below (HB.out _ _))).mono ?_; rintro e w' ⟨rfl, hb'⟩) | go_in)
    go_ret
    exact ⟨by rw [HA.out]; rfl, (HB.out _ _).trans (hb'.mono (HB.out _ _).size)⟩
  · have h1' : (i == j) = false := by simp [h1]
    have HA : Hid (Lk.alike i l j m = false) := by unfold Lk.alike; rw [h1']; rfl
    clear h1
    go_enter Tryz.func71, Tryz.ntmps71
    go_wp2
    go_ret
    exact ⟨by rw [HA.out]; rfl, HB.out _ _⟩

set_option maxHeartbeats 1000000 in
theorem alikeR_any (i j : Int) (v u : Value) (l m : List (Int × Int)) (w : World) (hP : PinsAt w v l) (hQ : PinsAt w u m) :
    Calls Tryz.prog 28 #[relV i v, relV j u] w fun e w' => e = .returned (.bool (Lk.alike i l j m)) ∧ Below w.heap.size w w' := by
  obtain ⟨a, c, rfl⟩ := pins_slice hP
  obtain ⟨a', c', rfl⟩ := pins_slice hQ
  have HP : Hid (PinsAt w (.slice a l.length c) l) := hP
  have HQ : Hid (PinsAt w (.slice a' m.length c') m) := hQ
  clear hP hQ
  unfold relV
  have hb1 : ∀ o o', Below w.heap.size w ((w.alloc o).alloc o') := fun o o' => ((Below.refl _ w).alloc (Nat.le_refl _) o).alloc (by simp) o'
  have HB : Hid (∀ o o', Below w.heap.size w ((w.alloc o).alloc o')) := hb1
  clear hb1
  by_cases h1 : i = j
  · have h1' : (i == j) = true := by simp [h1]
    have HA : Hid (Lk.alike i l j m = Lk.same l m) := by unfold Lk.alike; rw [h1']; rfl
    clear h1
    go_enter Tryz.func28, Tryz.ntmps28
    go_wp2_with (first | (go_at_call 66; refine (equal_any _ _ l m _ (HP.out.below (HB.out _ _)) (HQ.out.below (HB.out _ _))).mono ?_; rintro e w' ⟨rfl, hb'⟩) | go_in)
    go_ret
    exact ⟨by rw [HA.out]; rfl, (HB.out _ _).trans (hb'.mono (HB.out _ _).size)⟩
  · have h1' : (i == j) = false := by simp [h1]
    have HA : Hid (Lk.alike i l j m = false) := by unfold Lk.alike; rw [h1']; rfl
    clear h1
    go_enter Tryz.func28, Tryz.ntmps28
    go_wp2
    go_ret
    exact ⟨by rw [HA.out]; rfl, HB.out _ _⟩

theorem good_num (b : Bool) : (Value.int .i64 (Lk.goodNum b)) = if b = true then .int .i64 1 else .int .i64 0 := by cases b <;> rfl
set_option maxHeartbeats 1000000 in
theorem numbers_any (r : Lk.Note) (a : Option Addr) (n c : Nat) (w : World) :
    Calls Tryz.prog 73 #[recV r (.slice a n c)] w fun e w' => e = .returned (numV r.nums) ∧ Below w.heap.size w w' := by
  obtain ⟨k, ag, t, nn, g, i, l⟩ := r
  unfold recV numV Lk.Note.nums
  have HB : Hid (∀ o o', Below w.heap.size w ((w.alloc o).alloc o')) := fun o o' => ((Below.refl _ w).alloc (Nat.le_refl _) o).alloc (by simp) o'
  cases g
  all_goals
    go_enter Tryz.func73, Tryz.ntmps73
    go_wp2
    refine bodyPost_ret (v := .agg (List.map (fun n => Value.int IntKind.i64 n) _).toArray) (by simp [results, Tryz.results73, go_sem, Lk.goodNum]) rfl ⟨rfl, HB.out _ _⟩
end Go.Proofs.YtmlhipdfjnamiaaGreat
