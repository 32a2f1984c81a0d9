/- Plain functions on lists: what the functions of package diff, and of the document's own answers, come to. Nothing of the program is named here. -/
import Derived.Test.YtbnaaookeagjgaaSpec
namespace Go.Proofs.Ytbnaaookeagjgaa
namespace Dk
open Lk
theorem fm_congr {α β : Type} {f g : α → Option β} {l : List α} (h : ∀ x ∈ l, f x = g x) : l.filterMap f = l.filterMap g := by
  induction l with
  | nil => rfl
  | cons a r ih =>
    rw [List.filterMap_cons, List.filterMap_cons, h a (by simp), ih fun x hx => h x (by simp [hx])]
/-- a pin's place in a table -/
def put (t : List Int) (p : Int × Int) : List Int := t.set p.1.toNat p.2
/-- the table that a loop over pins makes -/
def tabOf (l : List (Int × Int)) : List Int := l.foldl put (List.replicate 21 0)
/-- the table by asking -/
def tb (l : List (Int × Int)) : List Int := (List.range 21).map fun (n : Nat) => find (n : Int) l
/-- the pin of a name in a table -/
def pinAt (t : List Int) (n : Nat) : Option (Int × Int) := if t.getD n 0 = 0 then none else some ((n : Int), t.getD n 0)
def pinsTo (t : List Int) (k : Nat) : List (Int × Int) := (List.range k).filterMap (pinAt t)
def pinsOf (t : List Int) : List (Int × Int) := pinsTo t 21
/-- names rise from k on, all within the bounds -/
def srt : Int → List (Int × Int) → Prop
  | _, [] => True
  | k, p :: r => (k ≤ p.1 ∧ p.1 ≤ 20 ∧ 1 ≤ p.2 ∧ p.2 ≤ 99) ∧ srt (p.1 + 1) r
theorem srt_mono {j k : Int} {l : List (Int × Int)} (h : srt k l) (hj : j ≤ k) : srt j l := by
  cases l with
  | nil => trivial
  | cons p r => exact ⟨⟨by have := h.1.1; omega, h.1.2⟩, h.2⟩
theorem srt_of_chk {l : List (Int × Int)} : ∀ {k : Int}, chkFrom k l = 0 → srt (k + 1) l := by
  induction l with
  | nil => intro k _; trivial
  | cons p r ih =>
    intro k h
    rw [chkFrom] at h
    split at h
    · rename_i hok
      split at h
      · cases h
      · simp [okPin] at hok
        exact ⟨⟨by omega, by omega, by omega, by omega⟩, ih h⟩
    · cases h
theorem chk_of_srt {l : List (Int × Int)} : ∀ {k : Int}, 0 ≤ k → srt (k + 1) l → chkFrom k l = 0 := by
  induction l with
  | nil => intro k _ _; rfl
  | cons p r ih =>
    intro k hk h
    obtain ⟨⟨h1, h2, h3, h4⟩, h5⟩ := h
    rw [chkFrom, if_pos (by simp [okPin]; omega), if_neg (by omega)]
    exact ih (by omega) h5
theorem chk_srt {l : List (Int × Int)} (h : chk l = 0) : l.length ≤ 12 ∧ srt 1 l := by
  unfold chk at h
  split at h
  · cases h
  · exact ⟨by omega, srt_of_chk h⟩
theorem srt_chk {l : List (Int × Int)} (h : l.length ≤ 12) (hs : srt 1 l) : chk l = 0 := by
  unfold chk
  rw [if_neg (by omega)]
  exact chk_of_srt (by omega) hs
theorem find_low {l : List (Int × Int)} : ∀ {k n : Int}, srt k l → n < k → find n l = 0 := by
  induction l with
  | nil => intro k n _ _; rfl
  | cons p r ih =>
    intro k n h hn
    have := h.1.1
    rw [find, if_neg (by omega)]
    exact ih h.2 (by omega)
theorem find_range {l : List (Int × Int)} : ∀ {k : Int} (n : Int), srt k l → 0 ≤ find n l ∧ find n l ≤ 99 := by
  induction l with
  | nil => intro k n _; exact ⟨Int.le_refl _, by simp [find]⟩
  | cons p r ih =>
    intro k n h
    have := h.1
    rw [find]
    split
    · omega
    · exact ih n h.2
theorem pins_from (j : Nat) : ∀ (k : Nat) (l : List (Int × Int)), srt k l → k + j = 21 → (List.range' k j).filterMap (fun (n : Nat) => if find (n : Int) l = 0 then none else some ((n : Int), find (n : Int) l)) = l := by
  induction j with
  | zero =>
    intro k l h hk
    cases l with
    | nil => rfl
    | cons p r => have := h.1; omega
  | succ j ih =>
    intro k l h hk
    rw [List.range'_succ, List.filterMap_cons]
    cases l with
    | nil =>
      simp [find]
    | cons p r =>
      obtain ⟨⟨h1, h2, h3, h4⟩, h5⟩ := h
      by_cases e : p.1 = (k : Int)
      · have e1 : find (k : Int) (p :: r) = p.2 := by rw [find, if_pos e]
        have hr := ih (k + 1) r (srt_mono h5 (by omega)) (by omega)
        rw [e1, if_neg (by omega)]
        have : (List.range' (k + 1) j).filterMap (fun (n : Nat) => if find (n : Int) (p :: r) = 0 then none else some ((n : Int), find (n : Int) (p :: r))) = (List.range' (k + 1) j).filterMap (fun (n : Nat) => if find (n : Int) r = 0 then none else some ((n : Int), find (n : Int) r)) := by
          refine fm_congr fun n hn => ?_
          have hn' := (List.mem_range'_1.1 hn).1
          rw [show find (n : Int) (p :: r) = find (n : Int) r from by rw [find, if_neg (by omega)]]
        simp only [this, hr]
        obtain ⟨a, b⟩ := p
        simp only at e
        rw [e]
      · have e1 : find (k : Int) (p :: r) = 0 := by
          rw [find, if_neg e]; exact find_low h5 (by omega)
        rw [e1, if_pos rfl]
        exact ih (k + 1) (p :: r) ⟨⟨by omega, h2, h3, h4⟩, h5⟩ (by omega)
theorem tb_len (l : List (Int × Int)) : (tb l).length = 21 := by simp [tb]
theorem tb_get (l : List (Int × Int)) (n : Nat) (h : n < 21) : (tb l).getD n 0 = find (n : Int) l := by
  simp [tb, List.getD_eq_getElem?_getD, h]
theorem pinsOf_tb {l : List (Int × Int)} (h : srt 1 l) : pinsOf (tb l) = l := by
  have := pins_from 21 0 l (srt_mono h (by decide)) rfl
  rw [← List.range_eq_range'] at this
  rw [pinsOf, pinsTo]
  conv => rhs; rw [← this]
  refine fm_congr fun n hn => ?_
  rw [pinAt, tb_get l n (by simpa using hn)]
theorem foldl_put_len (l : List (Int × Int)) : ∀ t : List Int, (l.foldl put t).length = t.length := by
  induction l with
  | nil => intro t; rfl
  | cons p r ih => intro t; rw [List.foldl_cons, ih]; simp [put]
theorem foldl_put_get {l : List (Int × Int)} : ∀ {k : Int} (t : List Int) (n : Nat), 0 ≤ k → srt k l → n < t.length → (l.foldl put t).getD n 0 = if find (n : Int) l = 0 then t.getD n 0 else find (n : Int) l := by
  induction l with
  | nil => intro k t n _ _ _; simp [find]
  | cons p r ih =>
    intro k t n hk h hn
    obtain ⟨⟨h1, h2, h3, h4⟩, h5⟩ := h
    rw [List.foldl_cons, ih (put t p) n (by omega) h5 (by simpa [put] using hn), find]
    by_cases e : p.1 = (n : Int)
    · have e0 : find (n : Int) r = 0 := find_low h5 (by omega)
      rw [if_pos e0, if_pos e, if_neg (by omega)]
      have : p.1.toNat = n := by omega
      simp [put, List.getD_eq_getElem?_getD, this, hn]
    · rw [if_neg e]
      have : p.1.toNat ≠ n := by omega
      split
      · simp [put, List.getD_eq_getElem?_getD, List.getElem?_set_ne this]
      · rfl
theorem list_ext21 {s t : List Int} (hs : s.length = 21) (ht : t.length = 21) (h : ∀ n, n < 21 → s.getD n 0 = t.getD n 0) : s = t := by
  refine List.ext_getElem (by omega) fun j h1 h2 => ?_
  have := h j (by omega)
  rwa [List.getD_eq_getElem?_getD, List.getD_eq_getElem?_getD, List.getElem?_eq_getElem h1, List.getElem?_eq_getElem h2] at this
theorem tabOf_len (l : List (Int × Int)) : (tabOf l).length = 21 := by rw [tabOf, foldl_put_len]; simp
theorem tabOf_tb {l : List (Int × Int)} (h : srt 1 l) : tabOf l = tb l := by
  refine list_ext21 (tabOf_len l) (tb_len l) fun n hn => ?_
  rw [tabOf, foldl_put_get _ n (by decide) h (by simpa using hn), tb_get l n hn]
  split
  · rename_i e; rw [e, List.getD_eq_getElem?_getD, List.getElem?_replicate, if_pos hn]; rfl
  · rfl
/-- a table that is a lock's, but for how many there are -/
def okTab (t : List Int) : Prop := t.length = 21 ∧ t.getD 0 0 = 0 ∧ ∀ n, n < 21 → 0 ≤ t.getD n 0 ∧ t.getD n 0 ≤ 99
theorem okTab_tb {l : List (Int × Int)} (h : srt 1 l) : okTab (tb l) :=
  ⟨tb_len l, by rw [tb_get l 0 (by decide)]; exact find_low h (by decide), fun n hn => by rw [tb_get l n hn]; exact find_range _ h⟩
theorem srt_pins (t : List Int) (ht : okTab t) (j : Nat) : ∀ k : Nat, 1 ≤ k → k + j = 21 → srt k ((List.range' k j).filterMap (pinAt t)) := by
  induction j with
  | zero => intro k _ _; trivial
  | succ j ih =>
    intro k h1 hk
    rw [List.range'_succ, List.filterMap_cons]
    have hr := ih (k + 1) (by omega) (by omega)
    unfold pinAt
    split
    · rename_i e
      exact srt_mono hr (by omega)
    · rename_i e
      split at e
      · cases e
      · cases e
        have := ht.2.2 k (by omega)
        exact ⟨⟨by omega, by omega, by omega, by omega⟩, hr⟩
theorem srt_pinsOf {t : List Int} (ht : okTab t) : srt 1 (pinsOf t) := by
  rw [pinsOf, pinsTo, List.range_eq_range', List.range'_succ, List.filterMap_cons]
  have : pinAt t 0 = none := by rw [pinAt, if_pos ht.2.1]
  rw [this]
  exact srt_pins t ht 20 1 (by decide) rfl
theorem find_pins (t : List Int) (n : Nat) (j : Nat) : ∀ k : Nat, find (n : Int) ((List.range' k j).filterMap (pinAt t)) = if k ≤ n ∧ n < k + j then t.getD n 0 else 0 := by
  induction j with
  | zero => intro k; rw [if_neg (by omega)]; rfl
  | succ j ih =>
    intro k
    rw [List.range'_succ, List.filterMap_cons]
    by_cases e0 : t.getD k 0 = 0
    · rw [show pinAt t k = none from by rw [pinAt, if_pos e0]]
      simp only []
      rw [ih (k + 1)]
      by_cases e : k = n
      · subst e; rw [if_neg (by omega), if_pos (by omega), e0]
      · by_cases h : k ≤ n ∧ n < k + (j + 1)
        · rw [if_pos h, if_pos (by omega)]
        · rw [if_neg h, if_neg (by omega)]
    · rw [show pinAt t k = some ((k : Int), t.getD k 0) from by rw [pinAt, if_neg e0]]
      simp only [find]
      by_cases e : k = n
      · subst e; rw [if_pos rfl, if_pos (by omega)]
      · rw [if_neg (by omega), ih (k + 1)]
        by_cases h : k ≤ n ∧ n < k + (j + 1)
        · rw [if_pos h, if_pos (by omega)]
        · rw [if_neg h, if_neg (by omega)]
theorem tb_pinsOf {t : List Int} (ht : t.length = 21) : tb (pinsOf t) = t := by
  refine list_ext21 (tb_len _) ht fun n hn => ?_
  rw [tb_get _ n hn, pinsOf, pinsTo, List.range_eq_range', find_pins t n 21 0, if_pos (by omega)]
/-- two locks with one table are the same -/
theorem tb_inj {l m : List (Int × Int)} (hl : srt 1 l) (hm : srt 1 m) (h : tb l = tb m) : l = m := by
  rw [← pinsOf_tb hl, ← pinsOf_tb hm, h]

/-- the step of a name that goes -/
def dropAt (A B : List Int) (n : Nat) : Option (Int × Int × Int) := if A.getD n 0 = B.getD n 0 then none else if B.getD n 0 = 0 then some (2, (n : Int), 0) else none
/-- the step of a name that comes or turns -/
def restAt (A B : List Int) (n : Nat) : Option (Int × Int × Int) := if A.getD n 0 = B.getD n 0 then none else if B.getD n 0 = 0 then none else if A.getD n 0 = 0 then some (1, (n : Int), B.getD n 0) else some (3, (n : Int), B.getD n 0)
def drops (A B : List Int) (k : Nat) : List (Int × Int × Int) := (List.range k).filterMap (dropAt A B)
def rests (A B : List Int) (k : Nat) : List (Int × Int × Int) := (List.range k).filterMap (restAt A B)
/-- all steps from one table to another one -/
def steps (A B : List Int) : List (Int × Int × Int) := drops A B 21 ++ rests A B 21
/-- the program's two loops -/
def goes (B : List Int) (p : Int × Int) : Option (Int × Int × Int) := if B.getD p.1.toNat 0 = 0 then some (2, p.1, 0) else none
def comes (A : List Int) (p : Int × Int) : Option (Int × Int × Int) := if A.getD p.1.toNat 0 = p.2 then none else if A.getD p.1.toNat 0 = 0 then some (1, p.1, p.2) else some (3, p.1, p.2)
theorem goes_all {a : List (Int × Int)} (ha : srt 1 a) (B : List Int) : a.filterMap (goes B) = drops (tb a) B 21 := by
  conv => lhs; rw [← pinsOf_tb ha, pinsOf, pinsTo, List.filterMap_filterMap]
  refine fm_congr fun n hn => ?_
  have e : ∀ x, goes B ((n : Int), x) = if B.getD n 0 = 0 then some (2, (n : Int), 0) else none := fun x => by simp [goes]
  unfold pinAt dropAt
  generalize (tb a).getD n 0 = x
  generalize B.getD n 0 = y at e
  by_cases h1 : x = 0
  · rw [if_pos h1]
    by_cases h2 : y = 0
    · rw [if_pos (by omega)]; rfl
    · rw [if_neg (by omega), if_neg h2]; rfl
  · rw [if_neg h1]
    show goes B ((n : Int), x) = _
    rw [e]
    by_cases h2 : y = 0
    · rw [if_pos h2, if_neg (by omega)]
    · rw [if_neg h2, ite_self]
theorem comes_all {b : List (Int × Int)} (hb : srt 1 b) (A : List Int) : b.filterMap (comes A) = rests A (tb b) 21 := by
  conv => lhs; rw [← pinsOf_tb hb, pinsOf, pinsTo, List.filterMap_filterMap]
  refine fm_congr fun n hn => ?_
  have e : ∀ x, comes A ((n : Int), x) = if A.getD n 0 = x then none else if A.getD n 0 = 0 then some (1, (n : Int), x) else some (3, (n : Int), x) := fun x => by simp [comes]
  unfold pinAt restAt
  generalize (tb b).getD n 0 = y
  generalize A.getD n 0 = x at e
  by_cases h1 : y = 0
  · rw [if_pos h1, if_pos h1, ite_self]; rfl
  · rw [if_neg h1, if_neg h1]
    exact e y
theorem fm_next {β : Type} (f : Nat → Option β) (k : Nat) : (List.range (k + 1)).filterMap f = (List.range k).filterMap f ++ (f k).toList := by
  rw [List.range_succ, List.filterMap_append]
  cases h : f k <;> simp [h]
theorem fm_len {β : Type} (f : Nat → Option β) (k : Nat) : ((List.range k).filterMap f).length ≤ k := by
  have := List.length_filterMap_le f (List.range k)
  rwa [List.length_range] at this
theorem pinsTo_none {t : List Int} {k : Nat} (h : t.getD k 0 = 0) : pinsTo t (k + 1) = pinsTo t k := by
  rw [pinsTo, fm_next, pinAt, if_pos h]; simp [pinsTo]
theorem pinsTo_some {t : List Int} {k : Nat} {v : Int} (h : t.getD k 0 = v) (h0 : v ≠ 0) : pinsTo t (k + 1) = pinsTo t k ++ [((k : Int), v)] := by
  rw [pinsTo, fm_next, pinAt, if_neg (by rw [h]; exact h0), h]; rfl
end Dk
end Go.Proofs.Ytbnaaookeagjgaa
