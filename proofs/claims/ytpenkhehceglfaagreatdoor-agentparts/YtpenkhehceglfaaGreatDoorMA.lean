import Derived.Lib.AtoiAll
import Derived.Lib.ItoaNum
import Derived.Lib.IndexMore
import Derived.Lib.Join
import Derived.Lib.SplitLaws
import Derived.Lib.IndexBytes
import Derived.Lib.ItoaMem
import Derived.Lib.IndexLaws
/- Plain functions on lists: what the functions of package lock, and of the document's own answers, come to. Nothing of the program is named here. -/
namespace Go.Proofs.YtpenkhehceglfaaGreatDoor
namespace Lk

/-- one pin's numbers are within the bounds -/
def okPin (p : Int × Int) : Bool := decide (1 ≤ p.1) && decide (p.1 ≤ 20) && (decide (1 ≤ p.2) && decide (p.2 ≤ 99))

def chkFrom (last : Int) : List (Int × Int) → Int
  | [] => 0
  | p :: r => if okPin p = true then (if p.1 ≤ last then 6 else chkFrom p.1 r) else 3

def chk (l : List (Int × Int)) : Int := if 12 < l.length then 2 else chkFrom 0 l

def find (name : Int) : List (Int × Int) → Int
  | [] => 0
  | p :: r => if p.1 = name then p.2 else find name r

def same (l m : List (Int × Int)) : Bool := decide (l = m)

theorem same_of {l m : List (Int × Int)} (hn : l.length = m.length) (h : ∀ j, j < l.length → l.getD j (0, 0) = m.getD j (0, 0)) : same l m = true := by
  refine decide_eq_true (List.ext_getElem hn fun j h1 h2 => ?_)
  have := h j h1
  rwa [List.getD_eq_getElem?_getD, List.getD_eq_getElem?_getD, List.getElem?_eq_getElem h1, List.getElem?_eq_getElem h2] at this
theorem same_not {l m : List (Int × Int)} {j : Nat} (h : l.getD j (0, 0) ≠ m.getD j (0, 0)) : same l m = false :=
  decide_eq_false fun e => h (by rw [e])
theorem same_len {l m : List (Int × Int)} (h : l.length ≠ m.length) : same l m = false :=
  decide_eq_false fun e => h (by rw [e])

end Lk
end Go.Proofs.YtpenkhehceglfaaGreatDoor
/- Plain functions on texts: how a number, a pin and a lock are written and read. -/
namespace Go.Proofs.YtpenkhehceglfaaGreatDoor
namespace Lk

/-- a number, written as it is printed -/
def numOf (s : List UInt8) : Option Int := match Lib.atoiAll s with
  | .ok v => if Lib.itoa v = s then some v else none
  | _ => none

/-- a word: name, @, version -/
def pinOf (s : List UInt8) : Option (Int × Int) :=
  if (Lib.cut s [64]).2.2 = true then
    (match numOf (Lib.cut s [64]).1, numOf (Lib.cut s [64]).2.1 with
      | some a, some b => some (a, b)
      | _, _ => none)
  else none

def pinsOf : List (List UInt8) → Option (List (Int × Int))
  | [] => some []
  | s :: r => match pinOf s, pinsOf r with
    | some p, some l => some (p :: l)
    | _, _ => none

def pinText (p : Int × Int) : List UInt8 := Lib.decDigits p.1.toNat ++ 64 :: Lib.decDigits p.2.toNat
def text (l : List (Int × Int)) : List UInt8 := Lib.join (l.map pinText) [44]

theorem numOf_ok {s : List UInt8} {v : Int} (h : Lib.atoiAll s = .ok v) (e : Lib.itoa v = s) : numOf s = some v := by
  unfold numOf; rw [h]; exact if_pos e
theorem numOf_no {s : List UInt8} {v : Int} (h : Lib.atoiAll s = .ok v) (e : ¬ Lib.itoa v = s) : numOf s = none := by
  unfold numOf; rw [h]; exact if_neg e
theorem numOf_bad {s : List UInt8} (h : ∀ v, Lib.atoiAll s ≠ .ok v) : numOf s = none := by
  unfold numOf
  split
  · rename_i v e; exact absurd e (h v)
  · rfl
end Lk
end Go.Proofs.YtpenkhehceglfaaGreatDoor
/- Plain facts on the words of a text, and on reading them one by one. -/
namespace Go.Proofs.YtpenkhehceglfaaGreatDoor
namespace Lk
def comma : ByteArray := ⟨#[44]⟩
def ws (s : ByteArray) : List ByteArray := Lib.splitB comma 0 (Lib.countB s comma) s
def pins (s : ByteArray) : Option (List (Int × Int)) := if s.size = 0 then some [] else pinsOf ((ws s).map (·.data.toList))
/-- what a text of few enough bytes is read as -/
def readAs (s : ByteArray) : List (Int × Int) × Int := match pins s with
  | none => ([], 1)
  | some l => if chk l = 0 then (l, 0) else ([], chk l)

theorem ws_len (s : ByteArray) : (ws s).length = Lib.countB s comma + 1 := Lib.splitB_all comma (by decide) 0 _ s rfl
theorem count_le (s : ByteArray) : Lib.countB s comma ≤ s.size := Lib.countB_le comma (by decide) s.size s (Nat.le_refl _)
theorem split_le (k : Nat) : ∀ (s x : ByteArray), x ∈ Lib.splitB comma 0 k s → x.size ≤ s.size := by
  induction k with
  | zero => intro s x h; simp [Lib.splitB] at h; rw [h]; exact Nat.le_refl _
  | succ k ih =>
    intro s x h
    unfold Lib.splitB at h
    split at h
    · simp at h; rw [h]; exact Nat.le_refl _
    · rcases List.mem_cons.1 h with h | h
      · rw [h, ByteArray.size_extract]; omega
      · have := ih _ _ h; rw [ByteArray.size_extract] at this; omega
theorem ws_le (s x : ByteArray) (h : x ∈ ws s) : x.size ≤ s.size := split_le _ s x h

theorem pinsOf_snoc (a : List (List UInt8)) (s : List UInt8) (l : List (Int × Int)) (p : Int × Int) (h : pinsOf a = some l) (hp : pinOf s = some p) : pinsOf (a ++ [s]) = some (l ++ [p]) := by
  induction a generalizing l with
  | nil => simp only [pinsOf, Option.some.injEq] at h; subst h; simp [pinsOf, hp]
  | cons x r ih =>
    simp only [pinsOf] at h
    simp only [List.cons_append, pinsOf]
    cases e : pinOf x with
    | none => rw [e] at h; simp at h
    | some q =>
      cases e' : pinsOf r with
      | none => rw [e, e'] at h; simp at h
      | some m =>
        rw [e, e'] at h
        simp only [Option.some.injEq] at h
        subst h
        rw [ih m e']
        rfl
theorem pinsOf_bad (a : List (List UInt8)) (s : List UInt8) (hs : s ∈ a) (h : pinOf s = none) : pinsOf a = none := by
  induction a with
  | nil => cases hs
  | cons x r ih =>
    simp only [pinsOf]
    rcases List.mem_cons.1 hs with rfl | hs
    · rw [h]
    · rw [ih hs]; cases pinOf x <;> rfl
theorem pinsOf_len (a : List (List UInt8)) (l : List (Int × Int)) (h : pinsOf a = some l) : l.length = a.length := by
  induction a generalizing l with
  | nil => simp only [pinsOf, Option.some.injEq] at h; subst h; rfl
  | cons x r ih =>
    simp only [pinsOf] at h
    cases e : pinOf x with
    | none => rw [e] at h; simp at h
    | some q =>
      cases e' : pinsOf r with
      | none => rw [e, e'] at h; simp at h
      | some m =>
        rw [e, e'] at h
        simp only [Option.some.injEq] at h
        subst h
        simp [ih m e']
/-- the first k words are read -/
def readTo (s : ByteArray) (k : Nat) (l : List (Int × Int)) : Prop := pinsOf (((ws s).take k).map (·.data.toList)) = some l
theorem readTo_zero (s : ByteArray) : readTo s 0 [] := rfl
theorem readTo_len {s : ByteArray} {k : Nat} {l : List (Int × Int)} (h : readTo s k l) (hk : k ≤ (ws s).length) : l.length = k := by
  rw [pinsOf_len _ _ h]; simp; omega
theorem readTo_next {s : ByteArray} {k : Nat} {l : List (Int × Int)} {x : ByteArray} {p : Int × Int} (h : readTo s k l) (hx : (ws s)[k]? = some x) (hp : pinOf x.data.toList = some p) : readTo s (k + 1) (l ++ [p]) := by
  unfold readTo
  rw [List.take_add_one, hx, List.map_append]
  exact pinsOf_snoc _ _ _ _ h hp
theorem readTo_bad {s : ByteArray} {k : Nat} {x : ByteArray} (h0 : s.size ≠ 0) (hx : (ws s)[k]? = some x) (hp : pinOf x.data.toList = none) : pins s = none := by
  unfold pins
  rw [if_neg h0]
  exact pinsOf_bad _ _ (List.mem_map_of_mem (List.mem_of_getElem? hx)) hp
theorem readTo_all {s : ByteArray} {l : List (Int × Int)} (h0 : s.size ≠ 0) (h : readTo s (ws s).length l) : pins s = some l := by
  unfold pins
  rw [if_neg h0]
  unfold readTo at h
  rwa [List.take_length] at h
theorem pins_nil {s : ByteArray} (h0 : s.size = 0) : pins s = some [] := if_pos h0

/-- a word by the place of its @ -/
theorem pinOf_at (s : List UInt8) (k : Nat) (h : Lib.indexByte s 64 = k) : pinOf s = match numOf (s.take k), numOf (s.drop (k + 1)) with
    | some a, some b => some (a, b)
    | _, _ => none := by
  have e : Lib.index s [64] = k := (Lib.index_one s 64).trans h
  have hc : Lib.cut s [64] = (s.take k, s.drop (k + 1), true) := by
    unfold Lib.cut; rw [e, if_pos (by omega)]; simp
  unfold pinOf
  rw [hc]
  rfl
theorem pinOf_none (s : List UInt8) (h : Lib.indexByte s 64 = -1) : pinOf s = none := by
  have e : Lib.index s [64] = -1 := (Lib.index_one s 64).trans h
  have hc : Lib.cut s [64] = (s, [], false) := by
    unfold Lib.cut; rw [e, if_neg (by omega)]
  unfold pinOf
  rw [hc]
  rfl
theorem pinOf_at_no (s : List UInt8) (k : Nat) (h : Lib.indexByte s 64 = k) (h' : (numOf (s.take k)).isSome = false ∨ (numOf (s.drop (k + 1))).isSome = false) : pinOf s = none := by
  rw [pinOf_at s k h]
  rcases h' with h' | h'
  · cases e : numOf (s.take k) with
    | none => rfl
    | some v => rw [e] at h'; simp at h'
  · cases e : numOf (s.drop (k + 1)) with
    | none => cases numOf (s.take k) <;> rfl
    | some v => rw [e] at h'; simp at h'
theorem pinOf_at_yes (s : List UInt8) (k : Nat) (x y : Int) (h : Lib.indexByte s 64 = k) (h1 : (numOf (s.take k)).isSome = true) (h2 : (numOf (s.drop (k + 1))).isSome = true)
    (hx : ∀ v, numOf (s.take k) = some v → x = v) (hy : ∀ v, numOf (s.drop (k + 1)) = some v → y = v) : pinOf s = some (x, y) := by
  rw [pinOf_at s k h]
  cases e : numOf (s.take k) with
  | none => rw [e] at h1; simp at h1
  | some u =>
    cases e' : numOf (s.drop (k + 1)) with
    | none => rw [e'] at h2; simp at h2
    | some v => rw [hx u e, hy v e']
end Lk
end Go.Proofs.YtpenkhehceglfaaGreatDoor
/- Plain facts: what is written is read, what is read is written as it was. -/
namespace Go.Proofs.YtpenkhehceglfaaGreatDoor
namespace Lk
/-- the digits of a number below 100 -/
def dd (n : Nat) : List UInt8 := if n < 10 then [UInt8.ofNat (48 + n)] else [UInt8.ofNat (48 + n / 10), UInt8.ofNat (48 + n % 10)]
theorem dd_eq {n : Nat} (h : n < 100) : Lib.decDigits n = dd n := by
  unfold dd
  by_cases h1 : n < 10
  · rw [if_pos h1, Lib.decDigits_one h1]
  · rw [if_neg h1, Lib.decDigits_two h1 h]
theorem dd_all : ∀ n : Fin 100, Lib.atoiAll (dd n.1) = .ok (n.1 : Int) ∧ (64 ∈ dd n.1 → False) ∧ (44 ∈ dd n.1 → False) := by decide +kernel
theorem num_dec (n : Nat) (h : n < 100) : numOf (Lib.decDigits n) = some (n : Int) :=
  numOf_ok (by rw [dd_eq h]; exact (dd_all ⟨n, h⟩).1) (Lib.itoa_nonneg n)
theorem no64 (n : Nat) (h : n < 100) : 64 ∉ Lib.decDigits n := by rw [dd_eq h]; exact (dd_all ⟨n, h⟩).2.1
theorem no44 (n : Nat) (h : n < 100) : 44 ∉ Lib.decDigits n := by rw [dd_eq h]; exact (dd_all ⟨n, h⟩).2.2
theorem index_app (c : UInt8) (a r : List UInt8) (h : c ∉ a) : Lib.indexByte (a ++ c :: r) c = a.length := by
  induction a with
  | nil => simp [Lib.indexByte]
  | cons x t ih =>
    have hx : ¬ x = c := fun e => h (by simp [e])
    have ht : c ∉ t := fun e => h (by simp [e])
    simp only [List.cons_append, Lib.indexByte, ih ht]
    rw [if_neg (by simpa using hx), if_neg (by simp)]
    simp
theorem index_not (c : UInt8) (a : List UInt8) (h : c ∉ a) : Lib.indexByte a c = -1 := by
  induction a with
  | nil => rfl
  | cons x t ih =>
    have hx : ¬ x = c := fun e => h (by simp [e])
    simp only [Lib.indexByte, ih (fun e => h (by simp [e]))]
    rw [if_neg (by simpa using hx), if_pos (by decide)]
def okP (p : Int × Int) : Prop := (1 ≤ p.1 ∧ p.1 ≤ 20) ∧ (1 ≤ p.2 ∧ p.2 ≤ 99)
theorem pin_back (p : Int × Int) (h : okP p) : pinOf (pinText p) = some p := by
  obtain ⟨x, y⟩ := p
  obtain ⟨⟨h1, h2⟩, h3, h4⟩ := h
  simp only at h1 h2 h3 h4
  obtain ⟨n, rfl⟩ := Int.eq_ofNat_of_zero_le (show 0 ≤ x by omega)
  obtain ⟨m, rfl⟩ := Int.eq_ofNat_of_zero_le (show 0 ≤ y by omega)
  have e : pinText ((n : Int), (m : Int)) = Lib.decDigits n ++ 64 :: Lib.decDigits m := by simp [pinText]
  rw [e, pinOf_at _ _ (index_app 64 _ _ (no64 n (by omega)))]
  simp only [List.take_left, List.drop_length_add_append]
  rw [show List.drop 1 (64 :: Lib.decDigits m) = Lib.decDigits m from rfl]
  rw [num_dec n (by omega), num_dec m (by omega)]
theorem pin_no44 (p : Int × Int) (h : okP p) : 44 ∉ pinText p := by
  obtain ⟨⟨h1, h2⟩, h3, h4⟩ := h
  unfold pinText
  intro e
  rcases List.mem_append.1 e with e | e
  · exact no44 _ (by omega) e
  · rcases List.mem_cons.1 e with e | e
    · exact absurd e (by decide)
    · exact no44 _ (by omega) e
/-- the words between commas -/
def splitL : List UInt8 → List (List UInt8)
  | [] => [[]]
  | c :: r => if c = 44 then [] :: splitL r else match splitL r with
    | [] => [[c]]
    | a :: t => (c :: a) :: t
theorem splitL_ne (l : List UInt8) : splitL l ≠ [] := by
  cases l with
  | nil => simp [splitL]
  | cons c r =>
    unfold splitL
    split
    · simp
    · split <;> simp
theorem splitL_not (a : List UInt8) (h : 44 ∉ a) : splitL a = [a] := by
  induction a with
  | nil => rfl
  | cons x t ih =>
    unfold splitL
    rw [if_neg (fun e => h (by simp [e])), ih (fun e => h (by simp [e]))]
theorem splitL_app (a r : List UInt8) (h : 44 ∉ a) : splitL (a ++ 44 :: r) = a :: splitL r := by
  induction a with
  | nil => simp [splitL]
  | cons x t ih =>
    rw [List.cons_append, splitL, if_neg (fun e => h (by simp [e])), ih (fun e => h (by simp [e]))]
theorem split_cases (l : List UInt8) : 44 ∉ l ∨ ∃ a r, l = a ++ 44 :: r ∧ 44 ∉ a := by
  induction l with
  | nil => exact .inl (by simp)
  | cons c t ih =>
    by_cases hc : c = 44
    · exact .inr ⟨[], t, by simp [hc], by simp⟩
    · rcases ih with ih | ⟨a, r, e, h⟩
      · exact .inl (by simp [ih, Ne.symm hc])
      · exact .inr ⟨c :: a, r, by simp [e], by simp [h, Ne.symm hc]⟩
theorem splitB_L (k : Nat) : ∀ s : ByteArray, Lib.countB s comma = k → (Lib.splitB comma 0 k s).map (·.data.toList) = splitL s.data.toList := by
  induction k with
  | zero =>
    intro s hk
    have hc : Lib.count s.data.toList [44] = 0 := hk
    rw [Lib.count_one] at hc
    have hn : (44 : UInt8) ∉ s.data.toList := List.count_eq_zero.1 hc
    rw [splitL_not _ hn]
    rfl
  | succ k ih =>
    intro s hk
    rcases split_cases s.data.toList with hn | ⟨a, r, e, hn⟩
    · have hc : Lib.count s.data.toList [44] = k + 1 := hk
      rw [Lib.count_one, List.count_eq_zero.2 hn] at hc
      omega
    · have hix : Lib.indexB s comma = (a.length : Nat) := by
        show Lib.index s.data.toList [44] = _
        rw [Lib.index_one, e]
        exact index_app 44 a r hn
      have h1 : 1 ≤ comma.size := by decide
      have hcnt := Lib.countB_hit s comma a.length h1 hix
      rw [Lib.splitB_hit comma 0 k s a.length hix, List.map_cons]
      have hcs : comma.size = 1 := by decide
      rw [hcs] at hcnt ⊢
      rw [ih _ (by omega), e, splitL_app a r hn]
      have e1 : (s.extract 0 (a.length + 0)).data.toList = a := by rw [Lib.extract_data, e]; simp
      have e2 : (s.extract (a.length + 1) s.size).data.toList = r := by rw [Lib.extract_to_end, e, List.drop_append]; simp
      rw [e1, e2]
theorem ws_L (s : ByteArray) : (ws s).map (·.data.toList) = splitL s.data.toList := splitB_L _ s rfl
theorem inter_cons (x : List UInt8) (r : List (List UInt8)) (h : r ≠ []) : ([44] : List UInt8).intercalate (x :: r) = x ++ 44 :: ([44] : List UInt8).intercalate r := by
  cases r with
  | nil => exact absurd rfl h
  | cons y r => simp [List.intercalate, List.intersperse]
theorem join_split (l : List UInt8) : ([44] : List UInt8).intercalate (splitL l) = l := by
  induction l with
  | nil => simp [splitL, List.intercalate]
  | cons c r ih =>
    unfold splitL
    by_cases hc : c = 44
    · rw [if_pos hc, inter_cons _ _ (splitL_ne r), ih, hc]; rfl
    · rw [if_neg hc]
      cases e : splitL r with
      | nil => exact absurd e (splitL_ne r)
      | cons a t =>
        rw [e] at ih
        cases t with
        | nil => simp [List.intercalate] at ih ⊢; exact ih
        | cons b t =>
          rw [inter_cons _ _ (by simp)] at ih ⊢
          simp [← ih]
theorem split_join (a : List (List UInt8)) (h0 : a ≠ []) (h : ∀ x ∈ a, 44 ∉ x) : splitL (([44] : List UInt8).intercalate a) = a := by
  induction a with
  | nil => exact absurd rfl h0
  | cons x r ih =>
    cases r with
    | nil => simp only [List.intercalate, List.intersperse, List.flatten_cons, List.flatten_nil, List.append_nil]; exact splitL_not x (h x (by simp))
    | cons y r =>
      rw [inter_cons _ _ (by simp), splitL_app _ _ (h x (by simp)), ih (by simp) (fun z hz => h z (by simp [hz]))]
theorem pinsOf_text (l : List (Int × Int)) (h : ∀ p ∈ l, okP p) : pinsOf (l.map pinText) = some l := by
  induction l with
  | nil => rfl
  | cons p r ih =>
    simp only [List.map_cons, pinsOf, pin_back p (h p (by simp)), ih (fun q hq => h q (by simp [hq]))]
theorem pinText_ne (p : Int × Int) : pinText p ≠ [] := by unfold pinText; simp
theorem text_ne (p : Int × Int) (r : List (Int × Int)) : text (p :: r) ≠ [] := by
  unfold text Lib.join
  rw [List.map_cons]
  intro e
  cases r with
  | nil => simp [List.intercalate] at e; exact pinText_ne p e
  | cons q r =>
    rw [inter_cons _ _ (by simp)] at e
    simp at e
theorem pins_text (l : List (Int × Int)) (h : ∀ p ∈ l, okP p) : pins ⟨(text l).toArray⟩ = some l := by
  cases l with
  | nil => rfl
  | cons p r =>
    unfold pins
    have hs : ¬ (⟨(text (p :: r)).toArray⟩ : ByteArray).size = 0 := by
      show ¬ (text (p :: r)).toArray.size = 0
      rw [List.size_toArray]
      intro e
      exact text_ne p r (List.length_eq_zero_iff.1 e)
    rw [if_neg hs, ws_L]
    show pinsOf (splitL (text (p :: r))) = _
    unfold text Lib.join
    rw [split_join _ (by simp) (fun x hx => by obtain ⟨q, hq, rfl⟩ := List.mem_map.1 hx; exact pin_no44 q (h q hq))]
    exact pinsOf_text _ h
theorem numOf_back {s : List UInt8} {v : Int} (h : numOf s = some v) (h0 : 0 ≤ v) : s = Lib.decDigits v.toNat := by
  unfold numOf at h
  split at h
  · rename_i u _
    by_cases e : Lib.itoa u = s
    · rw [if_pos e] at h
      cases h
      rw [← e]
      unfold Lib.itoa
      rw [if_neg (by omega)]
    · rw [if_neg e] at h; cases h
  · cases h
theorem pinOf_back {s : List UInt8} {p : Int × Int} (h : pinOf s = some p) (hp : okP p) : s = pinText p := by
  have hge := Lib.indexByte_ge s 64
  by_cases hix : Lib.indexByte s 64 = -1
  · rw [pinOf_none s hix] at h; cases h
  · obtain ⟨k, hk⟩ : ∃ k : Nat, Lib.indexByte s 64 = k := ⟨(Lib.indexByte s 64).toNat, by omega⟩
    rw [pinOf_at s k hk] at h
    cases e1 : numOf (s.take k) with
    | none => rw [e1] at h; cases h
    | some a =>
      cases e2 : numOf (s.drop (k + 1)) with
      | none => rw [e1, e2] at h; cases h
      | some b =>
        rw [e1, e2] at h
        cases h
        obtain ⟨⟨h1, _⟩, h3, _⟩ := hp
        simp only at h1 h3
        have ea := numOf_back e1 (by omega)
        have eb := numOf_back e2 (by omega)
        have hk64 := (Lib.indexByte_some hk).1
        obtain ⟨hlt, hv⟩ := List.getElem?_eq_some_iff.1 hk64
        unfold pinText
        rw [← ea, ← eb]
        conv => lhs; rw [← List.take_append_drop k s, List.drop_eq_getElem_cons hlt, hv]
theorem pinsOf_back (a : List (List UInt8)) (l : List (Int × Int)) (h : pinsOf a = some l) (hp : ∀ p ∈ l, okP p) : a = l.map pinText := by
  induction a generalizing l with
  | nil => simp only [pinsOf, Option.some.injEq] at h; subst h; rfl
  | cons x r ih =>
    simp only [pinsOf] at h
    cases e : pinOf x with
    | none => rw [e] at h; simp at h
    | some q =>
      cases e' : pinsOf r with
      | none => rw [e, e'] at h; simp at h
      | some m =>
        rw [e, e'] at h
        simp only [Option.some.injEq] at h
        subst h
        rw [List.map_cons, ← ih m e' (fun p hp' => hp p (by simp [hp'])), ← pinOf_back e (hp q (by simp))]
theorem text_back (s : ByteArray) (l : List (Int × Int)) (h : pins s = some l) (hp : ∀ p ∈ l, okP p) : text l = s.data.toList := by
  unfold pins at h
  by_cases h0 : s.size = 0
  · rw [if_pos h0] at h
    cases h
    have : s.data.toList = [] := List.length_eq_zero_iff.1 h0
    rw [this]; simp [text, Lib.join]
  · rw [if_neg h0, ws_L] at h
    have := pinsOf_back _ _ h hp
    unfold text Lib.join
    rw [← this, join_split]
end Lk
end Go.Proofs.YtpenkhehceglfaaGreatDoor
/- Plain functions on records: how they are checked, written and read; what is written is read, what is read is written as it was. Nothing of the program is named here. -/
namespace Go.Proofs.YtpenkhehceglfaaGreatDoor
namespace Lk
/-- a record -/
structure Note where
  kind : Int
  agent : Int
  tr : Int
  n : Int
  good : Bool
  id : Int
  lock : List (Int × Int)
def Note.none : Note := ⟨0, 0, 0, 0, false, 0, []⟩
def uA (k : Int) : Bool := k == 6 || k == 7
def uT (k : Int) : Bool := k == 1 || k == 2 || k == 3 || k == 6 || k == 7
def uN (k : Int) : Bool := k == 5
def uG (k : Int) : Bool := k == 3 || k == 7
def uR (k : Int) : Bool := k == 1 || k == 4
def within (n a b : Int) : Bool := decide (a ≤ n) && decide (n ≤ b)
def chkRel (id : Int) (l : List (Int × Int)) : Int := if within id 1 6 = true then chk l else 3
/-- something it has no use for isn't zero -/
def unused (r : Note) : Bool := (r.agent != 0 && !uA r.kind) || (r.tr != 0 && !uT r.kind) || (r.n != 0 && !uN r.kind) || (r.good && !uG r.kind) || ((r.id != 0 || decide (0 < r.lock.length)) && !uR r.kind)
def outside (r : Note) : Bool := !within r.agent 0 5 || (uT r.kind && !within r.tr 1 200) || (uN r.kind && !within r.n 1 6)
def chkNote (r : Note) : Int :=
  if (!within r.kind 1 9 || unused r) = true then 4
  else if outside r = true then 3
  else if uR r.kind = true then chkRel r.id r.lock
  else 0
def goodNum (b : Bool) : Int := if b = true then 1 else 0
def Note.nums (r : Note) : List Int := [r.kind, r.agent, r.tr, r.n, goodNum r.good, r.id]
def noteText (r : Note) : List UInt8 := (r.nums.map fun n => Lib.itoa n ++ [32]).flatten ++ 61 :: text r.lock
def alike (i : Int) (l : List (Int × Int)) (j : Int) (m : List (Int × Int)) : Bool := i == j && same l m
def sameNote (a b : Note) : Bool := a.kind == b.kind && a.agent == b.agent && a.tr == b.tr && a.n == b.n && a.good == b.good && alike a.id a.lock b.id b.lock
def notePrinted (r : Note) : List UInt8 := if chkNote r = 0 then noteText r else []
theorem sameNote_iff (a b : Note) : sameNote a b = true ↔ a = b := by
  obtain ⟨a1, a2, a3, a4, a5, a6, a7⟩ := a
  obtain ⟨b1, b2, b3, b4, b5, b6, b7⟩ := b
  simp [sameNote, alike, same, and_assoc]
theorem sameNote_self (a : Note) : sameNote a a = true := (sameNote_iff a a).2 rfl

/-! ### reading -/
/-- the first k numbers, each with a blank behind it, and what is behind them -/
def rdTo : Nat → List UInt8 → Option (List Int × List UInt8)
  | 0, s => some ([], s)
  | k + 1, s => match rdTo k s with
    | none => none
    | some q => if (Lib.cut q.2 [32]).2.2 = true then
        (match numOf (Lib.cut q.2 [32]).1 with
          | some n => some (q.1 ++ [n], (Lib.cut q.2 [32]).2.1)
          | none => none)
      else none
theorem rdTo_none {k : Nat} {s : List UInt8} (h : rdTo k s = none) : ∀ j, rdTo (k + j) s = none
  | 0 => h
  | j + 1 => by show rdTo (k + j + 1) s = none; rw [rdTo, rdTo_none h j]
theorem rdTo_next {k : Nat} {s r : List UInt8} {ns : List Int} {n : Int} (h : rdTo k s = some (ns, r)) (hc : (Lib.cut r [32]).2.2 = true) (hn : numOf (Lib.cut r [32]).1 = some n) : rdTo (k + 1) s = some (ns ++ [n], (Lib.cut r [32]).2.1) := by
  rw [rdTo, h]; simp only; rw [if_pos hc, hn]
theorem rdTo_cut {k : Nat} {s r : List UInt8} {ns : List Int} (h : rdTo k s = some (ns, r)) (hc : (Lib.cut r [32]).2.2 = false) : rdTo (k + 1) s = none := by
  rw [rdTo, h]; simp only; rw [if_neg (by rw [hc]; decide)]
theorem rdTo_num {k : Nat} {s r : List UInt8} {ns : List Int} (h : rdTo k s = some (ns, r)) (hn : numOf (Lib.cut r [32]).1 = none) : rdTo (k + 1) s = none := by
  rw [rdTo, h]; simp only
  split
  · rw [hn]
  · rfl
theorem rdTo_len {k : Nat} : ∀ {s r : List UInt8} {ns : List Int}, rdTo k s = some (ns, r) → ns.length = k := by
  induction k with
  | zero => intro s r ns h; simp only [rdTo, Option.some.injEq, Prod.mk.injEq] at h; rw [← h.1]; rfl
  | succ k ih =>
    intro s r ns h
    rw [rdTo] at h
    cases e : rdTo k s with
    | none => rw [e] at h; cases h
    | some q =>
      obtain ⟨ms, t⟩ := q
      rw [e] at h
      simp only at h
      split at h
      · split at h
        · simp only [Option.some.injEq, Prod.mk.injEq] at h
          rw [← h.1, List.length_append, ih e]; rfl
        · cases h
      · cases h
def noteOf (ns : List Int) (l : List (Int × Int)) : Note := ⟨ns.getD 0 0, ns.getD 1 0, ns.getD 2 0, ns.getD 3 0, ns.getD 4 0 == 1, ns.getD 5 0, l⟩
/-- what the numbers and the lock's text are read as -/
def fin (ns : List Int) (t : List UInt8) : Note × Int :=
  if (readAs ⟨t.toArray⟩).2 = 0 then
    (if chkNote (noteOf ns (readAs ⟨t.toArray⟩).1) = 0 then (noteOf ns (readAs ⟨t.toArray⟩).1, 0) else (Note.none, chkNote (noteOf ns (readAs ⟨t.toArray⟩).1)))
  else (Note.none, (readAs ⟨t.toArray⟩).2)
def readNote (s : List UInt8) : Note × Int := match rdTo 6 s with
  | none => (Note.none, 1)
  | some q => match q.2 with
    | [] => (Note.none, 1)
    | c :: t => if c = 61 ∧ within (q.1.getD 4 0) 0 1 = true then fin q.1 t else (Note.none, 1)

/-! ### words -/
def blank : ByteArray := ⟨#[32]⟩
def wb (s : ByteArray) : List ByteArray := Lib.splitB blank 0 (Lib.countB s blank) s
theorem wb_len (s : ByteArray) : (wb s).length = Lib.countB s blank + 1 := Lib.splitB_all blank (by decide) 0 _ s rfl
theorem countb_le (s : ByteArray) : Lib.countB s blank ≤ s.size := Lib.countB_le blank (by decide) s.size s (Nat.le_refl _)
theorem splitb_le (k : Nat) : ∀ (s x : ByteArray), x ∈ Lib.splitB blank 0 k s → x.size ≤ s.size := by
  induction k with
  | zero => intro s x h; simp [Lib.splitB] at h; rw [h]; exact Nat.le_refl _
  | succ k ih =>
    intro s x h
    unfold Lib.splitB at h
    split at h
    · simp at h; rw [h]; exact Nat.le_refl _
    · rcases List.mem_cons.1 h with h | h
      · rw [h, ByteArray.size_extract]; omega
      · have := ih _ _ h; rw [ByteArray.size_extract] at this; omega
theorem wb_le (s x : ByteArray) (h : x ∈ wb s) : x.size ≤ s.size := splitb_le _ s x h
def splitC : List UInt8 → List (List UInt8)
  | [] => [[]]
  | c :: r => if c = 32 then [] :: splitC r else match splitC r with
    | [] => [[c]]
    | a :: t => (c :: a) :: t
theorem splitC_ne (l : List UInt8) : splitC l ≠ [] := by
  cases l with
  | nil => simp [splitC]
  | cons c r =>
    unfold splitC
    split
    · simp
    · split <;> simp
theorem splitC_not (a : List UInt8) (h : 32 ∉ a) : splitC a = [a] := by
  induction a with
  | nil => rfl
  | cons x t ih =>
    unfold splitC
    rw [if_neg (fun e => h (by simp [e])), ih (fun e => h (by simp [e]))]
theorem splitC_app (a r : List UInt8) (h : 32 ∉ a) : splitC (a ++ 32 :: r) = a :: splitC r := by
  induction a with
  | nil => simp [splitC]
  | cons x t ih =>
    rw [List.cons_append, splitC, if_neg (fun e => h (by simp [e])), ih (fun e => h (by simp [e]))]
theorem blank_cases (l : List UInt8) : 32 ∉ l ∨ ∃ a r, l = a ++ 32 :: r ∧ 32 ∉ a := by
  induction l with
  | nil => exact .inl (by simp)
  | cons c t ih =>
    by_cases hc : c = 32
    · exact .inr ⟨[], t, by simp [hc], by simp⟩
    · rcases ih with ih | ⟨a, r, e, h⟩
      · exact .inl (by simp [ih, Ne.symm hc])
      · exact .inr ⟨c :: a, r, by simp [e], by simp [h, Ne.symm hc]⟩
theorem splitB_C (k : Nat) : ∀ s : ByteArray, Lib.countB s blank = k → (Lib.splitB blank 0 k s).map (·.data.toList) = splitC s.data.toList := by
  induction k with
  | zero =>
    intro s hk
    have hc : Lib.count s.data.toList [32] = 0 := hk
    rw [Lib.count_one] at hc
    have hn : (32 : UInt8) ∉ s.data.toList := List.count_eq_zero.1 hc
    rw [splitC_not _ hn]
    rfl
  | succ k ih =>
    intro s hk
    rcases blank_cases s.data.toList with hn | ⟨a, r, e, hn⟩
    · have hc : Lib.count s.data.toList [32] = k + 1 := hk
      rw [Lib.count_one, List.count_eq_zero.2 hn] at hc
      omega
    · have hix : Lib.indexB s blank = (a.length : Nat) := by
        show Lib.index s.data.toList [32] = _
        rw [Lib.index_one, e]
        exact index_app 32 a r hn
      have h1 : 1 ≤ blank.size := by decide
      have hcnt := Lib.countB_hit s blank a.length h1 hix
      rw [Lib.splitB_hit blank 0 k s a.length hix, List.map_cons]
      have hcs : blank.size = 1 := by decide
      rw [hcs] at hcnt ⊢
      rw [ih _ (by omega), e, splitC_app a r hn]
      have e1 : (s.extract 0 (a.length + 0)).data.toList = a := by rw [Lib.extract_data, e]; simp
      have e2 : (s.extract (a.length + 1) s.size).data.toList = r := by rw [Lib.extract_to_end, e, List.drop_append]; simp
      rw [e1, e2]
theorem wb_C (s : ByteArray) : (wb s).map (·.data.toList) = splitC s.data.toList := splitB_C _ s rfl
theorem wb_at {s : ByteArray} {j : Nat} {x : ByteArray} (h : (wb s)[j]? = some x) : (splitC s.data.toList)[j]? = some x.data.toList := by
  rw [← wb_C, List.getElem?_map, h]; rfl
theorem wb_lenC (s : ByteArray) : (splitC s.data.toList).length = (wb s).length := by rw [← wb_C, List.length_map]
theorem cut_not (s : List UInt8) (h : 32 ∉ s) : Lib.cut s [32] = (s, [], false) := by
  have e : Lib.index s [32] = -1 := (Lib.index_one s 32).trans (index_not 32 s h)
  unfold Lib.cut; rw [e, if_neg (by omega)]
theorem cut_app (a r : List UInt8) (h : 32 ∉ a) : Lib.cut (a ++ 32 :: r) [32] = (a, r, true) := by
  have e : Lib.index (a ++ 32 :: r) [32] = (a.length : Int) := (Lib.index_one _ 32).trans (index_app 32 a r h)
  unfold Lib.cut; rw [e, if_pos (by omega)]; simp
/-- what the numbers are, read from the words -/
def numsOf : List (List UInt8) → Option (List Int)
  | [] => some []
  | s :: r => match numOf s, numsOf r with
    | some p, some l => some (p :: l)
    | _, _ => none
theorem numsOf_snoc (a : List (List UInt8)) (s : List UInt8) (l : List Int) (p : Int) (h : numsOf a = some l) (hp : numOf s = some p) : numsOf (a ++ [s]) = some (l ++ [p]) := by
  induction a generalizing l with
  | nil => simp only [numsOf, Option.some.injEq] at h; subst h; simp [numsOf, hp]
  | cons x r ih =>
    simp only [numsOf] at h
    simp only [List.cons_append, numsOf]
    cases e : numOf x with
    | none => rw [e] at h; simp at h
    | some q =>
      cases e' : numsOf r with
      | none => rw [e, e'] at h; simp at h
      | some m =>
        rw [e, e'] at h
        simp only [Option.some.injEq] at h
        subst h
        rw [ih m e']
        rfl
theorem numsOf_bad (a : List (List UInt8)) (s : List UInt8) (hs : s ∈ a) (h : numOf s = none) : numsOf a = none := by
  induction a with
  | nil => cases hs
  | cons x r ih =>
    simp only [numsOf]
    rcases List.mem_cons.1 hs with rfl | hs
    · rw [h]
    · rw [ih hs]; cases numOf x <;> rfl
theorem rdTo_some {k : Nat} : ∀ {s r : List UInt8} {ns : List Int}, rdTo k s = some (ns, r) → ∃ ws : List (List UInt8), ws.length = k ∧ splitC s = ws ++ splitC r ∧ numsOf ws = some ns ∧ s = (ws.map fun w => w ++ [32]).flatten ++ r := by
  induction k with
  | zero => intro s r ns h; simp only [rdTo, Option.some.injEq, Prod.mk.injEq] at h; exact ⟨[], rfl, by rw [h.2]; rfl, by rw [← h.1]; rfl, by rw [h.2]; rfl⟩
  | succ k ih =>
    intro s r ns h
    rw [rdTo] at h
    cases e : rdTo k s with
    | none => rw [e] at h; cases h
    | some q =>
      obtain ⟨ms, t⟩ := q
      rw [e] at h
      simp only at h
      obtain ⟨ws, w1, w2, w3, w4⟩ := ih e
      rcases blank_cases t with hn | ⟨a, b, rfl, hn⟩
      · rw [cut_not t hn] at h; simp at h
      · rw [cut_app a b hn] at h
        simp only [if_true] at h
        cases en : numOf a with
        | none => rw [en] at h; cases h
        | some n =>
          rw [en] at h
          simp only [Option.some.injEq, Prod.mk.injEq] at h
          obtain ⟨rfl, rfl⟩ := h
          exact ⟨ws ++ [a], by simp [w1], by rw [w2, splitC_app a _ hn]; simp, numsOf_snoc _ _ _ _ w3 en, by rw [w4]; simp⟩
theorem rdTo_nope {k : Nat} : ∀ {s : List UInt8}, rdTo k s = none → (splitC s).length ≤ k ∨ numsOf ((splitC s).take k) = none := by
  induction k with
  | zero => intro s h; cases h
  | succ k ih =>
    intro s h
    rw [rdTo] at h
    cases e : rdTo k s with
    | none =>
      rcases ih e with h1 | h1
      · exact .inl (by omega)
      · by_cases hl : (splitC s).length ≤ k
        · exact .inl (by omega)
        · right
          rw [List.take_add_one]
          cases h2 : numsOf ((splitC s).take k ++ (splitC s)[k]?.toList) with
          | none => rfl
          | some z =>
            exfalso
            have key : ∀ (a b : List (List UInt8)) z, numsOf (a ++ b) = some z → numsOf a ≠ none := by
              intro a
              induction a with
              | nil => intro b z _ h; cases h
              | cons x r ihr =>
                intro b z h hh
                simp only [List.cons_append, numsOf] at h hh
                cases e1 : numOf x with
                | none => rw [e1] at h; simp at h
                | some q =>
                  cases e2 : numsOf (r ++ b) with
                  | none => rw [e1, e2] at h; simp at h
                  | some m =>
                    cases e3 : numsOf r with
                    | none => exact ihr b m e2 e3
                    | some _ => rw [e1, e3] at hh; simp at hh
            exact key _ _ z h2 h1
    | some q =>
      obtain ⟨ms, t⟩ := q
      rw [e] at h
      simp only at h
      obtain ⟨ws, w1, w2, w3, w4⟩ := rdTo_some e
      rcases blank_cases t with hn | ⟨a, b, rfl, hn⟩
      · left; rw [w2, splitC_not t hn]; simp [w1]
      · rw [cut_app a b hn] at h
        simp only [if_true] at h
        right
        rw [w2, splitC_app a b hn, List.take_append]
        refine numsOf_bad _ a (by simp [w1]) ?_
        cases en : numOf a with
        | none => rfl
        | some n => rw [en] at h; cases h

/-! ### the document's way of reading: word by word -/
theorem numsOf_len (a : List (List UInt8)) (l : List Int) (h : numsOf a = some l) : l.length = a.length := by
  induction a generalizing l with
  | nil => simp only [numsOf, Option.some.injEq] at h; subst h; rfl
  | cons x r ih =>
    simp only [numsOf] at h
    cases e : numOf x with
    | none => rw [e] at h; simp at h
    | some q =>
      cases e' : numsOf r with
      | none => rw [e, e'] at h; simp at h
      | some m =>
        rw [e, e'] at h
        simp only [Option.some.injEq] at h
        subst h
        simp [ih m e']
theorem dec_digits (u : Nat) : ∀ b ∈ Lib.decDigits u, 48 ≤ b.toNat ∧ b.toNat ≤ 57 := by
  induction u using Nat.strongRecOn with
  | _ u ih =>
    intro b hb
    by_cases h : u < 10
    · rw [Lib.decDigits, dif_pos h] at hb
      simp only [List.mem_singleton] at hb
      subst hb
      simp; omega
    · rw [Lib.decDigits, dif_neg h] at hb
      rcases List.mem_append.1 hb with hb | hb
      · exact ih (u / 10) (by omega) b hb
      · simp only [List.mem_singleton] at hb
        subst hb
        simp; omega
theorem itoa_bytes (n : Int) : ∀ b ∈ Lib.itoa n, b = 45 ∨ (48 ≤ b.toNat ∧ b.toNat ≤ 57) := by
  intro b hb
  unfold Lib.itoa at hb
  split at hb
  · rcases List.mem_cons.1 hb with h | h
    · exact .inl h
    · exact .inr (dec_digits _ b h)
  · exact .inr (dec_digits _ b hb)
theorem itoa_not {c : UInt8} (h1 : c ≠ 45) (h2 : ¬ (48 ≤ c.toNat ∧ c.toNat ≤ 57)) (n : Int) : c ∉ Lib.itoa n := fun h => by
  rcases itoa_bytes n c h with e | e
  · exact h1 e
  · exact h2 e
theorem numOf_itoa {s : List UInt8} {v : Int} (h : numOf s = some v) : Lib.itoa v = s := by
  unfold numOf at h
  split at h
  · rename_i u _
    by_cases e : Lib.itoa u = s
    · rw [if_pos e] at h; cases h; exact e
    · rw [if_neg e] at h; cases h
  · cases h
theorem num_no32 {s : List UInt8} {v : Int} (h : numOf s = some v) : 32 ∉ s := by
  rw [← numOf_itoa h]; exact itoa_not (by decide) (by decide) v
theorem pinOf_no32 {s : List UInt8} {p : Int × Int} (h : pinOf s = some p) : 32 ∉ s := by
  have hge := Lib.indexByte_ge s 64
  by_cases hix : Lib.indexByte s 64 = -1
  · rw [pinOf_none s hix] at h; cases h
  · obtain ⟨k, hk⟩ : ∃ k : Nat, Lib.indexByte s 64 = k := ⟨(Lib.indexByte s 64).toNat, by omega⟩
    rw [pinOf_at s k hk] at h
    cases e1 : numOf (s.take k) with
    | none => rw [e1] at h; cases h
    | some a =>
      cases e2 : numOf (s.drop (k + 1)) with
      | none => rw [e1, e2] at h; cases h
      | some b =>
        have hk64 := (Lib.indexByte_some hk).1
        obtain ⟨hlt, hv⟩ := List.getElem?_eq_some_iff.1 hk64
        intro hm
        rw [← List.take_append_drop k s, List.drop_eq_getElem_cons hlt, hv] at hm
        rcases List.mem_append.1 hm with hm | hm
        · exact num_no32 e1 hm
        · rcases List.mem_cons.1 hm with hm | hm
          · exact absurd hm (by decide)
          · exact num_no32 e2 hm
theorem pinsOf_no32 (a : List (List UInt8)) (l : List (Int × Int)) (h : pinsOf a = some l) : ∀ x ∈ a, 32 ∉ x := by
  induction a generalizing l with
  | nil => intro x hx; cases hx
  | cons x r ih =>
    simp only [pinsOf] at h
    cases e : pinOf x with
    | none => rw [e] at h; simp at h
    | some q =>
      cases e' : pinsOf r with
      | none => rw [e, e'] at h; simp at h
      | some m =>
        intro y hy
        rcases List.mem_cons.1 hy with rfl | hy
        · exact pinOf_no32 e
        · exact ih m e' y hy
theorem inter_mem (c : UInt8) (hc : c ≠ 44) (a : List (List UInt8)) (h : ∀ x ∈ a, c ∉ x) : c ∉ ([44] : List UInt8).intercalate a := by
  induction a with
  | nil => simp [List.intercalate]
  | cons x r ih =>
    cases r with
    | nil => simp only [List.intercalate, List.intersperse, List.flatten_cons, List.flatten_nil, List.append_nil]; exact h x (by simp)
    | cons y r =>
      rw [inter_cons _ _ (by simp)]
      intro hm
      rcases List.mem_append.1 hm with hm | hm
      · exact h x (by simp) hm
      · rcases List.mem_cons.1 hm with hm | hm
        · exact hc hm
        · exact ih (fun z hz => h z (by simp [hz])) hm
theorem pins_no32 {t : ByteArray} {l : List (Int × Int)} (h : pins t = some l) : 32 ∉ t.data.toList := by
  unfold pins at h
  by_cases h0 : t.size = 0
  · have : t.data.toList = [] := List.length_eq_zero_iff.1 h0
    rw [this]; simp
  · rw [if_neg h0, ws_L] at h
    have := inter_mem 32 (by decide) _ (pinsOf_no32 _ _ h)
    rwa [join_split] at this
theorem readAs_blank {t : List UInt8} (h : 32 ∈ t) : readAs ⟨t.toArray⟩ = ([], 1) := by
  unfold readAs
  cases e : pins ⟨t.toArray⟩ with
  | none => rfl
  | some l => exact absurd (by simpa using h) (pins_no32 e)
theorem fin_blank {t : List UInt8} (ns : List Int) (h : 32 ∈ t) : fin ns t = (Note.none, 1) := by
  unfold fin; rw [readAs_blank h]; rfl
theorem read_len {s : List UInt8} (h : (splitC s).length ≠ 7) : readNote s = (Note.none, 1) := by
  unfold readNote
  cases e : rdTo 6 s with
  | none => rfl
  | some q =>
    obtain ⟨ns, r⟩ := q
    obtain ⟨ws, w1, w2, w3, w4⟩ := rdTo_some e
    simp only
    cases r with
    | nil => rfl
    | cons c t =>
      simp only
      split
      · rename_i hc
        refine fin_blank _ ?_
        by_cases hm : 32 ∈ c :: t
        · rcases List.mem_cons.1 hm with hm | hm
          · rw [hc.1] at hm; exact absurd hm (by decide)
          · exact hm
        · rw [w2, splitC_not _ hm, List.length_append, w1] at h
          exact absurd rfl h
      · rfl
theorem read_num {s : List UInt8} (h : numsOf ((splitC s).take 6) = none) : readNote s = (Note.none, 1) := by
  unfold readNote
  cases e : rdTo 6 s with
  | none => rfl
  | some q =>
    obtain ⟨ns, r⟩ := q
    obtain ⟨ws, w1, w2, w3, w4⟩ := rdTo_some e
    rw [w2, List.take_left' w1, w3] at h
    cases h
theorem read_words {s x : List UInt8} {ns : List Int} (hl : (splitC s).length = 7) (hx : (splitC s)[6]? = some x) (hn : numsOf ((splitC s).take 6) = some ns) : rdTo 6 s = some (ns, x) := by
  cases e : rdTo 6 s with
  | none =>
    rcases rdTo_nope e with h | h
    · omega
    · rw [h] at hn; cases hn
  | some q =>
    obtain ⟨ms, r⟩ := q
    obtain ⟨ws, w1, w2, w3, w4⟩ := rdTo_some e
    rw [w2, List.take_left' w1, w3] at hn
    cases hn
    rw [w2, List.length_append, w1] at hl
    rcases blank_cases r with hm | ⟨a, b, rfl, hm⟩
    · rw [w2, splitC_not r hm, List.getElem?_append_right (by omega), w1] at hx
      simp at hx; rw [hx]
    · rw [splitC_app a b hm] at hl
      have := splitC_ne b
      have h2 : (splitC b).length ≠ 0 := fun e => this (List.length_eq_zero_iff.1 e)
      simp at hl; omega
theorem read_head {s x : List UInt8} (hl : (splitC s).length = 7) (hx : (splitC s)[6]? = some x) (hp : Lib.hasPrefix x [61] = false) : readNote s = (Note.none, 1) := by
  cases e : numsOf ((splitC s).take 6) with
  | none => exact read_num e
  | some ns =>
    unfold readNote
    rw [read_words hl hx e]
    simp only
    cases x with
    | nil => rfl
    | cons c t =>
      simp only
      rw [if_neg]
      intro h
      rw [h.1] at hp
      simp [Lib.hasPrefix] at hp
theorem read_good {s x : List UInt8} {ns : List Int} (hl : (splitC s).length = 7) (hx : (splitC s)[6]? = some x) (hn : numsOf ((splitC s).take 6) = some ns) (hg : within (ns.getD 4 0) 0 1 = false) : readNote s = (Note.none, 1) := by
  unfold readNote
  rw [read_words hl hx hn]
  simp only
  cases x with
  | nil => rfl
  | cons c t =>
    simp only
    rw [if_neg]
    intro h
    rw [h.2] at hg; cases hg
theorem read_fin {s x : List UInt8} {ns : List Int} (hl : (splitC s).length = 7) (hx : (splitC s)[6]? = some x) (hp : Lib.hasPrefix x [61] = true) (hn : numsOf ((splitC s).take 6) = some ns) (hg : within (ns.getD 4 0) 0 1 = true) : readNote s = fin ns (x.drop 1) := by
  unfold readNote
  rw [read_words hl hx hn]
  simp only
  cases x with
  | nil => simp [Lib.hasPrefix] at hp
  | cons c t =>
    simp only
    have hc : c = 61 := by
      have := hp
      simp [Lib.hasPrefix] at this
      exact this.symm
    rw [if_pos ⟨hc, hg⟩]; rfl
end Lk
end Go.Proofs.YtpenkhehceglfaaGreatDoor
/- Plain functions on lists: what the functions of package diff, and of the document's own answers, come to. Nothing of the program is named here. -/
namespace Go.Proofs.YtpenkhehceglfaaGreatDoor
namespace Dk
open Lk
theorem fm_congr {α β : Type} {f g : α → Option β} {l : List α} (h : ∀ x ∈ l, f x = g x) : l.filterMap f = l.filterMap g := by
  induction l with
  | nil => rfl
  | cons a r ih =>
    rw [List.filterMap_cons, List.filterMap_cons, h a (by simp), ih fun x hx => h x (by simp [hx])]
/-- a pin's place in a table -/
def put (t : List Int) (p : Int × Int) : List Int := t.set p.1.toNat p.2
/-- the table that a loop over pins makes -/
def tabOf (l : List (Int × Int)) : List Int := l.foldl put (List.replicate 21 0)
/-- the table by asking -/
def tb (l : List (Int × Int)) : List Int := (List.range 21).map fun (n : Nat) => find (n : Int) l
/-- the pin of a name in a table -/
def pinAt (t : List Int) (n : Nat) : Option (Int × Int) := if t.getD n 0 = 0 then none else some ((n : Int), t.getD n 0)
def pinsTo (t : List Int) (k : Nat) : List (Int × Int) := (List.range k).filterMap (pinAt t)
def pinsOf (t : List Int) : List (Int × Int) := pinsTo t 21
/-- names rise from k on, all within the bounds -/
def srt : Int → List (Int × Int) → Prop
  | _, [] => True
  | k, p :: r => (k ≤ p.1 ∧ p.1 ≤ 20 ∧ 1 ≤ p.2 ∧ p.2 ≤ 99) ∧ srt (p.1 + 1) r
theorem srt_mono {j k : Int} {l : List (Int × Int)} (h : srt k l) (hj : j ≤ k) : srt j l := by
  cases l with
  | nil => trivial
  | cons p r => exact ⟨⟨by have := h.1.1; omega, h.1.2⟩, h.2⟩
theorem srt_of_chk {l : List (Int × Int)} : ∀ {k : Int}, chkFrom k l = 0 → srt (k + 1) l := by
  induction l with
  | nil => intro k _; trivial
  | cons p r ih =>
    intro k h
    rw [chkFrom] at h
    split at h
    · rename_i hok
      split at h
      · cases h
      · simp [okPin] at hok
        exact ⟨⟨by omega, by omega, by omega, by omega⟩, ih h⟩
    · cases h
theorem chk_of_srt {l : List (Int × Int)} : ∀ {k : Int}, 0 ≤ k → srt (k + 1) l → chkFrom k l = 0 := by
  induction l with
  | nil => intro k _ _; rfl
  | cons p r ih =>
    intro k hk h
    obtain ⟨⟨h1, h2, h3, h4⟩, h5⟩ := h
    rw [chkFrom, if_pos (by simp [okPin]; omega), if_neg (by omega)]
    exact ih (by omega) h5
theorem chk_srt {l : List (Int × Int)} (h : chk l = 0) : l.length ≤ 12 ∧ srt 1 l := by
  unfold chk at h
  split at h
  · cases h
  · exact ⟨by omega, srt_of_chk h⟩
theorem srt_chk {l : List (Int × Int)} (h : l.length ≤ 12) (hs : srt 1 l) : chk l = 0 := by
  unfold chk
  rw [if_neg (by omega)]
  exact chk_of_srt (by omega) hs
theorem find_low {l : List (Int × Int)} : ∀ {k n : Int}, srt k l → n < k → find n l = 0 := by
  induction l with
  | nil => intro k n _ _; rfl
  | cons p r ih =>
    intro k n h hn
    have := h.1.1
    rw [find, if_neg (by omega)]
    exact ih h.2 (by omega)
theorem find_range {l : List (Int × Int)} : ∀ {k : Int} (n : Int), srt k l → 0 ≤ find n l ∧ find n l ≤ 99 := by
  induction l with
  | nil => intro k n _; exact ⟨Int.le_refl _, by simp [find]⟩
  | cons p r ih =>
    intro k n h
    have := h.1
    rw [find]
    split
    · omega
    · exact ih n h.2
theorem pins_from (j : Nat) : ∀ (k : Nat) (l : List (Int × Int)), srt k l → k + j = 21 → (List.range' k j).filterMap (fun (n : Nat) => if find (n : Int) l = 0 then none else some ((n : Int), find (n : Int) l)) = l := by
  induction j with
  | zero =>
    intro k l h hk
    cases l with
    | nil => rfl
    | cons p r => have := h.1; omega
  | succ j ih =>
    intro k l h hk
    rw [List.range'_succ, List.filterMap_cons]
    cases l with
    | nil =>
      simp [find]
    | cons p r =>
      obtain ⟨⟨h1, h2, h3, h4⟩, h5⟩ := h
      by_cases e : p.1 = (k : Int)
      · have e1 : find (k : Int) (p :: r) = p.2 := by rw [find, if_pos e]
        have hr := ih (k + 1) r (srt_mono h5 (by omega)) (by omega)
        rw [e1, if_neg (by omega)]
        have : (List.range' (k + 1) j).filterMap (fun (n : Nat) => if find (n : Int) (p :: r) = 0 then none else some ((n : Int), find (n : Int) (p :: r))) = (List.range' (k + 1) j).filterMap (fun (n : Nat) => if find (n : Int) r = 0 then none else some ((n : Int), find (n : Int) r)) := by
          refine fm_congr fun n hn => ?_
          have hn' := (List.mem_range'_1.1 hn).1
          rw [show find (n : Int) (p :: r) = find (n : Int) r from by rw [find, if_neg (by omega)]]
        simp only [this, hr]
        obtain ⟨a, b⟩ := p
        simp only at e
        rw [e]
      · have e1 : find (k : Int) (p :: r) = 0 := by
          rw [find, if_neg e]; exact find_low h5 (by omega)
        rw [e1, if_pos rfl]
        exact ih (k + 1) (p :: r) ⟨⟨by omega, h2, h3, h4⟩, h5⟩ (by omega)
theorem tb_len (l : List (Int × Int)) : (tb l).length = 21 := by simp [tb]
theorem tb_get (l : List (Int × Int)) (n : Nat) (h : n < 21) : (tb l).getD n 0 = find (n : Int) l := by
  simp [tb, List.getD_eq_getElem?_getD, h]
theorem pinsOf_tb {l : List (Int × Int)} (h : srt 1 l) : pinsOf (tb l) = l := by
  have := pins_from 21 0 l (srt_mono h (by decide)) rfl
  rw [← List.range_eq_range'] at this
  rw [pinsOf, pinsTo]
  conv => rhs; rw [← this]
  refine fm_congr fun n hn => ?_
  rw [pinAt, tb_get l n (by simpa using hn)]
theorem foldl_put_len (l : List (Int × Int)) : ∀ t : List Int, (l.foldl put t).length = t.length := by
  induction l with
  | nil => intro t; rfl
  | cons p r ih => intro t; rw [List.foldl_cons, ih]; simp [put]
theorem foldl_put_get {l : List (Int × Int)} : ∀ {k : Int} (t : List Int) (n : Nat), 0 ≤ k → srt k l → n < t.length → (l.foldl put t).getD n 0 = if find (n : Int) l = 0 then t.getD n 0 else find (n : Int) l := by
  induction l with
  | nil => intro k t n _ _ _; simp [find]
  | cons p r ih =>
    intro k t n hk h hn
    obtain ⟨⟨h1, h2, h3, h4⟩, h5⟩ := h
    rw [List.foldl_cons, ih (put t p) n (by omega) h5 (by simpa [put] using hn), find]
    by_cases e : p.1 = (n : Int)
    · have e0 : find (n : Int) r = 0 := find_low h5 (by omega)
      rw [if_pos e0, if_pos e, if_neg (by omega)]
      have : p.1.toNat = n := by omega
      simp [put, List.getD_eq_getElem?_getD, this, hn]
    · rw [if_neg e]
      have : p.1.toNat ≠ n := by omega
      split
      · simp [put, List.getD_eq_getElem?_getD, List.getElem?_set_ne this]
      · rfl
theorem list_ext21 {s t : List Int} (hs : s.length = 21) (ht : t.length = 21) (h : ∀ n, n < 21 → s.getD n 0 = t.getD n 0) : s = t := by
  refine List.ext_getElem (by omega) fun j h1 h2 => ?_
  have := h j (by omega)
  rwa [List.getD_eq_getElem?_getD, List.getD_eq_getElem?_getD, List.getElem?_eq_getElem h1, List.getElem?_eq_getElem h2] at this
theorem tabOf_len (l : List (Int × Int)) : (tabOf l).length = 21 := by rw [tabOf, foldl_put_len]; simp
theorem tabOf_tb {l : List (Int × Int)} (h : srt 1 l) : tabOf l = tb l := by
  refine list_ext21 (tabOf_len l) (tb_len l) fun n hn => ?_
  rw [tabOf, foldl_put_get _ n (by decide) h (by simpa using hn), tb_get l n hn]
  split
  · rename_i e; rw [e, List.getD_eq_getElem?_getD, List.getElem?_replicate, if_pos hn]; rfl
  · rfl
/-- a table that is a lock's, but for how many there are -/
def okTab (t : List Int) : Prop := t.length = 21 ∧ t.getD 0 0 = 0 ∧ ∀ n, n < 21 → 0 ≤ t.getD n 0 ∧ t.getD n 0 ≤ 99
theorem okTab_tb {l : List (Int × Int)} (h : srt 1 l) : okTab (tb l) :=
  ⟨tb_len l, by rw [tb_get l 0 (by decide)]; exact find_low h (by decide), fun n hn => by rw [tb_get l n hn]; exact find_range _ h⟩
theorem srt_pins (t : List Int) (ht : okTab t) (j : Nat) : ∀ k : Nat, 1 ≤ k → k + j = 21 → srt k ((List.range' k j).filterMap (pinAt t)) := by
  induction j with
  | zero => intro k _ _; trivial
  | succ j ih =>
    intro k h1 hk
    rw [List.range'_succ, List.filterMap_cons]
    have hr := ih (k + 1) (by omega) (by omega)
    unfold pinAt
    split
    · rename_i e
      exact srt_mono hr (by omega)
    · rename_i e
      split at e
      · cases e
      · cases e
        have := ht.2.2 k (by omega)
        exact ⟨⟨by omega, by omega, by omega, by omega⟩, hr⟩
theorem srt_pinsOf {t : List Int} (ht : okTab t) : srt 1 (pinsOf t) := by
  rw [pinsOf, pinsTo, List.range_eq_range', List.range'_succ, List.filterMap_cons]
  have : pinAt t 0 = none := by rw [pinAt, if_pos ht.2.1]
  rw [this]
  exact srt_pins t ht 20 1 (by decide) rfl
theorem find_pins (t : List Int) (n : Nat) (j : Nat) : ∀ k : Nat, find (n : Int) ((List.range' k j).filterMap (pinAt t)) = if k ≤ n ∧ n < k + j then t.getD n 0 else 0 := by
  induction j with
  | zero => intro k; rw [if_neg (by omega)]; rfl
  | succ j ih =>
    intro k
    rw [List.range'_succ, List.filterMap_cons]
    by_cases e0 : t.getD k 0 = 0
    · rw [show pinAt t k = none from by rw [pinAt, if_pos e0]]
      simp only []
      rw [ih (k + 1)]
      by_cases e : k = n
      · subst e; rw [if_neg (by omega), if_pos (by omega), e0]
      · by_cases h : k ≤ n ∧ n < k + (j + 1)
        · rw [if_pos h, if_pos (by omega)]
        · rw [if_neg h, if_neg (by omega)]
    · rw [show pinAt t k = some ((k : Int), t.getD k 0) from by rw [pinAt, if_neg e0]]
      simp only [find]
      by_cases e : k = n
      · subst e; rw [if_pos rfl, if_pos (by omega)]
      · rw [if_neg (by omega), ih (k + 1)]
        by_cases h : k ≤ n ∧ n < k + (j + 1)
        · rw [if_pos h, if_pos (by omega)]
        · rw [if_neg h, if_neg (by omega)]
theorem tb_pinsOf {t : List Int} (ht : t.length = 21) : tb (pinsOf t) = t := by
  refine list_ext21 (tb_len _) ht fun n hn => ?_
  rw [tb_get _ n hn, pinsOf, pinsTo, List.range_eq_range', find_pins t n 21 0, if_pos (by omega)]
/-- two locks with one table are the same -/
theorem tb_inj {l m : List (Int × Int)} (hl : srt 1 l) (hm : srt 1 m) (h : tb l = tb m) : l = m := by
  rw [← pinsOf_tb hl, ← pinsOf_tb hm, h]

/-- the step of a name that goes -/
def dropAt (A B : List Int) (n : Nat) : Option (Int × Int × Int) := if A.getD n 0 = B.getD n 0 then none else if B.getD n 0 = 0 then some (2, (n : Int), 0) else none
/-- the step of a name that comes or turns -/
def restAt (A B : List Int) (n : Nat) : Option (Int × Int × Int) := if A.getD n 0 = B.getD n 0 then none else if B.getD n 0 = 0 then none else if A.getD n 0 = 0 then some (1, (n : Int), B.getD n 0) else some (3, (n : Int), B.getD n 0)
def drops (A B : List Int) (k : Nat) : List (Int × Int × Int) := (List.range k).filterMap (dropAt A B)
def rests (A B : List Int) (k : Nat) : List (Int × Int × Int) := (List.range k).filterMap (restAt A B)
/-- all steps from one table to another one -/
def steps (A B : List Int) : List (Int × Int × Int) := drops A B 21 ++ rests A B 21
/-- the program's two loops -/
def goes (B : List Int) (p : Int × Int) : Option (Int × Int × Int) := if B.getD p.1.toNat 0 = 0 then some (2, p.1, 0) else none
def comes (A : List Int) (p : Int × Int) : Option (Int × Int × Int) := if A.getD p.1.toNat 0 = p.2 then none else if A.getD p.1.toNat 0 = 0 then some (1, p.1, p.2) else some (3, p.1, p.2)
theorem goes_all {a : List (Int × Int)} (ha : srt 1 a) (B : List Int) : a.filterMap (goes B) = drops (tb a) B 21 := by
  conv => lhs; rw [← pinsOf_tb ha, pinsOf, pinsTo, List.filterMap_filterMap]
  refine fm_congr fun n hn => ?_
  have e : ∀ x, goes B ((n : Int), x) = if B.getD n 0 = 0 then some (2, (n : Int), 0) else none := fun x => by simp [goes]
  unfold pinAt dropAt
  generalize (tb a).getD n 0 = x
  generalize B.getD n 0 = y at e
  by_cases h1 : x = 0
  · rw [if_pos h1]
    by_cases h2 : y = 0
    · rw [if_pos (by omega)]; rfl
    · rw [if_neg (by omega), if_neg h2]; rfl
  · rw [if_neg h1]
    show goes B ((n : Int), x) = _
    rw [e]
    by_cases h2 : y = 0
    · rw [if_pos h2, if_neg (by omega)]
    · rw [if_neg h2, ite_self]
theorem comes_all {b : List (Int × Int)} (hb : srt 1 b) (A : List Int) : b.filterMap (comes A) = rests A (tb b) 21 := by
  conv => lhs; rw [← pinsOf_tb hb, pinsOf, pinsTo, List.filterMap_filterMap]
  refine fm_congr fun n hn => ?_
  have e : ∀ x, comes A ((n : Int), x) = if A.getD n 0 = x then none else if A.getD n 0 = 0 then some (1, (n : Int), x) else some (3, (n : Int), x) := fun x => by simp [comes]
  unfold pinAt restAt
  generalize (tb b).getD n 0 = y
  generalize A.getD n 0 = x at e
  by_cases h1 : y = 0
  · rw [if_pos h1, if_pos h1, ite_self]; rfl
  · rw [if_neg h1, if_neg h1]
    exact e y
theorem fm_next {β : Type} (f : Nat → Option β) (k : Nat) : (List.range (k + 1)).filterMap f = (List.range k).filterMap f ++ (f k).toList := by
  rw [List.range_succ, List.filterMap_append]
  cases h : f k <;> simp [h]
theorem fm_len {β : Type} (f : Nat → Option β) (k : Nat) : ((List.range k).filterMap f).length ≤ k := by
  have := List.length_filterMap_le f (List.range k)
  rwa [List.length_range] at this
theorem pinsTo_none {t : List Int} {k : Nat} (h : t.getD k 0 = 0) : pinsTo t (k + 1) = pinsTo t k := by
  rw [pinsTo, fm_next, pinAt, if_pos h]; simp [pinsTo]
theorem pinsTo_some {t : List Int} {k : Nat} {v : Int} (h : t.getD k 0 = v) (h0 : v ≠ 0) : pinsTo t (k + 1) = pinsTo t k ++ [((k : Int), v)] := by
  rw [pinsTo, fm_next, pinAt, if_neg (by rw [h]; exact h0), h]; rfl
end Dk
end Go.Proofs.YtpenkhehceglfaaGreatDoor
/- Of steps from one table to another one: done one after the other they leave the rest, and each lock in between is one. Nothing of the program is named here. -/
namespace Go.Proofs.YtpenkhehceglfaaGreatDoor
namespace Dk
open Lk
/-- a step's place in a table -/
def putO (t : List Int) (o : Int × Int × Int) : List Int := t.set o.2.1.toNat o.2.2
theorem putO_len (t : List Int) (o : Int × Int × Int) : (putO t o).length = t.length := by simp [putO]
theorem putO_get (t : List Int) (o : Int × Int × Int) (n : Nat) (h : n < t.length) : (putO t o).getD n 0 = if o.2.1.toNat = n then o.2.2 else t.getD n 0 := by
  unfold putO
  by_cases e : o.2.1.toNat = n
  · rw [if_pos e, List.getD_eq_getElem?_getD, e, List.getElem?_set_self h]; rfl
  · rw [if_neg e, List.getD_eq_getElem?_getD, List.getElem?_set_ne e, ← List.getD_eq_getElem?_getD]
theorem fm_strike {β : Type} {f g : Nat → Option β} {m : Nat} {o : β} (hm : f m = some o) (hi : ∀ n, f n = some o → n = m) (hg : g m = none) (hn : ∀ n, n ≠ m → g n = f n) :
    ∀ (l : List Nat) (r : List β), l.Nodup → l.filterMap f = o :: r → l.filterMap g = r := by
  intro l
  induction l with
  | nil => intro r _ h; cases h
  | cons x q ih =>
    intro r hd h
    rw [List.nodup_cons] at hd
    rw [List.filterMap_cons] at h ⊢
    cases hx : f x with
    | none =>
      rw [hx] at h
      have : x ≠ m := fun e => by rw [e, hm] at hx; cases hx
      rw [hn x this, hx]
      exact ih r hd.2 h
    | some y =>
      rw [hx] at h
      simp only [List.cons.injEq] at h
      have e : x = m := hi x (by rw [hx, h.1])
      rw [e, hg, ← h.2]
      refine fm_congr fun z hz => hn z fun e' => hd.1 ?_
      rw [e, ← e']; exact hz
theorem fm_nil {α β : Type} {f : α → Option β} {l : List α} (h : l.filterMap f = []) : ∀ x ∈ l, f x = none := by
  induction l with
  | nil => intro x hx; cases hx
  | cons a r ih =>
    intro x hx
    rw [List.filterMap_cons] at h
    cases ha : f a with
    | some y => rw [ha] at h; cases h
    | none =>
      rw [ha] at h
      rcases List.mem_cons.1 hx with rfl | hx
      · exact ha
      · exact ih h x hx
theorem dropAt_some {A B : List Int} {n : Nat} {o : Int × Int × Int} (h : dropAt A B n = some o) : o = (2, (n : Int), 0) ∧ B.getD n 0 = 0 ∧ A.getD n 0 ≠ 0 := by
  unfold dropAt at h
  split at h
  · cases h
  · split at h
    · cases h; exact ⟨rfl, by assumption, by omega⟩
    · cases h
theorem restAt_some {A B : List Int} {n : Nat} {o : Int × Int × Int} (h : restAt A B n = some o) : o = ((if A.getD n 0 = 0 then 1 else 3), (n : Int), B.getD n 0) ∧ B.getD n 0 ≠ 0 ∧ A.getD n 0 ≠ B.getD n 0 := by
  unfold restAt at h
  split at h
  · cases h
  · split at h
    · cases h
    · split at h
      · cases h; rename_i e; exact ⟨by rw [if_pos e], by assumption, by assumption⟩
      · cases h; rename_i e; exact ⟨by rw [if_neg e], by assumption, by assumption⟩
theorem mem_drops {A B : List Int} {k : Nat} {o : Int × Int × Int} (h : o ∈ drops A B k) : ∃ n : Nat, n < k ∧ dropAt A B n = some o := by
  obtain ⟨n, hn, e⟩ := List.mem_filterMap.1 h
  exact ⟨n, by simpa using hn, e⟩
theorem mem_rests {A B : List Int} {k : Nat} {o : Int × Int × Int} (h : o ∈ rests A B k) : ∃ n : Nat, n < k ∧ restAt A B n = some o := by
  obtain ⟨n, hn, e⟩ := List.mem_filterMap.1 h
  exact ⟨n, by simpa using hn, e⟩
/-- what each step says -/
theorem mem_steps {A B : List Int} {o : Int × Int × Int} (h : o ∈ steps A B) : ∃ n : Nat, n < 21 ∧ o = ((if B.getD n 0 = 0 then 2 else if A.getD n 0 = 0 then 1 else 3), (n : Int), B.getD n 0) ∧ A.getD n 0 ≠ B.getD n 0 := by
  rcases List.mem_append.1 h with h | h
  · obtain ⟨n, hn, e⟩ := mem_drops h
    obtain ⟨h1, h2, h3⟩ := dropAt_some e
    exact ⟨n, hn, by rw [if_pos h2, h1, h2], by omega⟩
  · obtain ⟨n, hn, e⟩ := mem_rests h
    obtain ⟨h1, h2, h3⟩ := restAt_some e
    exact ⟨n, hn, by rw [if_neg h2, h1], h3⟩
theorem steps_nil {A B : List Int} (hA : A.length = 21) (hB : B.length = 21) (h : steps A B = []) : A = B := by
  rw [steps, List.append_eq_nil_iff] at h
  refine list_ext21 hA hB fun n hn => ?_
  have h1 := fm_nil h.1 n (by simpa using hn)
  have h2 := fm_nil h.2 n (by simpa using hn)
  unfold dropAt at h1
  unfold restAt at h2
  split at h1
  · assumption
  · rename_i e
    rw [if_neg e] at h2
    split at h1
    · cases h1
    · rename_i e2
      rw [if_neg e2] at h2
      split at h2 <;> cases h2
theorem steps_self (A : List Int) : steps A A = [] := by
  cases h : steps A A with
  | nil => rfl
  | cons o r =>
    obtain ⟨n, _, _, h⟩ := mem_steps (A := A) (B := A) (o := o) (by rw [h]; simp)
    exact absurd rfl h
/-- one step done leaves the others -/
theorem steps_cons {A B : List Int} (hA : A.length = 21) {o : Int × Int × Int} {r : List (Int × Int × Int)} (h : steps A B = o :: r) : steps (putO A o) B = r := by
  have hn : ∀ n m : Nat, n ≠ m → o.2.1 = (m : Int) → (putO A o).getD n 0 = A.getD n 0 := fun n m e e1 => by
    unfold putO
    rw [List.getD_eq_getElem?_getD, List.getElem?_set_ne (by omega), ← List.getD_eq_getElem?_getD]
  have hm : ∀ m : Nat, m < 21 → o.2.1 = (m : Int) → (putO A o).getD m 0 = o.2.2 := fun m hm e1 => by
    rw [putO_get A o m (by omega), if_pos (by omega)]
  rw [steps] at h
  cases hd : drops A B 21 with
  | nil =>
    rw [hd, List.nil_append] at h
    obtain ⟨m, hm1, hm2⟩ := mem_rests (A := A) (B := B) (k := 21) (o := o) (by rw [h]; simp)
    obtain ⟨e1, e2, e3⟩ := restAt_some hm2
    have eo : o.2.1 = (m : Int) := by rw [e1]
    have ev : o.2.2 = B.getD m 0 := by rw [e1]
    have d' : drops (putO A o) B 21 = [] := by
      rw [← hd]
      refine fm_congr fun n _ => ?_
      unfold dropAt
      by_cases e : n = m
      · subst e; rw [if_neg e2, ite_self, ite_self]
      · rw [hn n m e eo]
    rw [steps, d', List.nil_append]
    refine fm_strike hm2 ?_ ?_ ?_ _ _ List.nodup_range h
    · intro n hn'
      obtain ⟨e1', _, _⟩ := restAt_some hn'
      have : (n : Int) = m := by rw [← eo, e1']
      omega
    · unfold restAt; rw [hm m hm1 eo, ev, if_pos rfl]
    · intro n e; unfold restAt; rw [hn n m e eo]
  | cons o' d =>
    rw [hd, List.cons_append] at h
    simp only [List.cons.injEq] at h
    obtain ⟨rfl, h⟩ := h
    obtain ⟨m, hm1, hm2⟩ := mem_drops (A := A) (B := B) (k := 21) (o := o') (by rw [hd]; simp)
    obtain ⟨e1, e2, e3⟩ := dropAt_some hm2
    have eo : o'.2.1 = (m : Int) := by rw [e1]
    have ev : o'.2.2 = B.getD m 0 := by rw [e1, e2]
    have d' : drops (putO A o') B 21 = d := by
      refine fm_strike hm2 ?_ ?_ ?_ _ _ List.nodup_range hd
      · intro n hn'
        obtain ⟨e1', _, _⟩ := dropAt_some hn'
        have : (n : Int) = m := by rw [← eo, e1']
        omega
      · unfold dropAt; rw [hm m hm1 eo, ev, if_pos rfl]
      · intro n e; unfold dropAt; rw [hn n m e eo]
    have r' : rests (putO A o') B 21 = rests A B 21 := by
      refine fm_congr fun n _ => ?_
      unfold restAt
      by_cases e : n = m
      · subst e; rw [if_pos e2, ite_self, if_pos e2, ite_self]
      · rw [hn n m e eo]
    rw [steps, d', r', h]
theorem fm_len_le {f g : Nat → Option (Int × Int)} {l : List Nat} (h : ∀ n ∈ l, (f n).isSome = true → (g n).isSome = true) : (l.filterMap f).length ≤ (l.filterMap g).length := by
  induction l with
  | nil => simp
  | cons x q ih =>
    have ihq := ih fun n hn => h n (by simp [hn])
    have hx := h x (by simp)
    rw [List.filterMap_cons, List.filterMap_cons]
    cases hf : f x with
    | none =>
      cases g x with
      | none => exact ihq
      | some b => exact Nat.le_succ_of_le ihq
    | some a =>
      rw [hf] at hx
      obtain ⟨b, hb⟩ := Option.isSome_iff_exists.1 (hx rfl)
      rw [hb]
      exact Nat.succ_le_succ ihq
theorem fm_len_lt {f g : Nat → Option (Int × Int)} {l : List Nat} (h : ∀ n ∈ l, (f n).isSome = true → (g n).isSome = true) {m : Nat} (hm : m ∈ l) (hf : f m = none) (hg : (g m).isSome = true) : (l.filterMap f).length < (l.filterMap g).length := by
  induction l with
  | nil => cases hm
  | cons x q ih =>
    have hx := h x (by simp)
    have hq : ∀ n ∈ q, (f n).isSome = true → (g n).isSome = true := fun n hn => h n (by simp [hn])
    rw [List.filterMap_cons, List.filterMap_cons]
    by_cases e : x = m
    · obtain ⟨b, hb⟩ := Option.isSome_iff_exists.1 hg
      rw [e, hf, hb]
      exact Nat.lt_succ_of_le (fm_len_le hq)
    · have ihq := ih hq (by rcases List.mem_cons.1 hm with h | h; exact absurd h.symm e; exact h)
      cases hf : f x with
      | none =>
        cases g x with
        | none => exact ihq
        | some b => exact Nat.lt_succ_of_lt ihq
      | some a =>
        rw [hf] at hx
        obtain ⟨b, hb⟩ := Option.isSome_iff_exists.1 (hx rfl)
        rw [hb]
        exact Nat.succ_lt_succ ihq
theorem pinAt_some (t : List Int) (n : Nat) : (pinAt t n).isSome = true ↔ t.getD n 0 ≠ 0 := by
  unfold pinAt
  split
  · rename_i h; exact ⟨(fun e => by cases e), fun e => absurd h e⟩
  · rename_i h; exact ⟨fun _ => h, fun _ => rfl⟩
theorem pins_le {s t : List Int} (h : ∀ n, n < 21 → s.getD n 0 ≠ 0 → t.getD n 0 ≠ 0) : (pinsOf s).length ≤ (pinsOf t).length :=
  fm_len_le fun n hn hs => (pinAt_some t n).2 (h n (by simpa using hn) ((pinAt_some s n).1 hs))
theorem pins_lt {s t : List Int} (h : ∀ n, n < 21 → s.getD n 0 ≠ 0 → t.getD n 0 ≠ 0) {m : Nat} (hm : m < 21) (h1 : s.getD m 0 = 0) (h2 : t.getD m 0 ≠ 0) : (pinsOf s).length < (pinsOf t).length :=
  fm_len_lt (fun n hn hs => (pinAt_some t n).2 (h n (by simpa using hn) ((pinAt_some s n).1 hs))) (m := m) (by simpa using hm) (by rw [pinAt, if_pos h1]) ((pinAt_some t m).2 h2)
/-- a table of a lock -/
def good (t : List Int) : Prop := okTab t ∧ (pinsOf t).length ≤ 12
theorem good_chk {t : List Int} (h : good t) : chk (pinsOf t) = 0 := srt_chk h.2 (srt_pinsOf h.1)
theorem good_tb {l : List (Int × Int)} (h : chk l = 0) : good (tb l) := by
  obtain ⟨h1, h2⟩ := chk_srt h
  exact ⟨okTab_tb h2, by rw [pinsOf_tb h2]; exact h1⟩
theorem pins_tb {l : List (Int × Int)} (h : chk l = 0) : pinsOf (tb l) = l := pinsOf_tb (chk_srt h).2
/-- the next step, and what it does -/
theorem step_first {A B : List Int} (hA : good A) (hB : good B) {o : Int × Int × Int} {r : List (Int × Int × Int)} (h : steps A B = o :: r) :
    ∃ n : Nat, 1 ≤ n ∧ n ≤ 20 ∧ o = ((if B.getD n 0 = 0 then 2 else if A.getD n 0 = 0 then 1 else 3), (n : Int), B.getD n 0) ∧ A.getD n 0 ≠ B.getD n 0 ∧ good (putO A o) ∧ (A.getD n 0 = 0 → (pinsOf A).length < 12) := by
  obtain ⟨n, hn, ho, hne⟩ := mem_steps (A := A) (B := B) (o := o) (by rw [h]; simp)
  have h1 : 1 ≤ n := by
    rcases Nat.eq_zero_or_pos n with e | e
    · subst e; exact absurd (hA.1.2.1.trans hB.1.2.1.symm) hne
    · exact e
  have hl : A.length = 21 := hA.1.1
  have eo : o.2.1.toNat = n := by rw [ho]; simp
  have ev : o.2.2 = B.getD n 0 := by rw [ho]
  have hok : okTab (putO A o) := by
    refine ⟨by rw [putO_len]; exact hl, ?_, fun k hk => ?_⟩
    · rw [putO_get A o 0 (by omega), if_neg (by omega)]; exact hA.1.2.1
    · rw [putO_get A o k (by omega)]
      split
      · rename_i e; rw [ev]; exact hB.1.2.2 n hn
      · exact hA.1.2.2 k hk
  by_cases e2 : B.getD n 0 = 0
  · refine ⟨n, h1, by omega, ho, hne, ⟨hok, ?_⟩, fun h => by omega⟩
    refine Nat.le_trans (pins_le (t := A) fun k hk hs => ?_) hA.2
    rw [putO_get A o k (by omega)] at hs
    split at hs
    · rw [ev] at hs; exact absurd e2 hs
    · exact hs
  · have hd : drops A B 21 = [] := by
      rw [steps] at h
      cases hd : drops A B 21 with
      | nil => rfl
      | cons o' d =>
        exfalso
        rw [hd, List.cons_append] at h
        simp only [List.cons.injEq] at h
        obtain ⟨m, hm1, hm2⟩ := mem_drops (A := A) (B := B) (k := 21) (o := o') (by rw [hd]; simp)
        obtain ⟨e1, e2', e3⟩ := dropAt_some hm2
        have : (m : Int) = n := by
          have h1 : o'.2.1 = (m : Int) := by rw [e1]
          have h2 : o.2.1 = (n : Int) := by rw [ho]
          rw [← h1, ← h2, h.1]
        have : m = n := by omega
        subst this
        exact e2 e2'
    have hz : ∀ k, k < 21 → A.getD k 0 ≠ 0 → B.getD k 0 ≠ 0 := fun k hk ha hb => by
      have := fm_nil hd k (by simpa using hk)
      unfold dropAt at this
      rw [if_neg (by omega), if_pos hb] at this
      cases this
    refine ⟨n, h1, by omega, ho, hne, ⟨hok, ?_⟩, fun ha => Nat.lt_of_lt_of_le (pins_lt hz hn ha e2) hB.2⟩
    refine Nat.le_trans (pins_le (t := B) fun k hk hs => ?_) hB.2
    rw [putO_get A o k (by omega)] at hs
    split at hs
    · rename_i e; rw [← e, eo]; exact e2
    · exact hz k hk hs
/-- what is wrong with a step -/
def opErr (o : Int × Int × Int) : Int :=
  if 1 ≤ o.1 ∧ o.1 ≤ 3 then (if (1 ≤ o.2.1 ∧ o.2.1 ≤ 20) ∧ (if o.1 = 2 then o.2.2 = 0 else 1 ≤ o.2.2 ∧ o.2.2 ≤ 99) then 0 else 3) else 4
/-- why a step can't be done to l -/
def fitErr (l : List (Int × Int)) (o : Int × Int × Int) : Int :=
  if find o.2.1 l = 0 then (if o.1 = 1 then (if 12 ≤ l.length then 2 else 0) else 5) else (if o.1 = 1 then 6 else 0)
def applyErr (l : List (Int × Int)) (o : Int × Int × Int) : Int := if chk l = 0 then (if opErr o = 0 then fitErr l o else opErr o) else chk l
def applied (l : List (Int × Int)) (o : Int × Int × Int) : List (Int × Int) := if applyErr l o = 0 then pinsOf (putO (tb l) o) else []
def diffErr (a b : List (Int × Int)) : Int := if chk a = 0 then chk b else chk a
def diffed (a b : List (Int × Int)) : List (Int × Int × Int) := if diffErr a b = 0 then steps (tb a) (tb b) else []
/-- after how many steps a table is another one -/
def wayFrom (t L : List Int) : List (Int × Int × Int) → Int → Int
  | [], k => if t = L then k else -1
  | o :: r, k => if t = L then k else wayFrom (putO t o) L r (k + 1)
def betweenErr (a b l : List (Int × Int)) : Int := if diffErr a b = 0 then chk l else diffErr a b
def between (a b l : List (Int × Int)) : Int := if betweenErr a b l = 0 then wayFrom (tb a) (tb l) (steps (tb a) (tb b)) 0 else 0
theorem apply_step {A B : List Int} (hA : good A) (hB : good B) {o : Int × Int × Int} {r : List (Int × Int × Int)} (h : steps A B = o :: r) :
    applyErr (pinsOf A) o = 0 ∧ applied (pinsOf A) o = pinsOf (putO A o) ∧ good (putO A o) := by
  obtain ⟨n, h1, h2, ho, hne, hg, hl⟩ := step_first hA hB h
  have hc := good_chk hA
  have hf : find o.2.1 (pinsOf A) = A.getD n 0 := by
    rw [ho]
    show find (n : Int) (pinsOf A) = _
    rw [← tb_get (pinsOf A) n (by omega), tb_pinsOf hA.1.1]
  have he : opErr o = 0 := by
    have hb := hB.1.2.2 n (by omega)
    unfold opErr
    rw [ho]
    by_cases e : B.getD n 0 = 0
    · simp only [if_pos e]; rw [if_pos (by omega), if_pos ⟨by omega, by rw [if_pos trivial]; exact e⟩]
    · simp only [if_neg e]
      by_cases e' : A.getD n 0 = 0
      · simp only [if_pos e']; rw [if_pos (by omega), if_pos ⟨by omega, by rw [if_neg (by omega)]; omega⟩]
      · simp only [if_neg e']; rw [if_pos (by omega), if_pos ⟨by omega, by rw [if_neg (by omega)]; omega⟩]
  have hx : fitErr (pinsOf A) o = 0 := by
    unfold fitErr
    rw [hf]
    by_cases e : A.getD n 0 = 0
    · have : o.1 = 1 := by rw [ho]; simp only []; rw [if_neg (by omega), if_pos e]
      rw [if_pos e, if_pos this, if_neg (by have := hl e; omega)]
    · have : o.1 ≠ 1 := by
        rw [ho]; simp only []; rw [if_neg e]; split <;> decide
      rw [if_neg e, if_neg this]
  have ha : applyErr (pinsOf A) o = 0 := by rw [applyErr, if_pos hc, if_pos he, hx]
  exact ⟨ha, by rw [applied, if_pos ha, tb_pinsOf hA.1.1], hg⟩
/-- steps that are done -/
def after (t : List Int) (os : List (Int × Int × Int)) : List Int := os.foldl putO t
theorem after_take (t : List Int) (os : List (Int × Int × Int)) (i : Nat) (o : Int × Int × Int) (h : os[i]? = some o) : after t (os.take (i + 1)) = putO (after t (os.take i)) o := by
  rw [List.take_add_one, h, after, List.foldl_append]; rfl
theorem drop_cons {α : Type} {os : List α} {i : Nat} {o : α} (h : os[i]? = some o) : os.drop i = o :: os.drop (i + 1) := by
  obtain ⟨hi, e⟩ := List.getElem?_eq_some_iff.1 h
  rw [List.drop_eq_getElem_cons hi, e]
/-- all on the way: the table behind i steps is a lock's, and the steps from there are the rest -/
theorem on_way {A B : List Int} (hA : good A) (hB : good B) : ∀ i, i ≤ (steps A B).length → good (after A ((steps A B).take i)) ∧ steps (after A ((steps A B).take i)) B = (steps A B).drop i := by
  intro i
  induction i with
  | zero => intro _; exact ⟨hA, rfl⟩
  | succ i ih =>
    intro hi
    obtain ⟨h1, h2⟩ := ih (by omega)
    have hs : (steps A B)[i]? = some (steps A B)[i] := List.getElem?_eq_getElem (by omega)
    rw [after_take A _ i _ hs]
    rw [drop_cons hs] at h2
    exact ⟨(apply_step h1 hB h2).2.2, steps_cons h1.1.1 h2⟩
theorem way_at {A B : List Int} (hA : good A) (hB : good B) (i : Nat) (hi : i ≤ (steps A B).length) : ∀ j k : Nat, j + k = i → wayFrom (after A ((steps A B).take j)) (after A ((steps A B).take i)) ((steps A B).drop j) j = i := by
  intro j k
  induction k generalizing j with
  | zero =>
    intro h
    have : j = i := by omega
    subst this
    cases (steps A B).drop j with
    | nil => rw [wayFrom, if_pos rfl]
    | cons o r => rw [wayFrom, if_pos rfl]
  | succ k ih =>
    intro h
    have hs : (steps A B)[j]? = some (steps A B)[j] := List.getElem?_eq_getElem (by omega)
    rw [drop_cons hs, wayFrom, if_neg, ← after_take A _ j _ hs]
    · exact ih (j + 1) (by omega)
    · intro e
      have h1 := (on_way hA hB j (by omega)).2
      rw [e, (on_way hA hB i hi).2] at h1
      have := congrArg List.length h1
      simp only [List.length_drop] at this
      omega
/-- where it isn't on the way, it is neither end -/
theorem way_not {A B L : List Int} (hA : good A) (hB : good B) (h : wayFrom A L (steps A B) 0 = -1) : L ≠ A ∧ L ≠ B := by
  constructor
  · intro e
    have := way_at hA hB 0 (Nat.zero_le _) 0 0 rfl
    simp only [List.take_zero, List.drop_zero] at this
    rw [e] at h
    have e2 : wayFrom A A (steps A B) 0 = 0 := this
    omega
  · intro e
    have := way_at hA hB (steps A B).length (Nat.le_refl _) 0 (steps A B).length (by omega)
    have hw := on_way hA hB (steps A B).length (Nat.le_refl _)
    rw [List.drop_length] at hw
    have e3 : after A ((steps A B).take (steps A B).length) = B := steps_nil hw.1.1.1 hB.1.1 hw.2
    rw [e3] at this
    simp only [List.take_zero, List.drop_zero] at this
    rw [e] at h
    have e2 : wayFrom A B (steps A B) 0 = ((steps A B).length : Int) := this
    omega
/-- a step that was done leaves at most one step back -/
theorem undone {A : List Int} (hA : good A) {o : Int × Int × Int} (hg : good (putO A o)) :
    (steps (putO A o) A = [] ∧ putO A o = A) ∨ ∃ q, steps (putO A o) A = [q] ∧ putO (putO A o) q = A := by
  cases h : steps (putO A o) A with
  | nil => exact .inl ⟨rfl, steps_nil hg.1.1 hA.1.1 h⟩
  | cons q r =>
    obtain ⟨n, _, _, hq, hne, hg2, _⟩ := step_first hg hA h
    have e1 : q.2.1.toNat = n := by rw [hq]; simp
    have e2 : q.2.2 = A.getD n 0 := by rw [hq]
    have hl : A.length = 21 := hA.1.1
    have hl2 : (putO A o).length = 21 := hg.1.1
    have en : o.2.1.toNat = n := by
      rcases Decidable.em (o.2.1.toNat = n) with e | e
      · exact e
      · exfalso
        apply hne
        unfold putO
        rw [List.getD_eq_getElem?_getD, List.getElem?_set_ne e, ← List.getD_eq_getElem?_getD]
    have hb : putO (putO A o) q = A := by
      refine list_ext21 hg2.1.1 hl fun k hk => ?_
      rw [putO_get _ q k (by omega)]
      split
      · rename_i e; rw [e2, ← e1, e]
      · rw [putO_get A o k (by omega), if_neg (by omega)]
    have := steps_cons hg.1.1 h
    rw [hb, steps_self] at this
    exact .inr ⟨q, by rw [this], hb⟩
end Dk
end Go.Proofs.YtpenkhehceglfaaGreatDoor
/- Plain functions on agents: how they are made, checked, what is left, what a record makes of them; who goes comes there. Nothing of the program is named here. -/
namespace Go.Proofs.YtpenkhehceglfaaGreatDoor
namespace Ag
open Lk Dk
/-- an agent -/
structure Agent where
  lock : List (Int × Int)
  at' : Int
  tr : Int
  going : Bool
  gid : Int
  glock : List (Int × Int)
  good : Bool
def Agent.none : Agent := ⟨[], 0, 0, false, 0, [], false⟩
def chkAgent (a : Agent) : Int :=
  if chk a.lock = 0 then
    (if (within a.at' 1 6 && within a.tr 0 200) = true then
      (if a.going = true then (if (a.good || decide (a.tr < 1)) = true then 4 else chkRel a.gid a.glock)
       else (if (a.gid == 0 && decide (a.glock = [])) = true then 0 else 4))
     else 3)
  else chk a.lock
def fresh (id : Int) (l : List (Int × Int)) : Agent := ⟨l, id, 0, false, 0, [], true⟩
def newA (id : Int) (l : List (Int × Int)) : Agent × Int := if chkRel id l = 0 then (fresh id l, 0) else (Agent.none, chkRel id l)
def stepsA (a : Agent) : List (Int × Int × Int) := steps (tb a.lock) (tb a.glock)
def leftA (a : Agent) : List (Int × Int × Int) × Int := if chkAgent a = 0 then (if a.going = true then stepsA a else [], 0) else ([], chkAgent a)
/-- what a step or a being there makes of who goes by this very try -/
def goesA (a : Agent) (r : Note) : Agent × Int :=
  match stepsA a with
  | o :: _ => if r.kind = 2 then ({ a with lock := applied a.lock o }, 0) else (Agent.none, 7)
  | [] => if r.kind = 3 then (⟨a.lock, a.gid, a.tr, false, 0, [], r.good⟩, 0) else (Agent.none, 7)
def nextA (a : Agent) (r : Note) : Agent × Int :=
  if chkAgent a = 0 then
    (if chkNote r = 0 then
      (if r.kind = 1 then (if r.tr ≤ a.tr then (Agent.none, 7) else (⟨a.lock, a.at', r.tr, true, r.id, r.lock, false⟩, 0))
       else if 3 < r.kind then (Agent.none, 4)
       else if a.going = true ∧ a.tr = r.tr then goesA a r else (Agent.none, 7))
     else (Agent.none, chkNote r))
  else (Agent.none, chkAgent a)
def replayFrom (a : Agent) : List Note → Agent × Int
  | [] => (a, 0)
  | r :: t => if (nextA a r).2 = 0 then replayFrom (nextA a r).1 t else (Agent.none, (nextA a r).2)
def replayA (id : Int) (l : List (Int × Int)) (rs : List Note) : Agent × Int :=
  if chkRel id l = 0 then (if 200 < rs.length then (Agent.none, 2) else replayFrom (fresh id l) rs) else (Agent.none, chkRel id l)
def sameAgent (a b : Agent) : Bool := same a.lock b.lock && a.at' == b.at' && a.tr == b.tr && a.going == b.going && alike a.gid a.glock b.gid b.glock && a.good == b.good
theorem sameAgent_iff (a b : Agent) : sameAgent a b = true ↔ a = b := by
  obtain ⟨a1, a2, a3, a4, a5, a6, a7⟩ := a
  obtain ⟨b1, b2, b3, b4, b5, b6, b7⟩ := b
  simp [sameAgent, alike, same, and_assoc]
theorem sameAgent_self (a : Agent) : sameAgent a a = true := (sameAgent_iff a a).2 rfl

/-! ### what an agent that is one has -/
theorem chk_parts {a : Agent} (h : chkAgent a = 0) : chk a.lock = 0 ∧ (1 ≤ a.at' ∧ a.at' ≤ 6) ∧ (0 ≤ a.tr ∧ a.tr ≤ 200) ∧ (a.going = true → a.good = false ∧ 1 ≤ a.tr ∧ chkRel a.gid a.glock = 0) ∧ (a.going = false → a.gid = 0 ∧ a.glock = []) := by
  unfold chkAgent at h
  by_cases h1 : chk a.lock = 0
  · rw [if_pos h1] at h
    by_cases h2 : (within a.at' 1 6 && within a.tr 0 200) = true
    · rw [if_pos h2] at h
      simp only [within, Bool.and_eq_true, decide_eq_true_eq] at h2
      refine ⟨h1, h2.1, h2.2, fun hg => ?_, fun hg => ?_⟩
      · rw [if_pos hg] at h
        by_cases h3 : (a.good || decide (a.tr < 1)) = true
        · rw [if_pos h3] at h; exact absurd h (by decide)
        · rw [if_neg h3] at h
          simp only [Bool.or_eq_true, decide_eq_true_eq, not_or] at h3
          exact ⟨by simpa using h3.1, by omega, h⟩
      · rw [if_neg (by rw [hg]; decide)] at h
        by_cases h3 : (a.gid == 0 && decide (a.glock = [])) = true
        · simp only [Bool.and_eq_true, beq_iff_eq, decide_eq_true_eq] at h3; exact h3
        · rw [if_neg h3] at h; exact absurd h (by decide)
    · rw [if_neg h2] at h; exact absurd h (by decide)
  · rw [if_neg h1] at h; exact absurd h h1
theorem chk_of {a : Agent} (h1 : chk a.lock = 0) (h2 : 1 ≤ a.at' ∧ a.at' ≤ 6) (h3 : 0 ≤ a.tr ∧ a.tr ≤ 200) (h4 : a.going = true → a.good = false ∧ 1 ≤ a.tr ∧ chkRel a.gid a.glock = 0) (h5 : a.going = false → a.gid = 0 ∧ a.glock = []) : chkAgent a = 0 := by
  unfold chkAgent
  rw [if_pos h1, if_pos (by simp [within, h2, h3])]
  by_cases hg : a.going = true
  · obtain ⟨g1, g2, g3⟩ := h4 hg
    rw [if_pos hg, if_neg (by simp [g1]; omega)]
    exact g3
  · obtain ⟨g1, g2⟩ := h5 (by simpa using hg)
    rw [if_neg hg, if_pos (by simp [g1, g2])]
theorem rel_parts {id : Int} {l : List (Int × Int)} (h : chkRel id l = 0) : (1 ≤ id ∧ id ≤ 6) ∧ chk l = 0 := by
  unfold chkRel at h
  by_cases h1 : within id 1 6 = true
  · rw [if_pos h1] at h
    simp only [within, Bool.and_eq_true, decide_eq_true_eq] at h1
    exact ⟨h1, h⟩
  · rw [if_neg h1] at h; exact absurd h (by decide)
theorem fresh_chk {id : Int} {l : List (Int × Int)} (h : chkRel id l = 0) : chkAgent (fresh id l) = 0 := by
  obtain ⟨h1, h2⟩ := rel_parts h
  exact chk_of h2 h1 ⟨by simp [fresh], by simp [fresh]⟩ (fun hg => by cases hg) (fun _ => ⟨rfl, rfl⟩)

/-! ### who goes comes there -/
def beginR (t id : Int) (l : List (Int × Int)) : Note := ⟨1, 0, t, 0, false, id, l⟩
def stepR (t : Int) : Note := ⟨2, 0, t, 0, false, 0, []⟩
def doneR (t : Int) (g : Bool) : Note := ⟨3, 0, t, 0, g, 0, []⟩
theorem begin_chk {t id : Int} {l : List (Int × Int)} (ht : 1 ≤ t ∧ t ≤ 200) (h : chkRel id l = 0) : chkNote (beginR t id l) = 0 := by
  unfold chkNote beginR
  simp [within, unused, outside, uA, uT, uN, uG, uR, ht, h]
theorem step_chk {t : Int} (ht : 1 ≤ t ∧ t ≤ 200) : chkNote (stepR t) = 0 := by
  unfold chkNote stepR
  simp [within, unused, outside, uA, uT, uN, uG, uR, ht]
theorem done_chk {t : Int} {g : Bool} (ht : 1 ≤ t ∧ t ≤ 200) : chkNote (doneR t g) = 0 := by
  unfold chkNote doneR
  simp [within, unused, outside, uA, uT, uN, uG, uR, ht]
theorem next_begin {a : Agent} {t id : Int} {l : List (Int × Int)} (ha : chkAgent a = 0) (ht : 1 ≤ t ∧ t ≤ 200) (h : chkRel id l = 0) (hl : a.tr < t) : nextA a (beginR t id l) = (⟨a.lock, a.at', t, true, id, l, false⟩, 0) := by
  unfold nextA
  rw [if_pos ha, if_pos (begin_chk ht h), if_pos (show (beginR t id l).kind = 1 from rfl), if_neg (show ¬ (beginR t id l).tr ≤ a.tr from by show ¬ t ≤ a.tr; omega)]
  rfl
/-- an elder try turns nobody -/
theorem next_elder {a : Agent} {t id : Int} {l : List (Int × Int)} (ha : chkAgent a = 0) (hl : t ≤ a.tr) : ¬ (nextA a (beginR t id l)).2 = 0 := by
  unfold nextA
  rw [if_pos ha]
  by_cases hc : chkNote (beginR t id l) = 0
  · rw [if_pos hc, if_pos (show (beginR t id l).kind = 1 from rfl), if_pos (show (beginR t id l).tr ≤ a.tr from hl)]; decide
  · rw [if_neg hc]; exact hc
theorem next_step {a : Agent} {t : Int} (ha : chkAgent a = 0) (hg : a.going = true) (ht : a.tr = t) {o : Int × Int × Int} {r : List (Int × Int × Int)} (hs : stepsA a = o :: r) : nextA a (stepR t) = ({ a with lock := applied a.lock o }, 0) := by
  have h := (chk_parts ha)
  have hb := (h.2.2.2.1 hg).2.1
  unfold nextA goesA
  rw [if_pos ha, if_pos (step_chk (by omega)), if_neg (show ¬ (stepR t).kind = 1 from by simp [stepR]), if_neg (show ¬ 3 < (stepR t).kind from by simp [stepR]), if_pos (show a.going = true ∧ a.tr = (stepR t).tr from ⟨hg, ht⟩), hs]
  rfl
theorem next_step_no {a : Agent} {t : Int} (ha : chkAgent a = 0) (hg : a.going = true) (ht : a.tr = t) (hs : stepsA a = []) : nextA a (stepR t) = (Agent.none, 7) := by
  have h := (chk_parts ha)
  have hb := (h.2.2.2.1 hg).2.1
  unfold nextA goesA
  rw [if_pos ha, if_pos (step_chk (by omega)), if_neg (show ¬ (stepR t).kind = 1 from by simp [stepR]), if_neg (show ¬ 3 < (stepR t).kind from by simp [stepR]), if_pos (show a.going = true ∧ a.tr = (stepR t).tr from ⟨hg, ht⟩), hs]
  rfl
theorem next_done {a : Agent} {t : Int} {g : Bool} (ha : chkAgent a = 0) (hg : a.going = true) (ht : a.tr = t) (hs : stepsA a = []) : nextA a (doneR t g) = (⟨a.lock, a.gid, a.tr, false, 0, [], g⟩, 0) := by
  have h := (chk_parts ha)
  have hb := (h.2.2.2.1 hg).2.1
  unfold nextA goesA
  rw [if_pos ha, if_pos (done_chk (by omega)), if_neg (show ¬ (doneR t g).kind = 1 from by simp [doneR]), if_neg (show ¬ 3 < (doneR t g).kind from by simp [doneR]), if_pos (show a.going = true ∧ a.tr = (doneR t g).tr from ⟨hg, ht⟩), hs]
  rfl
theorem next_done_no {a : Agent} {t : Int} {g : Bool} (ha : chkAgent a = 0) (hg : a.going = true) (ht : a.tr = t) {o : Int × Int × Int} {r : List (Int × Int × Int)} (hs : stepsA a = o :: r) : nextA a (doneR t g) = (Agent.none, 7) := by
  have h := (chk_parts ha)
  have hb := (h.2.2.2.1 hg).2.1
  unfold nextA goesA
  rw [if_pos ha, if_pos (done_chk (by omega)), if_neg (show ¬ (doneR t g).kind = 1 from by simp [doneR]), if_neg (show ¬ 3 < (doneR t g).kind from by simp [doneR]), if_pos (show a.going = true ∧ a.tr = (doneR t g).tr from ⟨hg, ht⟩), hs]
  rfl
/-- a step nearer: one step less is left -/
theorem step_nearer {a : Agent} (ha : chkAgent a = 0) (hg : a.going = true) {o : Int × Int × Int} {r : List (Int × Int × Int)} (hs : stepsA a = o :: r) : chkAgent { a with lock := applied a.lock o } = 0 ∧ stepsA { a with lock := applied a.lock o } = r ∧ applyErr a.lock o = 0 := by
  obtain ⟨h1, h2, h3, h4, h5⟩ := chk_parts ha
  obtain ⟨g1, g2, g3⟩ := h4 hg
  obtain ⟨i1, i2⟩ := rel_parts g3
  have gA := good_tb h1
  have gB := good_tb i2
  have hap := apply_step gA gB hs
  rw [pins_tb h1] at hap
  obtain ⟨e1, e2, e3⟩ := hap
  refine ⟨chk_of ?_ h2 h3 h4 h5, ?_, e1⟩
  · show chk (applied a.lock o) = 0
    rw [e2]; exact good_chk e3
  · show steps (tb (applied a.lock o)) (tb a.glock) = r
    rw [e2, tb_pinsOf e3.1.1]
    exact steps_cons gA.1.1 hs
/-- nothing is left: the lock is the goal's -/
theorem there {a : Agent} (ha : chkAgent a = 0) (hg : a.going = true) (hs : stepsA a = []) : a.lock = a.glock ∧ ∀ g, chkAgent ⟨a.lock, a.gid, a.tr, false, 0, [], g⟩ = 0 := by
  obtain ⟨h1, h2, h3, h4, h5⟩ := chk_parts ha
  obtain ⟨g1, g2, g3⟩ := h4 hg
  obtain ⟨i1, i2⟩ := rel_parts g3
  have e := steps_nil (good_tb h1).1.1 (good_tb i2).1.1 hs
  refine ⟨?_, fun g => chk_of h1 i1 h3 (fun h => by cases h) (fun _ => ⟨rfl, rfl⟩)⟩
  rw [← pins_tb h1, e, pins_tb i2]
/-- a record makes an agent of an agent -/
theorem next_chk {a : Agent} {r : Note} (h : (nextA a r).2 = 0) : chkAgent a = 0 ∧ chkNote r = 0 ∧ chkAgent (nextA a r).1 = 0 := by
  unfold nextA at h ⊢
  by_cases ha : chkAgent a = 0
  · rw [if_pos ha] at h ⊢
    obtain ⟨h1, h2, h3, h4, h5⟩ := chk_parts ha
    by_cases hr : chkNote r = 0
    · rw [if_pos hr] at h ⊢
      refine ⟨ha, hr, ?_⟩
      by_cases k1 : r.kind = 1
      · rw [if_pos k1] at h ⊢
        by_cases ht : r.tr ≤ a.tr
        · rw [if_pos ht] at h; exact absurd h (by decide)
        · rw [if_neg ht]
          have hn := hr
          unfold chkNote at hn
          have hrel : chkRel r.id r.lock = 0 ∧ r.tr ≤ 200 := by
            by_cases c1 : (!within r.kind 1 9 || unused r) = true
            · rw [if_pos c1] at hn; exact absurd hn (by decide)
            · rw [if_neg c1] at hn
              by_cases c2 : outside r = true
              · rw [if_pos c2] at hn; exact absurd hn (by decide)
              · rw [if_neg c2, if_pos (by simp [uR, k1])] at hn
                simp only [outside, Bool.or_eq_true, not_or, uT, k1] at c2
                have := c2.1.2
                simp [within] at this
                exact ⟨hn, by omega⟩
          exact chk_of h1 h2 ⟨by show 0 ≤ r.tr; omega, hrel.2⟩ (fun _ => ⟨rfl, by show 1 ≤ r.tr; omega, hrel.1⟩) (fun hf => by cases hf)
      · rw [if_neg k1] at h ⊢
        by_cases k3 : 3 < r.kind
        · rw [if_pos k3] at h; exact absurd h (by decide)
        · rw [if_neg k3] at h ⊢
          by_cases hg : a.going = true ∧ a.tr = r.tr
          · rw [if_pos hg] at h ⊢
            unfold goesA at h ⊢
            cases hs : stepsA a with
            | nil =>
              rw [hs] at h
              simp only at h ⊢
              by_cases k : r.kind = 3
              · rw [if_pos k]; exact (there ha hg.1 hs).2 _
              · rw [if_neg k] at h; exact absurd h (by decide)
            | cons o t =>
              rw [hs] at h
              simp only at h ⊢
              by_cases k : r.kind = 2
              · rw [if_pos k]; exact (step_nearer ha hg.1 hs).1
              · rw [if_neg k] at h; exact absurd h (by decide)
          · rw [if_neg hg] at h; exact absurd h (by decide)
    · rw [if_neg hr] at h; exact absurd h hr
  · rw [if_neg ha] at h; exact absurd h ha
/-- in two parts -/
theorem replay_app (l m : List Note) : ∀ a : Agent, (replayFrom a (l ++ m)).2 = 0 → (replayFrom a l).2 = 0 ∧ replayFrom (replayFrom a l).1 m = replayFrom a (l ++ m) := by
  induction l with
  | nil => intro a h; exact ⟨rfl, rfl⟩
  | cons r t ih =>
    intro a h
    rw [List.cons_append, replayFrom] at h
    by_cases hr : (nextA a r).2 = 0
    · rw [if_pos hr] at h
      obtain ⟨h1, h2⟩ := ih (nextA a r).1 h
      rw [List.cons_append, replayFrom, if_pos hr, replayFrom, if_pos hr]
      exact ⟨h1, h2⟩
    · rw [if_neg hr] at h; exact absurd h hr
end Ag
end Go.Proofs.YtpenkhehceglfaaGreatDoor
/- Plain facts on records: what is written is read as it was, what is read is written as it was; unlike records have unlike texts. -/
namespace Go.Proofs.YtpenkhehceglfaaGreatDoor
namespace Lk
theorem split_words (ws : List (List UInt8)) (r : List UInt8) (h : ∀ w ∈ ws, 32 ∉ w) : splitC ((ws.map fun w => w ++ [32]).flatten ++ r) = ws ++ splitC r := by
  induction ws with
  | nil => rfl
  | cons w t ih =>
    have e : ((w :: t).map fun w => w ++ [32]).flatten ++ r = w ++ 32 :: ((t.map fun w => w ++ [32]).flatten ++ r) := by simp
    rw [e, splitC_app w _ (h w (by simp)), ih (fun x hx => h x (by simp [hx]))]
    rfl
theorem rdTo_words (ws : List (List UInt8)) (r : List UInt8) (ns : List Int) (h : ∀ w ∈ ws, 32 ∉ w) (hn : numsOf ws = some ns) : rdTo ws.length ((ws.map fun w => w ++ [32]).flatten ++ r) = some (ns, r) := by
  have hs := split_words ws r h
  cases e : rdTo ws.length ((ws.map fun w => w ++ [32]).flatten ++ r) with
  | none =>
    rcases rdTo_nope e with h1 | h1
    · have : (splitC r).length ≠ 0 := fun e => splitC_ne r (List.length_eq_zero_iff.1 e)
      rw [hs, List.length_append] at h1; omega
    · rw [hs, List.take_left, hn] at h1; cases h1
  | some q =>
    obtain ⟨ms, t⟩ := q
    obtain ⟨ws', w1, w2, w3, w4⟩ := rdTo_some e
    rw [hs] at w2
    have e1 : ws = ws' := by
      have := congrArg (List.take ws.length) w2
      rwa [List.take_left, List.take_left' w1] at this
    subst e1
    rw [hn] at w3
    cases w3
    rw [List.append_cancel_left w4]
/-- the digits of a number below 1000 -/
def ddd (n : Nat) : List UInt8 := if n < 100 then dd n else dd (n / 10) ++ [UInt8.ofNat (48 + n % 10)]
theorem ddd_eq {n : Nat} (h : n < 1000) : Lib.decDigits n = ddd n := by
  unfold ddd
  by_cases h1 : n < 100
  · rw [if_pos h1, dd_eq h1]
  · rw [if_neg h1, Lib.decDigits, dif_neg (by omega), dd_eq (by omega)]
theorem ddd_all : ∀ n : Fin 256, Lib.atoiAll (ddd n.1) = .ok (n.1 : Int) := by decide +kernel
theorem num_itoa (v : Int) (h0 : 0 ≤ v) (h1 : v ≤ 200) : numOf (Lib.itoa v) = some v := by
  obtain ⟨n, rfl⟩ := Int.eq_ofNat_of_zero_le h0
  rw [Lib.itoa_nonneg]
  exact numOf_ok (by rw [ddd_eq (by omega)]; exact ddd_all ⟨n, by omega⟩) (Lib.itoa_nonneg n)
theorem numsOf_itoa (ns : List Int) (h : ∀ v ∈ ns, 0 ≤ v ∧ v ≤ 200) : numsOf (ns.map Lib.itoa) = some ns := by
  induction ns with
  | nil => rfl
  | cons v t ih =>
    obtain ⟨h1, h2⟩ := h v (by simp)
    rw [List.map_cons, numsOf, num_itoa v h1 h2, ih (fun x hx => h x (by simp [hx]))]
/-- what a record that is one has -/
theorem note_ok {r : Note} (h : chkNote r = 0) : (∀ v ∈ r.nums, 0 ≤ v ∧ v ≤ 200) ∧ chk r.lock = 0 := by
  obtain ⟨k, a, t, n, g, i, l⟩ := r
  unfold chkNote at h
  split at h
  · cases h
  rename_i h1
  split at h
  · cases h
  rename_i h2
  simp only [Bool.or_eq_true, not_or, Bool.not_eq_true] at h1 h2
  obtain ⟨hk, hu⟩ := h1
  simp only [Bool.not_eq_false'] at hk
  simp only [within, Bool.and_eq_true, decide_eq_true_eq] at hk
  simp only [unused, outside, Bool.or_eq_false_iff, Bool.and_eq_false_iff, Bool.not_eq_false', bne_eq_false_iff_eq, within, Bool.and_eq_true, decide_eq_true_eq, decide_eq_false_iff_not] at hu h2
  obtain ⟨⟨⟨⟨hA, hT⟩, hN⟩, hG⟩, hR⟩ := hu
  obtain ⟨⟨hA2, hT2⟩, hN2⟩ := h2
  have hgn : goodNum g = 0 ∨ goodNum g = 1 := by cases g <;> simp [goodNum]
  have hid : (0 ≤ i ∧ i ≤ 6) ∧ chk l = 0 := by
    by_cases hr : uR k = true
    · simp only at h
      rw [if_pos hr] at h
      unfold chkRel at h
      split at h
      · rename_i hw
        simp only [within, Bool.and_eq_true, decide_eq_true_eq] at hw
        exact ⟨by omega, h⟩
      · cases h
    · rcases hR with hR | hR
      · have : l = [] := List.length_eq_zero_iff.1 (by omega)
        rw [this]
        exact ⟨by omega, by decide⟩
      · exact absurd hR hr
  refine ⟨?_, hid.2⟩
  intro v hv
  simp only [Note.nums, List.mem_cons, List.not_mem_nil, or_false] at hv
  rcases hv with rfl | rfl | rfl | rfl | rfl | rfl
  · omega
  · omega
  · rcases hT with hT | hT
    · omega
    · rcases hT2 with hT2 | hT2
      · rw [hT] at hT2; cases hT2
      · omega
  · rcases hN with hN | hN
    · omega
    · rcases hN2 with hN2 | hN2
      · rw [hN] at hN2; cases hN2
      · omega
  · omega
  · omega
theorem noteOf_nums (r : Note) : noteOf r.nums r.lock = r := by
  obtain ⟨k, a, t, n, g, i, l⟩ := r
  cases g <;> rfl
theorem chk_okP {l : List (Int × Int)} (h : chk l = 0) : ∀ p ∈ l, okP p := by
  unfold chk at h
  split at h
  · cases h
  · have key : ∀ (l : List (Int × Int)) (last : Int), chkFrom last l = 0 → ∀ p ∈ l, okP p := by
      intro l
      induction l with
      | nil => intro _ _ p hp; cases hp
      | cons q r ih =>
        intro last h p hp
        unfold chkFrom at h
        split at h
        · rename_i hq
          split at h
          · cases h
          · rcases List.mem_cons.1 hp with rfl | hp
            · simpa [okPin, okP, and_assoc] using hq
            · exact ih _ h p hp
        · cases h
    exact key l 0 h
theorem readAs_text {l : List (Int × Int)} (h : chk l = 0) : readAs ⟨(text l).toArray⟩ = (l, 0) := by
  unfold readAs
  rw [pins_text l (chk_okP h)]
  simp only
  rw [if_pos h]
theorem note_text (r : Note) : noteText r = ((r.nums.map Lib.itoa).map fun w => w ++ [32]).flatten ++ 61 :: text r.lock := by
  unfold noteText; rw [List.map_map]; rfl
theorem note_back {r : Note} (h : chkNote r = 0) : readNote (noteText r) = (r, 0) := by
  obtain ⟨hn, hl⟩ := note_ok h
  have hw : ∀ w ∈ r.nums.map Lib.itoa, 32 ∉ w := by
    intro w hw
    obtain ⟨v, _, rfl⟩ := List.mem_map.1 hw
    exact itoa_not (by decide) (by decide) v
  have hr := rdTo_words (r.nums.map Lib.itoa) (61 :: text r.lock) r.nums hw (numsOf_itoa _ hn)
  rw [← note_text] at hr
  have h6 : (r.nums.map Lib.itoa).length = 6 := rfl
  rw [h6] at hr
  unfold readNote
  rw [hr]
  simp only
  have hg : within (r.nums.getD 4 0) 0 1 = true := by
    show within (goodNum r.good) 0 1 = true
    cases r.good <;> rfl
  rw [if_pos ⟨trivial, hg⟩]
  unfold fin
  rw [readAs_text hl]
  simp only [if_true]
  rw [noteOf_nums, if_pos h]
theorem note_unlike {r q : Note} (h : chkNote r = 0) (h' : chkNote q = 0) : noteText r = noteText q ↔ r = q := by
  constructor
  · intro e
    have h1 := note_back h
    rw [e, note_back h'] at h1
    exact (Prod.mk.inj h1).1.symm
  · rintro rfl; rfl
theorem nums_of (ns : List Int) (l : List (Int × Int)) (h6 : ns.length = 6) (hg : within (ns.getD 4 0) 0 1 = true) : (noteOf ns l).nums = ns := by
  match ns, h6 with
  | [a, b, c, d, e, f], _ =>
    have he : 0 ≤ e ∧ e ≤ 1 := by simpa [within] using hg
    have : e = 0 ∨ e = 1 := by omega
    rcases this with rfl | rfl <;> rfl
theorem numsOf_words (ws : List (List UInt8)) (ns : List Int) (h : numsOf ws = some ns) : ws = ns.map Lib.itoa := by
  induction ws generalizing ns with
  | nil => simp only [numsOf, Option.some.injEq] at h; subst h; rfl
  | cons x r ih =>
    simp only [numsOf] at h
    cases e : numOf x with
    | none => rw [e] at h; simp at h
    | some q =>
      cases e' : numsOf r with
      | none => rw [e, e'] at h; simp at h
      | some m =>
        rw [e, e'] at h
        simp only [Option.some.injEq] at h
        subst h
        rw [List.map_cons, ← ih m e', numOf_itoa e]
theorem readAs_back {t : List UInt8} (h : (readAs ⟨t.toArray⟩).2 = 0) : text (readAs ⟨t.toArray⟩).1 = t := by
  unfold readAs at h ⊢
  cases e : pins ⟨t.toArray⟩ with
  | none => rw [e] at h; cases h
  | some l =>
    rw [e] at h
    simp only at h ⊢
    by_cases hc : chk l = 0
    · rw [if_pos hc]
      have := text_back _ l e (chk_okP hc)
      simpa using this
    · rw [if_neg hc] at h
      exact absurd h hc
theorem fin_back {ns : List Int} {t : List UInt8} (h : (fin ns t).2 = 0) : ∃ l, fin ns t = (noteOf ns l, 0) ∧ chkNote (noteOf ns l) = 0 ∧ text l = t := by
  unfold fin at h ⊢
  by_cases h1 : (readAs ⟨t.toArray⟩).2 = 0
  · rw [if_pos h1] at h ⊢
    by_cases h2 : chkNote (noteOf ns (readAs ⟨t.toArray⟩).1) = 0
    · rw [if_pos h2]
      exact ⟨_, rfl, h2, readAs_back h1⟩
    · rw [if_neg h2] at h; exact absurd h h2
  · rw [if_neg h1] at h; exact absurd h h1
/-- what is read is a record, and is written as it was -/
theorem read_back {s : List UInt8} (h : (readNote s).2 = 0) : chkNote (readNote s).1 = 0 ∧ noteText (readNote s).1 = s := by
  unfold readNote at h ⊢
  cases e : rdTo 6 s with
  | none => rw [e] at h; cases h
  | some q =>
    obtain ⟨ns, r⟩ := q
    rw [e] at h
    simp only at h ⊢
    cases r with
    | nil => cases h
    | cons c t =>
      simp only at h ⊢
      split at h
      · rename_i hc
        rw [if_pos hc]
        obtain ⟨l, e1, e2, e3⟩ := fin_back h
        rw [e1]
        refine ⟨e2, ?_⟩
        obtain ⟨ws, w1, w2, w3, w4⟩ := rdTo_some e
        rw [note_text, nums_of ns l (rdTo_len e) hc.2, ← numsOf_words ws ns w3]
        show _ ++ 61 :: text l = s
        rw [e3, w4, hc.1]
      · cases h
theorem read_none {s : List UInt8} (h : ¬ (readNote s).2 = 0) : (readNote s).1 = Note.none := by
  unfold readNote at h ⊢
  cases e : rdTo 6 s with
  | none => rfl
  | some q =>
    obtain ⟨ns, r⟩ := q
    rw [e] at h
    simp only at h ⊢
    cases r with
    | nil => rfl
    | cons c t =>
      simp only at h ⊢
      split
      · rename_i hc
        rw [if_pos hc] at h
        unfold fin at h ⊢
        by_cases h1 : (readAs ⟨t.toArray⟩).2 = 0
        · rw [if_pos h1] at h ⊢
          by_cases h2 : chkNote (noteOf ns (readAs ⟨t.toArray⟩).1) = 0
          · rw [if_pos h2] at h; exact absurd rfl h
          · rw [if_neg h2]
        · rw [if_neg h1]
      · rfl
end Lk
end Go.Proofs.YtpenkhehceglfaaGreatDoor
/- Plain functions on disks: lines of records, what a disk says, puts, syncs, recovers; what is kept. Nothing of the program is named here. -/
namespace Go.Proofs.YtpenkhehceglfaaGreatDoor
namespace Lk
/-- pieces between line feeds; the last one is what is behind the last one -/
def splitN : List UInt8 → List (List UInt8)
  | [] => [[]]
  | c :: r => if c = 10 then [] :: splitN r else match splitN r with
    | [] => [[c]]
    | a :: t => (c :: a) :: t
theorem splitN_ne (l : List UInt8) : splitN l ≠ [] := by
  cases l with
  | nil => simp [splitN]
  | cons c r =>
    unfold splitN
    split
    · simp
    · split <;> simp
theorem splitN_not (a : List UInt8) (h : 10 ∉ a) : splitN a = [a] := by
  induction a with
  | nil => rfl
  | cons x t ih =>
    unfold splitN
    rw [if_neg (fun e => h (by simp [e])), ih (fun e => h (by simp [e]))]
theorem splitN_app (a r : List UInt8) (h : 10 ∉ a) : splitN (a ++ 10 :: r) = a :: splitN r := by
  induction a with
  | nil => simp [splitN]
  | cons x t ih =>
    rw [List.cons_append, splitN, if_neg (fun e => h (by simp [e])), ih (fun e => h (by simp [e]))]
theorem lf_cases (l : List UInt8) : 10 ∉ l ∨ ∃ a r, l = a ++ 10 :: r ∧ 10 ∉ a := by
  induction l with
  | nil => exact .inl (by simp)
  | cons c t ih =>
    by_cases hc : c = 10
    · exact .inr ⟨[], t, by simp [hc], by simp⟩
    · rcases ih with ih | ⟨a, r, e, h⟩
      · exact .inl (by simp [ih, Ne.symm hc])
      · exact .inr ⟨c :: a, r, by simp [e], by simp [h, Ne.symm hc]⟩
/-- records as far as they are whole; how many bytes these have; what is wrong with the next one -/
def walkL (most : Nat) (acc : List Note) (n : Nat) : List (List UInt8) → List Note × Nat × Int
  | [] => (acc, n, 0)
  | [t] => if t = [] then (acc, n, 0) else (acc, n, 9)
  | t :: u :: r => if (readNote t).2 = 0 then (if most ≤ acc.length then (acc, n, 2) else walkL most (acc ++ [(readNote t).1]) (n + t.length + 1) (u :: r)) else (acc, n, (readNote t).2)
def linesOf (s : List UInt8) (most : Nat) : List Note × Nat × Int := walkL most [] 0 (splitN s)
structure Disk where
  safe : List UInt8
  wait : List UInt8
def Disk.none : Disk := ⟨[], []⟩
def tooMany (d : Disk) : Bool := decide (60000 < d.safe.length) || decide (60000 - d.safe.length < d.wait.length)
def chkDisk (d : Disk) : Int := if tooMany d = true then 2 else (linesOf d.safe 200).2.2
def recov (d : Disk) : Disk × List Note :=
  (⟨d.safe ++ d.wait.take (linesOf d.wait (200 - (linesOf d.safe 200).1.length)).2.1, []⟩, (linesOf d.safe 200).1 ++ (linesOf d.wait (200 - (linesOf d.safe 200).1.length)).1)
def putOn (d : Disk) (r : Note) : Disk × Int :=
  if chkNote r = 0 then (if 60000 < d.safe.length + d.wait.length + (noteText r).length + 1 then (Disk.none, 2) else (⟨d.safe, d.wait ++ (noteText r ++ [10])⟩, 0))
  else (Disk.none, chkNote r)
def synced (d : Disk) : Disk × Int := if chkDisk ⟨d.safe ++ d.wait, []⟩ = 0 then (⟨d.safe ++ d.wait, []⟩, 0) else (Disk.none, chkDisk ⟨d.safe ++ d.wait, []⟩)
def sameDisk (a b : Disk) : Bool := decide (a.safe = b.safe) && decide (a.wait = b.wait)

/-! ### step by step: for the walks -/
theorem walk_step {most n : Nat} {acc : List Note} {t : List UInt8} {r : List (List UInt8)} (hr : r ≠ []) (h : (readNote t).2 = 0) (hm : acc.length < most) : walkL most acc n (t :: r) = walkL most (acc ++ [(readNote t).1]) (n + t.length + 1) r := by
  cases r with
  | nil => exact absurd rfl hr
  | cons u r => rw [walkL, if_pos h, if_neg (by omega)]
theorem walk_many {most n : Nat} {acc : List Note} {t : List UInt8} {r : List (List UInt8)} (hr : r ≠ []) (h : (readNote t).2 = 0) (hm : most ≤ acc.length) : walkL most acc n (t :: r) = (acc, n, 2) := by
  cases r with
  | nil => exact absurd rfl hr
  | cons u r => rw [walkL, if_pos h, if_pos hm]
theorem walk_bad {most n : Nat} {acc : List Note} {t : List UInt8} {r : List (List UInt8)} (hr : r ≠ []) (h : ¬ (readNote t).2 = 0) : walkL most acc n (t :: r) = (acc, n, (readNote t).2) := by
  cases r with
  | nil => exact absurd rfl hr
  | cons u r => rw [walkL, if_neg h]
theorem walk_end (most n : Nat) (acc : List Note) : walkL most acc n [[]] = (acc, n, 0) := by rw [walkL, if_pos rfl]
theorem walk_torn {most n : Nat} {acc : List Note} {t : List UInt8} (h : t ≠ []) : walkL most acc n [t] = (acc, n, 9) := by rw [walkL, if_neg h]
/-- from a place on: for a loop that eats its text -/
def linesFrom (most : Nat) (acc : List Note) (n : Nat) (s : List UInt8) : List Note × Nat × Int := walkL most acc n (splitN s)
theorem from_nil (most n : Nat) (acc : List Note) : linesFrom most acc n [] = (acc, n, 0) := walk_end most n acc
theorem from_torn {most n : Nat} {acc : List Note} {s : List UInt8} (h : s ≠ []) (hn : 10 ∉ s) : linesFrom most acc n s = (acc, n, 9) := by
  unfold linesFrom; rw [splitN_not s hn, walk_torn h]
theorem from_step {most n : Nat} {acc : List Note} {t s : List UInt8} (hn : 10 ∉ t) (h : (readNote t).2 = 0) (hm : acc.length < most) : linesFrom most acc n (t ++ 10 :: s) = linesFrom most (acc ++ [(readNote t).1]) (n + t.length + 1) s := by
  unfold linesFrom; rw [splitN_app t s hn, walk_step (splitN_ne s) h hm]
theorem from_many {most n : Nat} {acc : List Note} {t s : List UInt8} (hn : 10 ∉ t) (h : (readNote t).2 = 0) (hm : most ≤ acc.length) : linesFrom most acc n (t ++ 10 :: s) = (acc, n, 2) := by
  unfold linesFrom; rw [splitN_app t s hn, walk_many (splitN_ne s) h hm]
theorem from_bad {most n : Nat} {acc : List Note} {t s : List UInt8} (hn : 10 ∉ t) (h : ¬ (readNote t).2 = 0) : linesFrom most acc n (t ++ 10 :: s) = (acc, n, (readNote t).2) := by
  unfold linesFrom; rw [splitN_app t s hn, walk_bad (splitN_ne s) h]

/-! ### what the program does: Check first -/
theorem tooMany_iff (d : Disk) : tooMany d = decide (60000 < d.safe.length + d.wait.length) := by
  unfold tooMany
  by_cases h : 60000 < d.safe.length + d.wait.length
  · rw [decide_eq_true h, Bool.or_eq_true, decide_eq_true_eq, decide_eq_true_eq]; omega
  · rw [decide_eq_false h, Bool.or_eq_false_iff, decide_eq_false_iff_not, decide_eq_false_iff_not]; omega
def putP (d : Disk) (r : Note) : Disk × Int := if chkDisk d = 0 then putOn d r else (Disk.none, chkDisk d)
def syncP (d : Disk) : Disk × Int := if chkDisk d = 0 then synced d else (Disk.none, chkDisk d)
def crashP (d : Disk) (n : Int) : Disk × Int := if chkDisk d = 0 then (if 0 ≤ n ∧ n ≤ d.wait.length then (⟨d.safe, d.wait.take n.toNat⟩, 0) else (Disk.none, 3)) else (Disk.none, chkDisk d)
def recovP (d : Disk) : Disk × List Note × Int := if chkDisk d = 0 then ((recov d).1, (recov d).2, 0) else (Disk.none, [], chkDisk d)
/-- safeRecs: all records, or what is wrong -/
def safeP (d : Disk) : List Note × Int := if chkDisk d = 0 then ((linesOf d.safe 200).1, 0) else ([], chkDisk d)
theorem from_full {most n : Nat} {acc : List Note} (s : List UInt8) (h : most ≤ acc.length) : ∃ e, linesFrom most acc n s = (acc, n, e) := by
  rcases lf_cases s with hn | ⟨t, r, e, hn⟩
  · by_cases h0 : s = []
    · subst h0; exact ⟨_, from_nil _ _ _⟩
    · exact ⟨_, from_torn h0 hn⟩
  · subst e
    by_cases hr : (readNote t).2 = 0
    · exact ⟨_, from_many hn hr h⟩
    · exact ⟨_, from_bad hn hr⟩
theorem from_none {most n : Nat} {acc : List Note} {s : List UInt8} (hn : 10 ∉ s) : ∃ e, linesFrom most acc n s = (acc, n, e) := by
  by_cases h0 : s = []
  · subst h0; exact ⟨_, from_nil _ _ _⟩
  · exact ⟨_, from_torn h0 hn⟩
theorem from_grows (k : Nat) : ∀ (s : List UInt8), s.length ≤ k → ∀ (most n : Nat) (acc : List Note), n ≤ (linesFrom most acc n s).2.1 ∧ (linesFrom most acc n s).2.1 ≤ n + s.length ∧ acc.length ≤ (linesFrom most acc n s).1.length ∧ (acc.length ≤ most → (linesFrom most acc n s).1.length ≤ most) := by
  induction k with
  | zero =>
    intro s hs most n acc
    have : s = [] := List.length_eq_zero_iff.1 (by omega)
    subst this
    rw [from_nil]; simp
  | succ k ih =>
    intro s hs most n acc
    rcases lf_cases s with hn | ⟨t, r, e, hn⟩
    · obtain ⟨e, he⟩ := from_none (most := most) (n := n) (acc := acc) hn
      rw [he]; simp
    · subst e
      by_cases hr : (readNote t).2 = 0
      · by_cases hm : acc.length < most
        · rw [from_step hn hr hm]
          have := ih r (by simp at hs; omega) most (n + t.length + 1) (acc ++ [(readNote t).1])
          simp only [List.length_append, List.length_cons, List.length_nil] at this ⊢
          exact ⟨by omega, by omega, by omega, fun _ => this.2.2.2 (by omega)⟩
        · rw [from_many hn hr (by omega)]; simp
      · rw [from_bad hn hr]; simp
theorem lines_len (s : List UInt8) (most : Nat) : (linesOf s most).2.1 ≤ s.length ∧ (linesOf s most).1.length ≤ most := by
  have := from_grows s.length s (Nat.le_refl _) most 0 []
  exact ⟨by have h := this.2.1; rw [Nat.zero_add] at h; exact h, this.2.2.2 (Nat.zero_le _)⟩

/-! ### what is kept -/
def texts (l : List Note) : List UInt8 := (l.map fun r => noteText r ++ [10]).flatten
def allOk (l : List Note) : Prop := ∀ r ∈ l, chkNote r = 0
theorem texts_nil : texts [] = [] := rfl
theorem texts_cons (r : Note) (l : List Note) : texts (r :: l) = noteText r ++ 10 :: texts l := by simp [texts]
theorem texts_app (a b : List Note) : texts (a ++ b) = texts a ++ texts b := by simp [texts]
theorem itoa_no10 (n : Int) : 10 ∉ Lib.itoa n := itoa_not (by decide) (by decide) n
theorem dec_no10 (u : Nat) : 10 ∉ Lib.decDigits u := fun h => by
  have := dec_digits u 10 h
  simp at this
theorem pinText_no10 (p : Int × Int) : 10 ∉ pinText p := by
  unfold pinText
  intro h
  rcases List.mem_append.1 h with h | h
  · exact dec_no10 _ h
  · rcases List.mem_cons.1 h with h | h
    · exact absurd h (by decide)
    · exact dec_no10 _ h
theorem text_no10 (l : List (Int × Int)) : 10 ∉ text l := by
  unfold text Lib.join
  refine inter_mem 10 (by decide) _ (fun x hx => ?_)
  obtain ⟨p, _, rfl⟩ := List.mem_map.1 hx
  exact pinText_no10 p
theorem note_no10 (r : Note) : 10 ∉ noteText r := by
  unfold noteText
  intro h
  rcases List.mem_append.1 h with h | h
  · obtain ⟨x, hx, h10⟩ := List.mem_flatten.1 h
    obtain ⟨n, _, rfl⟩ := List.mem_map.1 hx
    rcases List.mem_append.1 h10 with h10 | h10
    · exact itoa_no10 n h10
    · simp at h10
  · rcases List.mem_cons.1 h with h | h
    · exact absurd h (by decide)
    · exact text_no10 _ h
/-- what was written is read, record by record -/
theorem from_texts (b : List Note) : ∀ (most : Nat) (acc : List Note) (n : Nat), allOk b → acc.length + b.length ≤ most → ∀ s, linesFrom most acc n (texts b ++ s) = linesFrom most (acc ++ b) (n + (texts b).length) s := by
  induction b with
  | nil => intro most acc n _ _ s; simp [texts]
  | cons r b ih =>
    intro most acc n hok hm s
    have hr : chkNote r = 0 := hok r (by simp)
    have hrd := note_back hr
    rw [texts_cons, List.append_assoc, List.cons_append, from_step (note_no10 r) (by rw [hrd]) (by simp at hm; omega), hrd, ih most (acc ++ [r]) _ (fun q hq => hok q (by simp [hq])) (by simp at hm ⊢; omega) s]
    simp only [List.append_assoc, List.cons_append, List.nil_append, List.length_append, List.length_cons]
    congr 1
    omega
/-- of a beginning of what was written whole records are read, and no more -/
theorem from_cut (b : List Note) : ∀ (most : Nat) (acc : List Note) (n k : Nat), allOk b → acc.length + b.length ≤ most → ∃ j e, j ≤ b.length ∧ (texts (b.take j)).length ≤ k ∧ linesFrom most acc n ((texts b).take k) = (acc ++ b.take j, n + (texts (b.take j)).length, e) := by
  induction b with
  | nil => intro most acc n k _ _; exact ⟨0, 0, by simp, by simp [texts], by simp [texts, from_nil]⟩
  | cons r b ih =>
    intro most acc n k hok hm
    have hr : chkNote r = 0 := hok r (by simp)
    have hrd := note_back hr
    by_cases hk : (noteText r).length + 1 ≤ k
    · obtain ⟨j, e, h1, h2, h3⟩ := ih most (acc ++ [r]) (n + (noteText r).length + 1) (k - ((noteText r).length + 1)) (fun q hq => hok q (by simp [hq])) (by simp at hm ⊢; omega)
      refine ⟨j + 1, e, by simp; omega, ?_, ?_⟩
      · rw [List.take_succ_cons, texts_cons]; simp; omega
      · have ht : (texts (r :: b)).take k = noteText r ++ 10 :: (texts b).take (k - ((noteText r).length + 1)) := by
          rw [texts_cons, List.take_append]
          rw [List.take_of_length_le (by omega), show k - (noteText r).length = (k - ((noteText r).length + 1)) + 1 from by omega, List.take_succ_cons]
        rw [ht, from_step (note_no10 r) (by rw [hrd]) (by simp at hm; omega), hrd, h3, List.take_succ_cons, texts_cons]
        simp only [List.append_assoc, List.cons_append, List.nil_append, List.length_append, List.length_cons]
        congr 2
        omega
    · have ht : (texts (r :: b)).take k = (noteText r).take k := by
        rw [texts_cons, List.take_append, show k - (noteText r).length = 0 from by omega, List.take_zero, List.append_nil]
      have hn : 10 ∉ (noteText r).take k := fun h => note_no10 r (List.mem_of_mem_take h)
      rw [ht]
      by_cases h0 : (noteText r).take k = []
      · exact ⟨0, 0, by simp, by simp [texts], by rw [h0, from_nil]; simp [texts]⟩
      · exact ⟨0, 9, by simp, by simp [texts], by rw [from_torn h0 hn]; simp [texts]⟩
theorem lines_texts {a : List Note} {most : Nat} (h : allOk a) (hm : a.length ≤ most) : linesOf (texts a) most = (a, (texts a).length, 0) := by
  have := from_texts a most [] 0 h (by simpa using hm) []
  rw [List.append_nil, from_nil] at this
  show linesFrom most [] 0 (texts a) = _
  rw [this]; simp
theorem lines_cut {b : List Note} {most : Nat} (k : Nat) (h : allOk b) (hm : b.length ≤ most) : ∃ j e, j ≤ b.length ∧ (texts (b.take j)).length ≤ k ∧ linesOf ((texts b).take k) most = (b.take j, (texts (b.take j)).length, e) := by
  obtain ⟨j, e, h1, h2, h3⟩ := from_cut b most [] 0 k h (by simpa using hm)
  exact ⟨j, e, h1, h2, by show linesFrom most [] 0 _ = _; rw [h3]; simp⟩
theorem take_texts (b : List Note) (j k : Nat) (h : (texts (b.take j)).length ≤ k) : ((texts b).take k).take (texts (b.take j)).length = texts (b.take j) := by
  have e : texts b = texts (b.take j) ++ texts (b.drop j) := by rw [← texts_app, List.take_append_drop]
  rw [List.take_take, Nat.min_eq_left h, e, List.take_left]
theorem allOk_take {b : List Note} (h : allOk b) (j : Nat) : allOk (b.take j) := fun r hr => h r (List.mem_of_mem_take hr)
theorem allOk_app {a b : List Note} (h : allOk a) (h' : allOk b) : allOk (a ++ b) := fun r hr => by
  rcases List.mem_append.1 hr with hr | hr
  · exact h r hr
  · exact h' r hr
/-- recovering: all that was synced is there, and of the rest a beginning; recovered again it is the same -/
theorem recov_keeps {a b : List Note} (ha : allOk a) (hb : allOk b) (hm : a.length + b.length ≤ 200) (k : Nat) :
    ∃ j, j ≤ b.length ∧ recov ⟨texts a, (texts b).take k⟩ = (⟨texts (a ++ b.take j), []⟩, a ++ b.take j) ∧ recov ⟨texts (a ++ b.take j), []⟩ = (⟨texts (a ++ b.take j), []⟩, a ++ b.take j) := by
  obtain ⟨j, e, h1, h2, h3⟩ := lines_cut (b := b) (most := 200 - a.length) k hb (by omega)
  refine ⟨j, h1, ?_, ?_⟩
  · unfold recov
    simp only [lines_texts ha (show a.length ≤ 200 by omega), h3, take_texts b j k h2, texts_app]
  · have hl := lines_texts (a := a ++ b.take j) (most := 200) (allOk_app ha (allOk_take hb j)) (by simp; omega)
    have hz : ∀ m, linesOf [] m = ([], 0, 0) := fun m => from_nil m 0 []
    unfold recov
    simp only [hl, hz, List.take_zero, List.append_nil]
theorem chk_texts {a : List Note} {w : List UInt8} (ha : allOk a) (hm : a.length ≤ 200) (hs : (texts a).length + w.length ≤ 60000) : chkDisk ⟨texts a, w⟩ = 0 := by
  unfold chkDisk
  have : tooMany ⟨texts a, w⟩ = false := by
    simp only [tooMany, Bool.or_eq_false_iff, decide_eq_false_iff_not]; omega
  rw [this]
  simp only [Bool.false_eq_true, if_false, lines_texts ha hm]
theorem put_texts {a b : List Note} {r : Note} (h : (putOn ⟨texts a, texts b⟩ r).2 = 0) : chkNote r = 0 ∧ putOn ⟨texts a, texts b⟩ r = (⟨texts a, texts (b ++ [r])⟩, 0) ∧ (texts a).length + (texts (b ++ [r])).length ≤ 60000 := by
  unfold putOn at h ⊢
  by_cases hc : chkNote r = 0
  · rw [if_pos hc] at h ⊢
    by_cases hl : 60000 < (texts a).length + (texts b).length + (noteText r).length + 1
    · rw [if_pos hl] at h; cases h
    · rw [if_neg hl]
      refine ⟨hc, ?_, ?_⟩
      · simp [texts]
      · have : (texts (b ++ [r])).length = (texts b).length + ((noteText r).length + 1) := by
          rw [texts_app, List.length_append, texts_cons, texts_nil, List.length_append, List.length_cons, List.length_nil]
        omega
  · rw [if_neg hc] at h; exact absurd h hc
theorem sync_texts {b : List Note} (hb : allOk b) (hm : b.length ≤ 200) (hs : (texts b).length ≤ 60000) : synced ⟨texts [], texts b⟩ = (⟨texts b, []⟩, 0) := by
  unfold synced
  have : chkDisk ⟨texts b, []⟩ = 0 := chk_texts hb hm (by simpa using hs)
  simp only [texts_nil, List.nil_append, this, if_true]
end Lk
end Go.Proofs.YtpenkhehceglfaaGreatDoor
/- Plain: records put one after the other; what DiskKeeps asks. Nothing of the program is named here. -/
namespace Go.Proofs.YtpenkhehceglfaaGreatDoor
namespace Lk
/-- those that can be put are put -/
def putFrom (d : Disk) (out : List Note) : List Note → Disk × List Note
  | [] => (d, out)
  | c :: r => if (putP d c).2 = 0 then putFrom (putP d c).1 (out ++ [c]) r else putFrom d out r
theorem putFrom_texts {a : List Note} (ha : allOk a) (hm : a.length ≤ 200) (l : List Note) : ∀ (b out : List Note), allOk b → (texts a).length + (texts b).length ≤ 60000 →
    ∃ o, allOk o ∧ o.length ≤ l.length ∧ putFrom ⟨texts a, texts b⟩ out l = (⟨texts a, texts (b ++ o)⟩, out ++ o) ∧ (texts a).length + (texts (b ++ o)).length ≤ 60000 := by
  induction l with
  | nil => intro b out hb hs; exact ⟨[], (fun r hr => by cases hr), Nat.le_refl _, by simp [putFrom], by simpa using hs⟩
  | cons c r ih =>
    intro b out hb hs
    have hchk : chkDisk ⟨texts a, texts b⟩ = 0 := chk_texts ha hm hs
    have hput : putP ⟨texts a, texts b⟩ c = putOn ⟨texts a, texts b⟩ c := by unfold putP; rw [if_pos hchk]
    by_cases h : (putOn ⟨texts a, texts b⟩ c).2 = 0
    · obtain ⟨h1, h2, h3⟩ := put_texts h
      obtain ⟨o, o1, o2, o3, o4⟩ := ih (b ++ [c]) (out ++ [c]) (allOk_app hb (fun x hx => by simp at hx; subst hx; exact h1)) h3
      refine ⟨c :: o, fun x hx => ?_, by simp; omega, ?_, ?_⟩
      · rcases List.mem_cons.1 hx with rfl | hx
        · exact h1
        · exact o1 x hx
      · rw [putFrom, hput, if_pos h, h2]
        simp only
        rw [o3, List.append_assoc, List.append_assoc]
        rfl
      · rw [List.append_assoc] at o4; exact o4
    · obtain ⟨o, o1, o2, o3, o4⟩ := ih b out hb hs
      exact ⟨o, o1, by simp; omega, by rw [putFrom, hput, if_neg h]; exact o3, o4⟩
theorem sync_all {b : List Note} (hb : allOk b) (hm : b.length ≤ 200) (hs : (texts b).length ≤ 60000) : syncP ⟨texts [], texts b⟩ = (⟨texts b, []⟩, 0) := by
  have hchk : chkDisk ⟨texts [], texts b⟩ = 0 := chk_texts (a := []) (fun r hr => by cases hr) (by simp) (by simpa [texts] using hs)
  unfold syncP
  rw [if_pos hchk]
  exact sync_texts hb hm hs
theorem recov_all {a b : List Note} (ha : allOk a) (hb : allOk b) (hm : a.length + b.length ≤ 200) (hs : (texts a).length + (texts b).length ≤ 60000) (k : Nat) :
    ∃ j, j ≤ b.length ∧ recovP ⟨texts a, (texts b).take k⟩ = (⟨texts (a ++ b.take j), []⟩, a ++ b.take j, 0) ∧ recovP ⟨texts (a ++ b.take j), []⟩ = (⟨texts (a ++ b.take j), []⟩, a ++ b.take j, 0) := by
  obtain ⟨j, h1, h2, h3⟩ := recov_keeps ha hb hm k
  have hsz : (texts (b.take j)).length ≤ (texts b).length := by
    have e : texts b = texts (b.take j) ++ texts (b.drop j) := by rw [← texts_app, List.take_append_drop]
    rw [e, List.length_append]; omega
  refine ⟨j, h1, ?_, ?_⟩
  · have hc : chkDisk ⟨texts a, (texts b).take k⟩ = 0 := chk_texts ha (by omega) (by rw [List.length_take]; omega)
    unfold recovP; rw [if_pos hc, h2]
  · have hc : chkDisk ⟨texts (a ++ b.take j), []⟩ = 0 := chk_texts (allOk_app ha (allOk_take hb j)) (by simp; omega) (by rw [texts_app]; simp; omega)
    unfold recovP; rw [if_pos hc, h3]
theorem take_two (a b : List Note) (j : Nat) : (a ++ b).take (a.length + j) = a ++ b.take j := by
  rw [List.take_append, List.take_of_length_le (by omega), Nat.add_sub_cancel_left]
end Lk
end Go.Proofs.YtpenkhehceglfaaGreatDoor
