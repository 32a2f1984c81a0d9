import Derived.Lib.AtoiAll
import Derived.Lib.ItoaNum
import Derived.Lib.IndexMore
import Derived.Lib.Join
import Derived.Lib.SplitLaws
import Derived.Lib.IndexBytes
import Derived.Lib.ItoaMem
import Derived.Lib.IndexLaws
/- Plain functions on lists: what the functions of package lock, and of the document's own answers, come to. Nothing of the program is named here. -/
namespace Go.Proofs.YtpenkhehceglfaaGreatDoor
namespace Lk

/-- one pin's numbers are within the bounds -/
def okPin (p : Int × Int) : Bool := decide (1 ≤ p.1) && decide (p.1 ≤ 20) && (decide (1 ≤ p.2) && decide (p.2 ≤ 99))

def chkFrom (last : Int) : List (Int × Int) → Int
  | [] => 0
  | p :: r => if okPin p = true then (if p.1 ≤ last then 6 else chkFrom p.1 r) else 3

def chk (l : List (Int × Int)) : Int := if 12 < l.length then 2 else chkFrom 0 l

def find (name : Int) : List (Int × Int) → Int
  | [] => 0
  | p :: r => if p.1 = name then p.2 else find name r

def same (l m : List (Int × Int)) : Bool := decide (l = m)

theorem same_of {l m : List (Int × Int)} (hn : l.length = m.length) (h : ∀ j, j < l.length → l.getD j (0, 0) = m.getD j (0, 0)) : same l m = true := by
  refine decide_eq_true (List.ext_getElem hn fun j h1 h2 => ?_)
  have := h j h1
  rwa [List.getD_eq_getElem?_getD, List.getD_eq_getElem?_getD, List.getElem?_eq_getElem h1, List.getElem?_eq_getElem h2] at this
theorem same_not {l m : List (Int × Int)} {j : Nat} (h : l.getD j (0, 0) ≠ m.getD j (0, 0)) : same l m = false :=
  decide_eq_false fun e => h (by rw [e])
theorem same_len {l m : List (Int × Int)} (h : l.length ≠ m.length) : same l m = false :=
  decide_eq_false fun e => h (by rw [e])

end Lk
end Go.Proofs.YtpenkhehceglfaaGreatDoor
/- Plain functions on texts: how a number, a pin and a lock are written and read. -/
namespace Go.Proofs.YtpenkhehceglfaaGreatDoor
namespace Lk

/-- a number, written as it is printed -/
def numOf (s : List UInt8) : Option Int := match Lib.atoiAll s with
  | .ok v => if Lib.itoa v = s then some v else none
  | _ => none

/-- a word: name, @, version -/
def pinOf (s : List UInt8) : Option (Int × Int) :=
  if (Lib.cut s [64]).2.2 = true then
    (match numOf (Lib.cut s [64]).1, numOf (Lib.cut s [64]).2.1 with
      | some a, some b => some (a, b)
      | _, _ => none)
  else none

def pinsOf : List (List UInt8) → Option (List (Int × Int))
  | [] => some []
  | s :: r => match pinOf s, pinsOf r with
    | some p, some l => some (p :: l)
    | _, _ => none

def pinText (p : Int × Int) : List UInt8 := Lib.decDigits p.1.toNat ++ 64 :: Lib.decDigits p.2.toNat
def text (l : List (Int × Int)) : List UInt8 := Lib.join (l.map pinText) [44]

theorem numOf_ok {s : List UInt8} {v : Int} (h : Lib.atoiAll s = .ok v) (e : Lib.itoa v = s) : numOf s = some v := by
  unfold numOf; rw [h]; exact if_pos e
theorem numOf_no {s : List UInt8} {v : Int} (h : Lib.atoiAll s = .ok v) (e : ¬ Lib.itoa v = s) : numOf s = none := by
  unfold numOf; rw [h]; exact if_neg e
theorem numOf_bad {s : List UInt8} (h : ∀ v, Lib.atoiAll s ≠ .ok v) : numOf s = none := by
  unfold numOf
  split
  · rename_i v e; exact absurd e (h v)
  · rfl
end Lk
end Go.Proofs.YtpenkhehceglfaaGreatDoor
/- Plain facts on the words of a text, and on reading them one by one. -/
namespace Go.Proofs.YtpenkhehceglfaaGreatDoor
namespace Lk
def comma : ByteArray := ⟨#[44]⟩
def ws (s : ByteArray) : List ByteArray := Lib.splitB comma 0 (Lib.countB s comma) s
def pins (s : ByteArray) : Option (List (Int × Int)) := if s.size = 0 then some [] else pinsOf ((ws s).map (·.data.toList))
/-- what a text of few enough bytes is read as -/
def readAs (s : ByteArray) : List (Int × Int) × Int := match pins s with
  | none => ([], 1)
  | some l => if chk l = 0 then (l, 0) else ([], chk l)

theorem ws_len (s : ByteArray) : (ws s).length = Lib.countB s comma + 1 := Lib.splitB_all comma (by decide) 0 _ s rfl
theorem count_le (s : ByteArray) : Lib.countB s comma ≤ s.size := Lib.countB_le comma (by decide) s.size s (Nat.le_refl _)
theorem split_le (k : Nat) : ∀ (s x : ByteArray), x ∈ Lib.splitB comma 0 k s → x.size ≤ s.size := by
  induction k with
  | zero => intro s x h; simp [Lib.splitB] at h; rw [h]; exact Nat.le_refl _
  | succ k ih =>
    intro s x h
    unfold Lib.splitB at h
    split at h
    · simp at h; rw [h]; exact Nat.le_refl _
    · rcases List.mem_cons.1 h with h | h
      · rw [h, ByteArray.size_extract]; omega
      · have := ih _ _ h; rw [ByteArray.size_extract] at this; omega
theorem ws_le (s x : ByteArray) (h : x ∈ ws s) : x.size ≤ s.size := split_le _ s x h

theorem pinsOf_snoc (a : List (List UInt8)) (s : List UInt8) (l : List (Int × Int)) (p : Int × Int) (h : pinsOf a = some l) (hp : pinOf s = some p) : pinsOf (a ++ [s]) = some (l ++ [p]) := by
  induction a generalizing l with
  | nil => simp only [pinsOf, Option.some.injEq] at h; subst h; simp [pinsOf, hp]
  | cons x r ih =>
    simp only [pinsOf] at h
    simp only [List.cons_append, pinsOf]
    cases e : pinOf x with
    | none => rw [e] at h; simp at h
    | some q =>
      cases e' : pinsOf r with
      | none => rw [e, e'] at h; simp at h
      | some m =>
        rw [e, e'] at h
        simp only [Option.some.injEq] at h
        subst h
        rw [ih m e']
        rfl
theorem pinsOf_bad (a : List (List UInt8)) (s : List UInt8) (hs : s ∈ a) (h : pinOf s = none) : pinsOf a = none := by
  induction a with
  | nil => cases hs
  | cons x r ih =>
    simp only [pinsOf]
    rcases List.mem_cons.1 hs with rfl | hs
    · rw [h]
    · rw [ih hs]; cases pinOf x <;> rfl
theorem pinsOf_len (a : List (List UInt8)) (l : List (Int × Int)) (h : pinsOf a = some l) : l.length = a.length := by
  induction a generalizing l with
  | nil => simp only [pinsOf, Option.some.injEq] at h; subst h; rfl
  | cons x r ih =>
    simp only [pinsOf] at h
    cases e : pinOf x with
    | none => rw [e] at h; simp at h
    | some q =>
      cases e' : pinsOf r with
      | none => rw [e, e'] at h; simp at h
      | some m =>
        rw [e, e'] at h
        simp only [Option.some.injEq] at h
        subst h
        simp [ih m e']
/-- the first k words are read -/
def readTo (s : ByteArray) (k : Nat) (l : List (Int × Int)) : Prop := pinsOf (((ws s).take k).map (·.data.toList)) = some l
theorem readTo_zero (s : ByteArray) : readTo s 0 [] := rfl
theorem readTo_len {s : ByteArray} {k : Nat} {l : List (Int × Int)} (h : readTo s k l) (hk : k ≤ (ws s).length) : l.length = k := by
  rw [pinsOf_len _ _ h]; simp; omega
theorem readTo_next {s : ByteArray} {k : Nat} {l : List (Int × Int)} {x : ByteArray} {p : Int × Int} (h : readTo s k l) (hx : (ws s)[k]? = some x) (hp : pinOf x.data.toList = some p) : readTo s (k + 1) (l ++ [p]) := by
  unfold readTo
  rw [List.take_add_one, hx, List.map_append]
  exact pinsOf_snoc _ _ _ _ h hp
theorem readTo_bad {s : ByteArray} {k : Nat} {x : ByteArray} (h0 : s.size ≠ 0) (hx : (ws s)[k]? = some x) (hp : pinOf x.data.toList = none) : pins s = none := by
  unfold pins
  rw [if_neg h0]
  exact pinsOf_bad _ _ (List.mem_map_of_mem (List.mem_of_getElem? hx)) hp
theorem readTo_all {s : ByteArray} {l : List (Int × Int)} (h0 : s.size ≠ 0) (h : readTo s (ws s).length l) : pins s = some l := by
  unfold pins
  rw [if_neg h0]
  unfold readTo at h
  rwa [List.take_length] at h
theorem pins_nil {s : ByteArray} (h0 : s.size = 0) : pins s = some [] := if_pos h0

/-- a word by the place of its @ -/
theorem pinOf_at (s : List UInt8) (k : Nat) (h : Lib.indexByte s 64 = k) : pinOf s = match numOf (s.take k), numOf (s.drop (k + 1)) with
    | some a, some b => some (a, b)
    | _, _ => none := by
  have e : Lib.index s [64] = k := (Lib.index_one s 64).trans h
  have hc : Lib.cut s [64] = (s.take k, s.drop (k + 1), true) := by
    unfold Lib.cut; rw [e, if_pos (by omega)]; simp
  unfold pinOf
  rw [hc]
  rfl
theorem pinOf_none (s : List UInt8) (h : Lib.indexByte s 64 = -1) : pinOf s = none := by
  have e : Lib.index s [64] = -1 := (Lib.index_one s 64).trans h
  have hc : Lib.cut s [64] = (s, [], false) := by
    unfold Lib.cut; rw [e, if_neg (by omega)]
  unfold pinOf
  rw [hc]
  rfl
theorem pinOf_at_no (s : List UInt8) (k : Nat) (h : Lib.indexByte s 64 = k) (h' : (numOf (s.take k)).isSome = false ∨ (numOf (s.drop (k + 1))).isSome = false) : pinOf s = none := by
  rw [pinOf_at s k h]
  rcases h' with h' | h'
  · cases e : numOf (s.take k) with
    | none => rfl
    | some v => rw [e] at h'; simp at h'
  · cases e : numOf (s.drop (k + 1)) with
    | none => cases numOf (s.take k) <;> rfl
    | some v => rw [e] at h'; simp at h'
theorem pinOf_at_yes (s : List UInt8) (k : Nat) (x y : Int) (h : Lib.indexByte s 64 = k) (h1 : (numOf (s.take k)).isSome = true) (h2 : (numOf (s.drop (k + 1))).isSome = true)
    (hx : ∀ v, numOf (s.take k) = some v → x = v) (hy : ∀ v, numOf (s.drop (k + 1)) = some v → y = v) : pinOf s = some (x, y) := by
  rw [pinOf_at s k h]
  cases e : numOf (s.take k) with
  | none => rw [e] at h1; simp at h1
  | some u =>
    cases e' : numOf (s.drop (k + 1)) with
    | none => rw [e'] at h2; simp at h2
    | some v => rw [hx u e, hy v e']
end Lk
end Go.Proofs.YtpenkhehceglfaaGreatDoor
/- Plain facts: what is written is read, what is read is written as it was. -/
namespace Go.Proofs.YtpenkhehceglfaaGreatDoor
namespace Lk
/-- the digits of a number below 100 -/
def dd (n : Nat) : List UInt8 := if n < 10 then [UInt8.ofNat (48 + n)] else [UInt8.ofNat (48 + n / 10), UInt8.ofNat (48 + n % 10)]
theorem dd_eq {n : Nat} (h : n < 100) : Lib.decDigits n = dd n := by
  unfold dd
  by_cases h1 : n < 10
  · rw [if_pos h1, Lib.decDigits_one h1]
  · rw [if_neg h1, Lib.decDigits_two h1 h]
theorem dd_all : ∀ n : Fin 100, Lib.atoiAll (dd n.1) = .ok (n.1 : Int) ∧ (64 ∈ dd n.1 → False) ∧ (44 ∈ dd n.1 → False) := by decide +kernel
theorem num_dec (n : Nat) (h : n < 100) : numOf (Lib.decDigits n) = some (n : Int) :=
  numOf_ok (by rw [dd_eq h]; exact (dd_all ⟨n, h⟩).1) (Lib.itoa_nonneg n)
theorem no64 (n : Nat) (h : n < 100) : 64 ∉ Lib.decDigits n := by rw [dd_eq h]; exact (dd_all ⟨n, h⟩).2.1
theorem no44 (n : Nat) (h : n < 100) : 44 ∉ Lib.decDigits n := by rw [dd_eq h]; exact (dd_all ⟨n, h⟩).2.2
theorem index_app (c : UInt8) (a r : List UInt8) (h : c ∉ a) : Lib.indexByte (a ++ c :: r) c = a.length := by
  induction a with
  | nil => simp [Lib.indexByte]
  | cons x t ih =>
    have hx : ¬ x = c := fun e => h (by simp [e])
    have ht : c ∉ t := fun e => h (by simp [e])
    simp only [List.cons_append, Lib.indexByte, ih ht]
    rw [if_neg (by simpa using hx), if_neg (by simp)]
    simp
theorem index_not (c : UInt8) (a : List UInt8) (h : c ∉ a) : Lib.indexByte a c = -1 := by
  induction a with
  | nil => rfl
  | cons x t ih =>
    have hx : ¬ x = c := fun e => h (by simp [e])
    simp only [Lib.indexByte, ih (fun e => h (by simp [e]))]
    rw [if_neg (by simpa using hx), if_pos (by decide)]
def okP (p : Int × Int) : Prop := (1 ≤ p.1 ∧ p.1 ≤ 20) ∧ (1 ≤ p.2 ∧ p.2 ≤ 99)
theorem pin_back (p : Int × Int) (h : okP p) : pinOf (pinText p) = some p := by
  obtain ⟨x, y⟩ := p
  obtain ⟨⟨h1, h2⟩, h3, h4⟩ := h
  simp only at h1 h2 h3 h4
  obtain ⟨n, rfl⟩ := Int.eq_ofNat_of_zero_le (show 0 ≤ x by omega)
  obtain ⟨m, rfl⟩ := Int.eq_ofNat_of_zero_le (show 0 ≤ y by omega)
  have e : pinText ((n : Int), (m : Int)) = Lib.decDigits n ++ 64 :: Lib.decDigits m := by simp [pinText]
  rw [e, pinOf_at _ _ (index_app 64 _ _ (no64 n (by omega)))]
  simp only [List.take_left, List.drop_length_add_append]
  rw [show List.drop 1 (64 :: Lib.decDigits m) = Lib.decDigits m from rfl]
  rw [num_dec n (by omega), num_dec m (by omega)]
theorem pin_no44 (p : Int × Int) (h : okP p) : 44 ∉ pinText p := by
  obtain ⟨⟨h1, h2⟩, h3, h4⟩ := h
  unfold pinText
  intro e
  rcases List.mem_append.1 e with e | e
  · exact no44 _ (by omega) e
  · rcases List.mem_cons.1 e with e | e
    · exact absurd e (by decide)
    · exact no44 _ (by omega) e
/-- the words between commas -/
def splitL : List UInt8 → List (List UInt8)
  | [] => [[]]
  | c :: r => if c = 44 then [] :: splitL r else match splitL r with
    | [] => [[c]]
    | a :: t => (c :: a) :: t
theorem splitL_ne (l : List UInt8) : splitL l ≠ [] := by
  cases l with
  | nil => simp [splitL]
  | cons c r =>
    unfold splitL
    split
    · simp
    · split <;> simp
theorem splitL_not (a : List UInt8) (h : 44 ∉ a) : splitL a = [a] := by
  induction a with
  | nil => rfl
  | cons x t ih =>
    unfold splitL
    rw [if_neg (fun e => h (by simp [e])), ih (fun e => h (by simp [e]))]
theorem splitL_app (a r : List UInt8) (h : 44 ∉ a) : splitL (a ++ 44 :: r) = a :: splitL r := by
  induction a with
  | nil => simp [splitL]
  | cons x t ih =>
    rw [List.cons_append, splitL, if_neg (fun e => h (by simp [e])), ih (fun e => h (by simp [e]))]
theorem split_cases (l : List UInt8) : 44 ∉ l ∨ ∃ a r, l = a ++ 44 :: r ∧ 44 ∉ a := by
  induction l with
  | nil => exact .inl (by simp)
  | cons c t ih =>
    by_cases hc : c = 44
    · exact .inr ⟨[], t, by simp [hc], by simp⟩
    · rcases ih with ih | ⟨a, r, e, h⟩
      · exact .inl (by simp [ih, Ne.symm hc])
      · exact .inr ⟨c :: a, r, by simp [e], by simp [h, Ne.symm hc]⟩
theorem splitB_L (k : Nat) : ∀ s : ByteArray, Lib.countB s comma = k → (Lib.splitB comma 0 k s).map (·.data.toList) = splitL s.data.toList := by
  induction k with
  | zero =>
    intro s hk
    have hc : Lib.count s.data.toList [44] = 0 := hk
    rw [Lib.count_one] at hc
    have hn : (44 : UInt8) ∉ s.data.toList := List.count_eq_zero.1 hc
    rw [splitL_not _ hn]
    rfl
  | succ k ih =>
    intro s hk
    rcases split_cases s.data.toList with hn | ⟨a, r, e, hn⟩
    · have hc : Lib.count s.data.toList [44] = k + 1 := hk
      rw [Lib.count_one, List.count_eq_zero.2 hn] at hc
      omega
    · have hix : Lib.indexB s comma = (a.length : Nat) := by
        show Lib.index s.data.toList [44] = _
        rw [Lib.index_one, e]
        exact index_app 44 a r hn
      have h1 : 1 ≤ comma.size := by decide
      have hcnt := Lib.countB_hit s comma a.length h1 hix
      rw [Lib.splitB_hit comma 0 k s a.length hix, List.map_cons]
      have hcs : comma.size = 1 := by decide
      rw [hcs] at hcnt ⊢
      rw [ih _ (by omega), e, splitL_app a r hn]
      have e1 : (s.extract 0 (a.length + 0)).data.toList = a := by rw [Lib.extract_data, e]; simp
      have e2 : (s.extract (a.length + 1) s.size).data.toList = r := by rw [Lib.extract_to_end, e, List.drop_append]; simp
      rw [e1, e2]
theorem ws_L (s : ByteArray) : (ws s).map (·.data.toList) = splitL s.data.toList := splitB_L _ s rfl
theorem inter_cons (x : List UInt8) (r : List (List UInt8)) (h : r ≠ []) : ([44] : List UInt8).intercalate (x :: r) = x ++ 44 :: ([44] : List UInt8).intercalate r := by
  cases r with
  | nil => exact absurd rfl h
  | cons y r => simp [List.intercalate, List.intersperse]
theorem join_split (l : List UInt8) : ([44] : List UInt8).intercalate (splitL l) = l := by
  induction l with
  | nil => simp [splitL, List.intercalate]
  | cons c r ih =>
    unfold splitL
    by_cases hc : c = 44
    · rw [if_pos hc, inter_cons _ _ (splitL_ne r), ih, hc]; rfl
    · rw [if_neg hc]
      cases e : splitL r with
      | nil => exact absurd e (splitL_ne r)
      | cons a t =>
        rw [e] at ih
        cases t with
        | nil => simp [List.intercalate] at ih ⊢; exact ih
        | cons b t =>
          rw [inter_cons _ _ (by simp)] at ih ⊢
          simp [← ih]
theorem split_join (a : List (List UInt8)) (h0 : a ≠ []) (h : ∀ x ∈ a, 44 ∉ x) : splitL (([44] : List UInt8).intercalate a) = a := by
  induction a with
  | nil => exact absurd rfl h0
  | cons x r ih =>
    cases r with
    | nil => simp only [List.intercalate, List.intersperse, List.flatten_cons, List.flatten_nil, List.append_nil]; exact splitL_not x (h x (by simp))
    | cons y r =>
      rw [inter_cons _ _ (by simp), splitL_app _ _ (h x (by simp)), ih (by simp) (fun z hz => h z (by simp [hz]))]
theorem pinsOf_text (l : List (Int × Int)) (h : ∀ p ∈ l, okP p) : pinsOf (l.map pinText) = some l := by
  induction l with
  | nil => rfl
  | cons p r ih =>
    simp only [List.map_cons, pinsOf, pin_back p (h p (by simp)), ih (fun q hq => h q (by simp [hq]))]
theorem pinText_ne (p : Int × Int) : pinText p ≠ [] := by unfold pinText; simp
theorem text_ne (p : Int × Int) (r : List (Int × Int)) : text (p :: r) ≠ [] := by
  unfold text Lib.join
  rw [List.map_cons]
  intro e
  cases r with
  | nil => simp [List.intercalate] at e; exact pinText_ne p e
  | cons q r =>
    rw [inter_cons _ _ (by simp)] at e
    simp at e
theorem pins_text (l : List (Int × Int)) (h : ∀ p ∈ l, okP p) : pins ⟨(text l).toArray⟩ = some l := by
  cases l with
  | nil => rfl
  | cons p r =>
    unfold pins
    have hs : ¬ (⟨(text (p :: r)).toArray⟩ : ByteArray).size = 0 := by
      show ¬ (text (p :: r)).toArray.size = 0
      rw [List.size_toArray]
      intro e
      exact text_ne p r (List.length_eq_zero_iff.1 e)
    rw [if_neg hs, ws_L]
    show pinsOf (splitL (text (p :: r))) = _
    unfold text Lib.join
    rw [split_join _ (by simp) (fun x hx => by obtain ⟨q, hq, rfl⟩ := List.mem_map.1 hx; exact pin_no44 q (h q hq))]
    exact pinsOf_text _ h
theorem numOf_back {s : List UInt8} {v : Int} (h : numOf s = some v) (h0 : 0 ≤ v) : s = Lib.decDigits v.toNat := by
  unfold numOf at h
  split at h
  · rename_i u _
    by_cases e : Lib.itoa u = s
    · rw [if_pos e] at h
      cases h
      rw [← e]
      unfold Lib.itoa
      rw [if_neg (by omega)]
    · rw [if_neg e] at h; cases h
  · cases h
theorem pinOf_back {s : List UInt8} {p : Int × Int} (h : pinOf s = some p) (hp : okP p) : s = pinText p := by
  have hge := Lib.indexByte_ge s 64
  by_cases hix : Lib.indexByte s 64 = -1
  · rw [pinOf_none s hix] at h; cases h
  · obtain ⟨k, hk⟩ : ∃ k : Nat, Lib.indexByte s 64 = k := ⟨(Lib.indexByte s 64).toNat, by omega⟩
    rw [pinOf_at s k hk] at h
    cases e1 : numOf (s.take k) with
    | none => rw [e1] at h; cases h
    | some a =>
      cases e2 : numOf (s.drop (k + 1)) with
      | none => rw [e1, e2] at h; cases h
      | some b =>
        rw [e1, e2] at h
        cases h
        obtain ⟨⟨h1, _⟩, h3, _⟩ := hp
        simp only at h1 h3
        have ea := numOf_back e1 (by omega)
        have eb := numOf_back e2 (by omega)
        have hk64 := (Lib.indexByte_some hk).1
        obtain ⟨hlt, hv⟩ := List.getElem?_eq_some_iff.1 hk64
        unfold pinText
        rw [← ea, ← eb]
        conv => lhs; rw [← List.take_append_drop k s, List.drop_eq_getElem_cons hlt, hv]
theorem pinsOf_back (a : List (List UInt8)) (l : List (Int × Int)) (h : pinsOf a = some l) (hp : ∀ p ∈ l, okP p) : a = l.map pinText := by
  induction a generalizing l with
  | nil => simp only [pinsOf, Option.some.injEq] at h; subst h; rfl
  | cons x r ih =>
    simp only [pinsOf] at h
    cases e : pinOf x with
    | none => rw [e] at h; simp at h
    | some q =>
      cases e' : pinsOf r with
      | none => rw [e, e'] at h; simp at h
      | some m =>
        rw [e, e'] at h
        simp only [Option.some.injEq] at h
        subst h
        rw [List.map_cons, ← ih m e' (fun p hp' => hp p (by simp [hp'])), ← pinOf_back e (hp q (by simp))]
theorem text_back (s : ByteArray) (l : List (Int × Int)) (h : pins s = some l) (hp : ∀ p ∈ l, okP p) : text l = s.data.toList := by
  unfold pins at h
  by_cases h0 : s.size = 0
  · rw [if_pos h0] at h
    cases h
    have : s.data.toList = [] := List.length_eq_zero_iff.1 h0
    rw [this]; simp [text, Lib.join]
  · rw [if_neg h0, ws_L] at h
    have := pinsOf_back _ _ h hp
    unfold text Lib.join
    rw [← this, join_split]
end Lk
end Go.Proofs.YtpenkhehceglfaaGreatDoor
/- Plain functions on records: how they are checked, written and read; what is written is read, what is read is written as it was. Nothing of the program is named here. -/
namespace Go.Proofs.YtpenkhehceglfaaGreatDoor
namespace Lk
/-- a record -/
structure Note where
  kind : Int
  agent : Int
  tr : Int
  n : Int
  good : Bool
  id : Int
  lock : List (Int × Int)
def Note.none : Note := ⟨0, 0, 0, 0, false, 0, []⟩
def uA (k : Int) : Bool := k == 6 || k == 7
def uT (k : Int) : Bool := k == 1 || k == 2 || k == 3 || k == 6 || k == 7
def uN (k : Int) : Bool := k == 5
def uG (k : Int) : Bool := k == 3 || k == 7
def uR (k : Int) : Bool := k == 1 || k == 4
def within (n a b : Int) : Bool := decide (a ≤ n) && decide (n ≤ b)
def chkRel (id : Int) (l : List (Int × Int)) : Int := if within id 1 6 = true then chk l else 3
/-- something it has no use for isn't zero -/
def unused (r : Note) : Bool := (r.agent != 0 && !uA r.kind) || (r.tr != 0 && !uT r.kind) || (r.n != 0 && !uN r.kind) || (r.good && !uG r.kind) || ((r.id != 0 || decide (0 < r.lock.length)) && !uR r.kind)
def outside (r : Note) : Bool := !within r.agent 0 5 || (uT r.kind && !within r.tr 1 200) || (uN r.kind && !within r.n 1 6)
def chkNote (r : Note) : Int :=
  if (!within r.kind 1 9 || unused r) = true then 4
  else if outside r = true then 3
  else if uR r.kind = true then chkRel r.id r.lock
  else 0
def goodNum (b : Bool) : Int := if b = true then 1 else 0
def Note.nums (r : Note) : List Int := [r.kind, r.agent, r.tr, r.n, goodNum r.good, r.id]
def noteText (r : Note) : List UInt8 := (r.nums.map fun n => Lib.itoa n ++ [32]).flatten ++ 61 :: text r.lock
def alike (i : Int) (l : List (Int × Int)) (j : Int) (m : List (Int × Int)) : Bool := i == j && same l m
def sameNote (a b : Note) : Bool := a.kind == b.kind && a.agent == b.agent && a.tr == b.tr && a.n == b.n && a.good == b.good && alike a.id a.lock b.id b.lock
def notePrinted (r : Note) : List UInt8 := if chkNote r = 0 then noteText r else []
theorem sameNote_iff (a b : Note) : sameNote a b = true ↔ a = b := by
  obtain ⟨a1, a2, a3, a4, a5, a6, a7⟩ := a
  obtain ⟨b1, b2, b3, b4, b5, b6, b7⟩ := b
  simp [sameNote, alike, same, and_assoc]
theorem sameNote_self (a : Note) : sameNote a a = true := (sameNote_iff a a).2 rfl

/-! ### reading -/
/-- the first k numbers, each with a blank behind it, and what is behind them -/
def rdTo : Nat → List UInt8 → Option (List Int × List UInt8)
  | 0, s => some ([], s)
  | k + 1, s => match rdTo k s with
    | none => none
    | some q => if (Lib.cut q.2 [32]).2.2 = true then
        (match numOf (Lib.cut q.2 [32]).1 with
          | some n => some (q.1 ++ [n], (Lib.cut q.2 [32]).2.1)
          | none => none)
      else none
theorem rdTo_none {k : Nat} {s : List UInt8} (h : rdTo k s = none) : ∀ j, rdTo (k + j) s = none
  | 0 => h
  | j + 1 => by show rdTo (k + j + 1) s = none; rw [rdTo, rdTo_none h j]
theorem rdTo_next {k : Nat} {s r : List UInt8} {ns : List Int} {n : Int} (h : rdTo k s = some (ns, r)) (hc : (Lib.cut r [32]).2.2 = true) (hn : numOf (Lib.cut r [32]).1 = some n) : rdTo (k + 1) s = some (ns ++ [n], (Lib.cut r [32]).2.1) := by
  rw [rdTo, h]; simp only; rw [if_pos hc, hn]
theorem rdTo_cut {k : Nat} {s r : List UInt8} {ns : List Int} (h : rdTo k s = some (ns, r)) (hc : (Lib.cut r [32]).2.2 = false) : rdTo (k + 1) s = none := by
  rw [rdTo, h]; simp only; rw [if_neg (by rw [hc]; decide)]
theorem rdTo_num {k : Nat} {s r : List UInt8} {ns : List Int} (h : rdTo k s = some (ns, r)) (hn : numOf (Lib.cut r [32]).1 = none) : rdTo (k + 1) s = none := by
  rw [rdTo, h]; simp only
  split
  · rw [hn]
  · rfl
theorem rdTo_len {k : Nat} : ∀ {s r : List UInt8} {ns : List Int}, rdTo k s = some (ns, r) → ns.length = k := by
  induction k with
  | zero => intro s r ns h; simp only [rdTo, Option.some.injEq, Prod.mk.injEq] at h; rw [← h.1]; rfl
  | succ k ih =>
    intro s r ns h
    rw [rdTo] at h
    cases e : rdTo k s with
    | none => rw [e] at h; cases h
    | some q =>
      obtain ⟨ms, t⟩ := q
      rw [e] at h
      simp only at h
      split at h
      · split at h
        · simp only [Option.some.injEq, Prod.mk.injEq] at h
          rw [← h.1, List.length_append, ih e]; rfl
        · cases h
      · cases h
def noteOf (ns : List Int) (l : List (Int × Int)) : Note := ⟨ns.getD 0 0, ns.getD 1 0, ns.getD 2 0, ns.getD 3 0, ns.getD 4 0 == 1, ns.getD 5 0, l⟩
/-- what the numbers and the lock's text are read as -/
def fin (ns : List Int) (t : List UInt8) : Note × Int :=
  if (readAs ⟨t.toArray⟩).2 = 0 then
    (if chkNote (noteOf ns (readAs ⟨t.toArray⟩).1) = 0 then (noteOf ns (readAs ⟨t.toArray⟩).1, 0) else (Note.none, chkNote (noteOf ns (readAs ⟨t.toArray⟩).1)))
  else (Note.none, (readAs ⟨t.toArray⟩).2)
def readNote (s : List UInt8) : Note × Int := match rdTo 6 s with
  | none => (Note.none, 1)
  | some q => match q.2 with
    | [] => (Note.none, 1)
    | c :: t => if c = 61 ∧ within (q.1.getD 4 0) 0 1 = true then fin q.1 t else (Note.none, 1)

/-! ### words -/
def blank : ByteArray := ⟨#[32]⟩
def wb (s : ByteArray) : List ByteArray := Lib.splitB blank 0 (Lib.countB s blank) s
theorem wb_len (s : ByteArray) : (wb s).length = Lib.countB s blank + 1 := Lib.splitB_all blank (by decide) 0 _ s rfl
theorem countb_le (s : ByteArray) : Lib.countB s blank ≤ s.size := Lib.countB_le blank (by decide) s.size s (Nat.le_refl _)
theorem splitb_le (k : Nat) : ∀ (s x : ByteArray), x ∈ Lib.splitB blank 0 k s → x.size ≤ s.size := by
  induction k with
  | zero => intro s x h; simp [Lib.splitB] at h; rw [h]; exact Nat.le_refl _
  | succ k ih =>
    intro s x h
    unfold Lib.splitB at h
    split at h
    · simp at h; rw [h]; exact Nat.le_refl _
    · rcases List.mem_cons.1 h with h | h
      · rw [h, ByteArray.size_extract]; omega
      · have := ih _ _ h; rw [ByteArray.size_extract] at this; omega
theorem wb_le (s x : ByteArray) (h : x ∈ wb s) : x.size ≤ s.size := splitb_le _ s x h
def splitC : List UInt8 → List (List UInt8)
  | [] => [[]]
  | c :: r => if c = 32 then [] :: splitC r else match splitC r with
    | [] => [[c]]
    | a :: t => (c :: a) :: t
theorem splitC_ne (l : List UInt8) : splitC l ≠ [] := by
  cases l with
  | nil => simp [splitC]
  | cons c r =>
    unfold splitC
    split
    · simp
    · split <;> simp
theorem splitC_not (a : List UInt8) (h : 32 ∉ a) : splitC a = [a] := by
  induction a with
  | nil => rfl
  | cons x t ih =>
    unfold splitC
    rw [if_neg (fun e => h (by simp [e])), ih (fun e => h (by simp [e]))]
theorem splitC_app (a r : List UInt8) (h : 32 ∉ a) : splitC (a ++ 32 :: r) = a :: splitC r := by
  induction a with
  | nil => simp [splitC]
  | cons x t ih =>
    rw [List.cons_append, splitC, if_neg (fun e => h (by simp [e])), ih (fun e => h (by simp [e]))]
theorem blank_cases (l : List UInt8) : 32 ∉ l ∨ ∃ a r, l = a ++ 32 :: r ∧ 32 ∉ a := by
  induction l with
  | nil => exact .inl (by simp)
  | cons c t ih =>
    by_cases hc : c = 32
    · exact .inr ⟨[], t, by simp [hc], by simp⟩
    · rcases ih with ih | ⟨a, r, e, h⟩
      · exact .inl (by simp [ih, Ne.symm hc])
      · exact .inr ⟨c :: a, r, by simp [e], by simp [h, Ne.symm hc]⟩
theorem splitB_C (k : Nat) : ∀ s : ByteArray, Lib.countB s blank = k → (Lib.splitB blank 0 k s).map (·.data.toList) = splitC s.data.toList := by
  induction k with
  | zero =>
    intro s hk
    have hc : Lib.count s.data.toList [32] = 0 := hk
    rw [Lib.count_one] at hc
    have hn : (32 : UInt8) ∉ s.data.toList := List.count_eq_zero.1 hc
    rw [splitC_not _ hn]
    rfl
  | succ k ih =>
    intro s hk
    rcases blank_cases s.data.toList with hn | ⟨a, r, e, hn⟩
    · have hc : Lib.count s.data.toList [32] = k + 1 := hk
      rw [Lib.count_one, List.count_eq_zero.2 hn] at hc
      omega
    · have hix : Lib.indexB s blank = (a.length : Nat) := by
        show Lib.index s.data.toList [32] = _
        rw [Lib.index_one, e]
        exact index_app 32 a r hn
      have h1 : 1 ≤ blank.size := by decide
      have hcnt := Lib.countB_hit s blank a.length h1 hix
      rw [Lib.splitB_hit blank 0 k s a.length hix, List.map_cons]
      have hcs : blank.size = 1 := by decide
      rw [hcs] at hcnt ⊢
      rw [ih _ (by omega), e, splitC_app a r hn]
      have e1 : (s.extract 0 (a.length + 0)).data.toList = a := by rw [Lib.extract_data, e]; simp
      have e2 : (s.extract (a.length + 1) s.size).data.toList = r := by rw [Lib.extract_to_end, e, List.drop_append]; simp
      rw [e1, e2]
theorem wb_C (s : ByteArray) : (wb s).map (·.data.toList) = splitC s.data.toList := splitB_C _ s rfl
theorem wb_at {s : ByteArray} {j : Nat} {x : ByteArray} (h : (wb s)[j]? = some x) : (splitC s.data.toList)[j]? = some x.data.toList := by
  rw [← wb_C, List.getElem?_map, h]; rfl
theorem wb_lenC (s : ByteArray) : (splitC s.data.toList).length = (wb s).length := by rw [← wb_C, List.length_map]
theorem cut_not (s : List UInt8) (h : 32 ∉ s) : Lib.cut s [32] = (s, [], false) := by
  have e : Lib.index s [32] = -1 := (Lib.index_one s 32).trans (index_not 32 s h)
  unfold Lib.cut; rw [e, if_neg (by omega)]
theorem cut_app (a r : List UInt8) (h : 32 ∉ a) : Lib.cut (a ++ 32 :: r) [32] = (a, r, true) := by
  have e : Lib.index (a ++ 32 :: r) [32] = (a.length : Int) := (Lib.index_one _ 32).trans (index_app 32 a r h)
  unfold Lib.cut; rw [e, if_pos (by omega)]; simp
/-- what the numbers are, read from the words -/
def numsOf : List (List UInt8) → Option (List Int)
  | [] => some []
  | s :: r => match numOf s, numsOf r with
    | some p, some l => some (p :: l)
    | _, _ => none
theorem numsOf_snoc (a : List (List UInt8)) (s : List UInt8) (l : List Int) (p : Int) (h : numsOf a = some l) (hp : numOf s = some p) : numsOf (a ++ [s]) = some (l ++ [p]) := by
  induction a generalizing l with
  | nil => simp only [numsOf, Option.some.injEq] at h; subst h; simp [numsOf, hp]
  | cons x r ih =>
    simp only [numsOf] at h
    simp only [List.cons_append, numsOf]
    cases e : numOf x with
    | none => rw [e] at h; simp at h
    | some q =>
      cases e' : numsOf r with
      | none => rw [e, e'] at h; simp at h
      | some m =>
        rw [e, e'] at h
        simp only [Option.some.injEq] at h
        subst h
        rw [ih m e']
        rfl
theorem numsOf_bad (a : List (List UInt8)) (s : List UInt8) (hs : s ∈ a) (h : numOf s = none) : numsOf a = none := by
  induction a with
  | nil => cases hs
  | cons x r ih =>
    simp only [numsOf]
    rcases List.mem_cons.1 hs with rfl | hs
    · rw [h]
    · rw [ih hs]; cases numOf x <;> rfl
theorem rdTo_some {k : Nat} : ∀ {s r : List UInt8} {ns : List Int}, rdTo k s = some (ns, r) → ∃ ws : List (List UInt8), ws.length = k ∧ splitC s = ws ++ splitC r ∧ numsOf ws = some ns ∧ s = (ws.map fun w => w ++ [32]).flatten ++ r := by
  induction k with
  | zero => intro s r ns h; simp only [rdTo, Option.some.injEq, Prod.mk.injEq] at h; exact ⟨[], rfl, by rw [h.2]; rfl, by rw [← h.1]; rfl, by rw [h.2]; rfl⟩
  | succ k ih =>
    intro s r ns h
    rw [rdTo] at h
    cases e : rdTo k s with
    | none => rw [e] at h; cases h
    | some q =>
      obtain ⟨ms, t⟩ := q
      rw [e] at h
      simp only at h
      obtain ⟨ws, w1, w2, w3, w4⟩ := ih e
      rcases blank_cases t with hn | ⟨a, b, rfl, hn⟩
      · rw [cut_not t hn] at h; simp at h
      · rw [cut_app a b hn] at h
        simp only [if_true] at h
        cases en : numOf a with
        | none => rw [en] at h; cases h
        | some n =>
          rw [en] at h
          simp only [Option.some.injEq, Prod.mk.injEq] at h
          obtain ⟨rfl, rfl⟩ := h
          exact ⟨ws ++ [a], by simp [w1], by rw [w2, splitC_app a _ hn]; simp, numsOf_snoc _ _ _ _ w3 en, by rw [w4]; simp⟩
theorem rdTo_nope {k : Nat} : ∀ {s : List UInt8}, rdTo k s = none → (splitC s).length ≤ k ∨ numsOf ((splitC s).take k) = none := by
  induction k with
  | zero => intro s h; cases h
  | succ k ih =>
    intro s h
    rw [rdTo] at h
    cases e : rdTo k s with
    | none =>
      rcases ih e with h1 | h1
      · exact .inl (by omega)
      · by_cases hl : (splitC s).length ≤ k
        · exact .inl (by omega)
        · right
          rw [List.take_add_one]
          cases h2 : numsOf ((splitC s).take k ++ (splitC s)[k]?.toList) with
          | none => rfl
          | some z =>
            exfalso
            have key : ∀ (a b : List (List UInt8)) z, numsOf (a ++ b) = some z → numsOf a ≠ none := by
              intro a
              induction a with
              | nil => intro b z _ h; cases h
              | cons x r ihr =>
                intro b z h hh
                simp only [List.cons_append, numsOf] at h hh
                cases e1 : numOf x with
                | none => rw [e1] at h; simp at h
                | some q =>
                  cases e2 : numsOf (r ++ b) with
                  | none => rw [e1, e2] at h; simp at h
                  | some m =>
                    cases e3 : numsOf r with
                    | none => exact ihr b m e2 e3
                    | some _ => rw [e1, e3] at hh; simp at hh
            exact key _ _ z h2 h1
    | some q =>
      obtain ⟨ms, t⟩ := q
      rw [e] at h
      simp only at h
      obtain ⟨ws, w1, w2, w3, w4⟩ := rdTo_some e
      rcases blank_cases t with hn | ⟨a, b, rfl, hn⟩
      · left; rw [w2, splitC_not t hn]; simp [w1]
      · rw [cut_app a b hn] at h
        simp only [if_true] at h
        right
        rw [w2, splitC_app a b hn, List.take_append]
        refine numsOf_bad _ a (by simp [w1]) ?_
        cases en : numOf a with
        | none => rfl
        | some n => rw [en] at h; cases h

/-! ### the document's way of reading: word by word -/
theorem numsOf_len (a : List (List UInt8)) (l : List Int) (h : numsOf a = some l) : l.length = a.length := by
  induction a generalizing l with
  | nil => simp only [numsOf, Option.some.injEq] at h; subst h; rfl
  | cons x r ih =>
    simp only [numsOf] at h
    cases e : numOf x with
    | none => rw [e] at h; simp at h
    | some q =>
      cases e' : numsOf r with
      | none => rw [e, e'] at h; simp at h
      | some m =>
        rw [e, e'] at h
        simp only [Option.some.injEq] at h
        subst h
        simp [ih m e']
theorem dec_digits (u : Nat) : ∀ b ∈ Lib.decDigits u, 48 ≤ b.toNat ∧ b.toNat ≤ 57 := by
  induction u using Nat.strongRecOn with
  | _ u ih =>
    intro b hb
    by_cases h : u < 10
    · rw [Lib.decDigits, dif_pos h] at hb
      simp only [List.mem_singleton] at hb
      subst hb
      simp; omega
    · rw [Lib.decDigits, dif_neg h] at hb
      rcases List.mem_append.1 hb with hb | hb
      · exact ih (u / 10) (by omega) b hb
      · simp only [List.mem_singleton] at hb
        subst hb
        simp; omega
theorem itoa_bytes (n : Int) : ∀ b ∈ Lib.itoa n, b = 45 ∨ (48 ≤ b.toNat ∧ b.toNat ≤ 57) := by
  intro b hb
  unfold Lib.itoa at hb
  split at hb
  · rcases List.mem_cons.1 hb with h | h
    · exact .inl h
    · exact .inr (dec_digits _ b h)
  · exact .inr (dec_digits _ b hb)
theorem itoa_not {c : UInt8} (h1 : c ≠ 45) (h2 : ¬ (48 ≤ c.toNat ∧ c.toNat ≤ 57)) (n : Int) : c ∉ Lib.itoa n := fun h => by
  rcases itoa_bytes n c h with e | e
  · exact h1 e
  · exact h2 e
theorem numOf_itoa {s : List UInt8} {v : Int} (h : numOf s = some v) : Lib.itoa v = s := by
  unfold numOf at h
  split at h
  · rename_i u _
    by_cases e : Lib.itoa u = s
    · rw [if_pos e] at h; cases h; exact e
    · rw [if_neg e] at h; cases h
  · cases h
theorem num_no32 {s : List UInt8} {v : Int} (h : numOf s = some v) : 32 ∉ s := by
  rw [← numOf_itoa h]; exact itoa_not (by decide) (by decide) v
theorem pinOf_no32 {s : List UInt8} {p : Int × Int} (h : pinOf s = some p) : 32 ∉ s := by
  have hge := Lib.indexByte_ge s 64
  by_cases hix : Lib.indexByte s 64 = -1
  · rw [pinOf_none s hix] at h; cases h
  · obtain ⟨k, hk⟩ : ∃ k : Nat, Lib.indexByte s 64 = k := ⟨(Lib.indexByte s 64).toNat, by omega⟩
    rw [pinOf_at s k hk] at h
    cases e1 : numOf (s.take k) with
    | none => rw [e1] at h; cases h
    | some a =>
      cases e2 : numOf (s.drop (k + 1)) with
      | none => rw [e1, e2] at h; cases h
      | some b =>
        have hk64 := (Lib.indexByte_some hk).1
        obtain ⟨hlt, hv⟩ := List.getElem?_eq_some_iff.1 hk64
        intro hm
        rw [← List.take_append_drop k s, List.drop_eq_getElem_cons hlt, hv] at hm
        rcases List.mem_append.1 hm with hm | hm
        · exact num_no32 e1 hm
        · rcases List.mem_cons.1 hm with hm | hm
          · exact absurd hm (by decide)
          · exact num_no32 e2 hm
theorem pinsOf_no32 (a : List (List UInt8)) (l : List (Int × Int)) (h : pinsOf a = some l) : ∀ x ∈ a, 32 ∉ x := by
  induction a generalizing l with
  | nil => intro x hx; cases hx
  | cons x r ih =>
    simp only [pinsOf] at h
    cases e : pinOf x with
    | none => rw [e] at h; simp at h
    | some q =>
      cases e' : pinsOf r with
      | none => rw [e, e'] at h; simp at h
      | some m =>
        intro y hy
        rcases List.mem_cons.1 hy with rfl | hy
        · exact pinOf_no32 e
        · exact ih m e' y hy
theorem inter_mem (c : UInt8) (hc : c ≠ 44) (a : List (List UInt8)) (h : ∀ x ∈ a, c ∉ x) : c ∉ ([44] : List UInt8).intercalate a := by
  induction a with
  | nil => simp [List.intercalate]
  | cons x r ih =>
    cases r with
    | nil => simp only [List.intercalate, List.intersperse, List.flatten_cons, List.flatten_nil, List.append_nil]; exact h x (by simp)
    | cons y r =>
      rw [inter_cons _ _ (by simp)]
      intro hm
      rcases List.mem_append.1 hm with hm | hm
      · exact h x (by simp) hm
      · rcases List.mem_cons.1 hm with hm | hm
        · exact hc hm
        · exact ih (fun z hz => h z (by simp [hz])) hm
theorem pins_no32 {t : ByteArray} {l : List (Int × Int)} (h : pins t = some l) : 32 ∉ t.data.toList := by
  unfold pins at h
  by_cases h0 : t.size = 0
  · have : t.data.toList = [] := List.length_eq_zero_iff.1 h0
    rw [this]; simp
  · rw [if_neg h0, ws_L] at h
    have := inter_mem 32 (by decide) _ (pinsOf_no32 _ _ h)
    rwa [join_split] at this
theorem readAs_blank {t : List UInt8} (h : 32 ∈ t) : readAs ⟨t.toArray⟩ = ([], 1) := by
  unfold readAs
  cases e : pins ⟨t.toArray⟩ with
  | none => rfl
  | some l => exact absurd (by simpa using h) (pins_no32 e)
theorem fin_blank {t : List UInt8} (ns : List Int) (h : 32 ∈ t) : fin ns t = (Note.none, 1) := by
  unfold fin; rw [readAs_blank h]; rfl
theorem read_len {s : List UInt8} (h : (splitC s).length ≠ 7) : readNote s = (Note.none, 1) := by
  unfold readNote
  cases e : rdTo 6 s with
  | none => rfl
  | some q =>
    obtain ⟨ns, r⟩ := q
    obtain ⟨ws, w1, w2, w3, w4⟩ := rdTo_some e
    simp only
    cases r with
    | nil => rfl
    | cons c t =>
      simp only
      split
      · rename_i hc
        refine fin_blank _ ?_
        by_cases hm : 32 ∈ c :: t
        · rcases List.mem_cons.1 hm with hm | hm
          · rw [hc.1] at hm; exact absurd hm (by decide)
          · exact hm
        · rw [w2, splitC_not _ hm, List.length_append, w1] at h
          exact absurd rfl h
      · rfl
theorem read_num {s : List UInt8} (h : numsOf ((splitC s).take 6) = none) : readNote s = (Note.none, 1) := by
  unfold readNote
  cases e : rdTo 6 s with
  | none => rfl
  | some q =>
    obtain ⟨ns, r⟩ := q
    obtain ⟨ws, w1, w2, w3, w4⟩ := rdTo_some e
    rw [w2, List.take_left' w1, w3] at h
    cases h
theorem read_words {s x : List UInt8} {ns : List Int} (hl : (splitC s).length = 7) (hx : (splitC s)[6]? = some x) (hn : numsOf ((splitC s).take 6) = some ns) : rdTo 6 s = some (ns, x) := by
  cases e : rdTo 6 s with
  | none =>
    rcases rdTo_nope e with h | h
    · omega
    · rw [h] at hn; cases hn
  | some q =>
    obtain ⟨ms, r⟩ := q
    obtain ⟨ws, w1, w2, w3, w4⟩ := rdTo_some e
    rw [w2, List.take_left' w1, w3] at hn
    cases hn
    rw [w2, List.length_append, w1] at hl
    rcases blank_cases r with hm | ⟨a, b, rfl, hm⟩
    · rw [w2, splitC_not r hm, List.getElem?_append_right (by omega), w1] at hx
      simp at hx; rw [hx]
    · rw [splitC_app a b hm] at hl
      have := splitC_ne b
      have h2 : (splitC b).length ≠ 0 := fun e => this (List.length_eq_zero_iff.1 e)
      simp at hl; omega
theorem read_head {s x : List UInt8} (hl : (splitC s).length = 7) (hx : (splitC s)[6]? = some x) (hp : Lib.hasPrefix x [61] = false) : readNote s = (Note.none, 1) := by
  cases e : numsOf ((splitC s).take 6) with
  | none => exact read_num e
  | some ns =>
    unfold readNote
    rw [read_words hl hx e]
    simp only
    cases x with
    | nil => rfl
    | cons c t =>
      simp only
      rw [if_neg]
      intro h
      rw [h.1] at hp
      simp [Lib.hasPrefix] at hp
theorem read_good {s x : List UInt8} {ns : List Int} (hl : (splitC s).length = 7) (hx : (splitC s)[6]? = some x) (hn : numsOf ((splitC s).take 6) = some ns) (hg : within (ns.getD 4 0) 0 1 = false) : readNote s = (Note.none, 1) := by
  unfold readNote
  rw [read_words hl hx hn]
  simp only
  cases x with
  | nil => rfl
  | cons c t =>
    simp only
    rw [if_neg]
    intro h
    rw [h.2] at hg; cases hg
theorem read_fin {s x : List UInt8} {ns : List Int} (hl : (splitC s).length = 7) (hx : (splitC s)[6]? = some x) (hp : Lib.hasPrefix x [61] = true) (hn : numsOf ((splitC s).take 6) = some ns) (hg : within (ns.getD 4 0) 0 1 = true) : readNote s = fin ns (x.drop 1) := by
  unfold readNote
  rw [read_words hl hx hn]
  simp only
  cases x with
  | nil => simp [Lib.hasPrefix] at hp
  | cons c t =>
    simp only
    have hc : c = 61 := by
      have := hp
      simp [Lib.hasPrefix] at this
      exact this.symm
    rw [if_pos ⟨hc, hg⟩]; rfl
end Lk
end Go.Proofs.YtpenkhehceglfaaGreatDoor
/- Plain functions on lists: what the functions of package diff, and of the document's own answers, come to. Nothing of the program is named here. -/
namespace Go.Proofs.YtpenkhehceglfaaGreatDoor
namespace Dk
open Lk
theorem fm_congr {α β : Type} {f g : α → Option β} {l : List α} (h : ∀ x ∈ l, f x = g x) : l.filterMap f = l.filterMap g := by
  induction l with
  | nil => rfl
  | cons a r ih =>
    rw [List.filterMap_cons, List.filterMap_cons, h a (by simp), ih fun x hx => h x (by simp [hx])]
/-- a pin's place in a table -/
def put (t : List Int) (p : Int × Int) : List Int := t.set p.1.toNat p.2
/-- the table that a loop over pins makes -/
def tabOf (l : List (Int × Int)) : List Int := l.foldl put (List.replicate 21 0)
/-- the table by asking -/
def tb (l : List (Int × Int)) : List Int := (List.range 21).map fun (n : Nat) => find (n : Int) l
/-- the pin of a name in a table -/
def pinAt (t : List Int) (n : Nat) : Option (Int × Int) := if t.getD n 0 = 0 then none else some ((n : Int), t.getD n 0)
def pinsTo (t : List Int) (k : Nat) : List (Int × Int) := (List.range k).filterMap (pinAt t)
def pinsOf (t : List Int) : List (Int × Int) := pinsTo t 21
/-- names rise from k on, all within the bounds -/
def srt : Int → List (Int × Int) → Prop
  | _, [] => True
  | k, p :: r => (k ≤ p.1 ∧ p.1 ≤ 20 ∧ 1 ≤ p.2 ∧ p.2 ≤ 99) ∧ srt (p.1 + 1) r
theorem srt_mono {j k : Int} {l : List (Int × Int)} (h : srt k l) (hj : j ≤ k) : srt j l := by
  cases l with
  | nil => trivial
  | cons p r => exact ⟨⟨by have := h.1.1; omega, h.1.2⟩, h.2⟩
theorem srt_of_chk {l : List (Int × Int)} : ∀ {k : Int}, chkFrom k l = 0 → srt (k + 1) l := by
  induction l with
  | nil => intro k _; trivial
  | cons p r ih =>
    intro k h
    rw [chkFrom] at h
    split at h
    · rename_i hok
      split at h
      · cases h
      · simp [okPin] at hok
        exact ⟨⟨by omega, by omega, by omega, by omega⟩, ih h⟩
    · cases h
theorem chk_of_srt {l : List (Int × Int)} : ∀ {k : Int}, 0 ≤ k → srt (k + 1) l → chkFrom k l = 0 := by
  induction l with
  | nil => intro k _ _; rfl
  | cons p r ih =>
    intro k hk h
    obtain ⟨⟨h1, h2, h3, h4⟩, h5⟩ := h
    rw [chkFrom, if_pos (by simp [okPin]; omega), if_neg (by omega)]
    exact ih (by omega) h5
theorem chk_srt {l : List (Int × Int)} (h : chk l = 0) : l.length ≤ 12 ∧ srt 1 l := by
  unfold chk at h
  split at h
  · cases h
  · exact ⟨by omega, srt_of_chk h⟩
theorem srt_chk {l : List (Int × Int)} (h : l.length ≤ 12) (hs : srt 1 l) : chk l = 0 := by
  unfold chk
  rw [if_neg (by omega)]
  exact chk_of_srt (by omega) hs
theorem find_low {l : List (Int × Int)} : ∀ {k n : Int}, srt k l → n < k → find n l = 0 := by
  induction l with
  | nil => intro k n _ _; rfl
  | cons p r ih =>
    intro k n h hn
    have := h.1.1
    rw [find, if_neg (by omega)]
    exact ih h.2 (by omega)
theorem find_range {l : List (Int × Int)} : ∀ {k : Int} (n : Int), srt k l → 0 ≤ find n l ∧ find n l ≤ 99 := by
  induction l with
  | nil => intro k n _; exact ⟨Int.le_refl _, by simp [find]⟩
  | cons p r ih =>
    intro k n h
    have := h.1
    rw [find]
    split
    · omega
    · exact ih n h.2
theorem pins_from (j : Nat) : ∀ (k : Nat) (l : List (Int × Int)), srt k l → k + j = 21 → (List.range' k j).filterMap (fun (n : Nat) => if find (n : Int) l = 0 then none else some ((n : Int), find (n : Int) l)) = l := by
  induction j with
  | zero =>
    intro k l h hk
    cases l with
    | nil => rfl
    | cons p r => have := h.1; omega
  | succ j ih =>
    intro k l h hk
    rw [List.range'_succ, List.filterMap_cons]
    cases l with
    | nil =>
      simp [find]
    | cons p r =>
      obtain ⟨⟨h1, h2, h3, h4⟩, h5⟩ := h
      by_cases e : p.1 = (k : Int)
      · have e1 : find (k : Int) (p :: r) = p.2 := by rw [find, if_pos e]
        have hr := ih (k + 1) r (srt_mono h5 (by omega)) (by omega)
        rw [e1, if_neg (by omega)]
        have : (List.range' (k + 1) j).filterMap (fun (n : Nat) => if find (n : Int) (p :: r) = 0 then none else some ((n : Int), find (n : Int) (p :: r))) = (List.range' (k + 1) j).filterMap (fun (n : Nat) => if find (n : Int) r = 0 then none else some ((n : Int), find (n : Int) r)) := by
          refine fm_congr fun n hn => ?_
          have hn' := (List.mem_range'_1.1 hn).1
          rw [show find (n : Int) (p :: r) = find (n : Int) r from by rw [find, if_neg (by omega)]]
        simp only [this, hr]
        obtain ⟨a, b⟩ := p
        simp only at e
        rw [e]
      · have e1 : find (k : Int) (p :: r) = 0 := by
          rw [find, if_neg e]; exact find_low h5 (by omega)
        rw [e1, if_pos rfl]
        exact ih (k + 1) (p :: r) ⟨⟨by omega, h2, h3, h4⟩, h5⟩ (by omega)
theorem tb_len (l : List (Int × Int)) : (tb l).length = 21 := by simp [tb]
theorem tb_get (l : List (Int × Int)) (n : Nat) (h : n < 21) : (tb l).getD n 0 = find (n : Int) l := by
  simp [tb, List.getD_eq_getElem?_getD, h]
theorem pinsOf_tb {l : List (Int × Int)} (h : srt 1 l) : pinsOf (tb l) = l := by
  have := pins_from 21 0 l (srt_mono h (by decide)) rfl
  rw [← List.range_eq_range'] at this
  rw [pinsOf, pinsTo]
  conv => rhs; rw [← this]
  refine fm_congr fun n hn => ?_
  rw [pinAt, tb_get l n (by simpa using hn)]
theorem foldl_put_len (l : List (Int × Int)) : ∀ t : List Int, (l.foldl put t).length = t.length := by
  induction l with
  | nil => intro t; rfl
  | cons p r ih => intro t; rw [List.foldl_cons, ih]; simp [put]
theorem foldl_put_get {l : List (Int × Int)} : ∀ {k : Int} (t : List Int) (n : Nat), 0 ≤ k → srt k l → n < t.length → (l.foldl put t).getD n 0 = if find (n : Int) l = 0 then t.getD n 0 else find (n : Int) l := by
  induction l with
  | nil => intro k t n _ _ _; simp [find]
  | cons p r ih =>
    intro k t n hk h hn
    obtain ⟨⟨h1, h2, h3, h4⟩, h5⟩ := h
    rw [List.foldl_cons, ih (put t p) n (by omega) h5 (by simpa [put] using hn), find]
    by_cases e : p.1 = (n : Int)
    · have e0 : find (n : Int) r = 0 := find_low h5 (by omega)
      rw [if_pos e0, if_pos e, if_neg (by omega)]
      have : p.1.toNat = n := by omega
      simp [put, List.getD_eq_getElem?_getD, this, hn]
    · rw [if_neg e]
      have : p.1.toNat ≠ n := by omega
      split
      · simp [put, List.getD_eq_getElem?_getD, List.getElem?_set_ne this]
      · rfl
theorem list_ext21 {s t : List Int} (hs : s.length = 21) (ht : t.length = 21) (h : ∀ n, n < 21 → s.getD n 0 = t.getD n 0) : s = t := by
  refine List.ext_getElem (by omega) fun j h1 h2 => ?_
  have := h j (by omega)
  rwa [List.getD_eq_getElem?_getD, List.getD_eq_getElem?_getD, List.getElem?_eq_getElem h1, List.getElem?_eq_getElem h2] at this
theorem tabOf_len (l : List (Int × Int)) : (tabOf l).length = 21 := by rw [tabOf, foldl_put_len]; simp
theorem tabOf_tb {l : List (Int × Int)} (h : srt 1 l) : tabOf l = tb l := by
  refine list_ext21 (tabOf_len l) (tb_len l) fun n hn => ?_
  rw [tabOf, foldl_put_get _ n (by decide) h (by simpa using hn), tb_get l n hn]
  split
  · rename_i e; rw [e, List.getD_eq_getElem?_getD, List.getElem?_replicate, if_pos hn]; rfl
  · rfl
/-- a table that is a lock's, but for how many there are -/
def okTab (t : List Int) : Prop := t.length = 21 ∧ t.getD 0 0 = 0 ∧ ∀ n, n < 21 → 0 ≤ t.getD n 0 ∧ t.getD n 0 ≤ 99
theorem okTab_tb {l : List (Int × Int)} (h : srt 1 l) : okTab (tb l) :=
  ⟨tb_len l, by rw [tb_get l 0 (by decide)]; exact find_low h (by decide), fun n hn => by rw [tb_get l n hn]; exact find_range _ h⟩
theorem srt_pins (t : List Int) (ht : okTab t) (j : Nat) : ∀ k : Nat, 1 ≤ k → k + j = 21 → srt k ((List.range' k j).filterMap (pinAt t)) := by
  induction j with
  | zero => intro k _ _; trivial
  | succ j ih =>
    intro k h1 hk
    rw [List.range'_succ, List.filterMap_cons]
    have hr := ih (k + 1) (by omega) (by omega)
    unfold pinAt
    split
    · rename_i e
      exact srt_mono hr (by omega)
    · rename_i e
      split at e
      · cases e
      · cases e
        have := ht.2.2 k (by omega)
        exact ⟨⟨by omega, by omega, by omega, by omega⟩, hr⟩
theorem srt_pinsOf {t : List Int} (ht : okTab t) : srt 1 (pinsOf t) := by
  rw [pinsOf, pinsTo, List.range_eq_range', List.range'_succ, List.filterMap_cons]
  have : pinAt t 0 = none := by rw [pinAt, if_pos ht.2.1]
  rw [this]
  exact srt_pins t ht 20 1 (by decide) rfl
theorem find_pins (t : List Int) (n : Nat) (j : Nat) : ∀ k : Nat, find (n : Int) ((List.range' k j).filterMap (pinAt t)) = if k ≤ n ∧ n < k + j then t.getD n 0 else 0 := by
  induction j with
  | zero => intro k; rw [if_neg (by omega)]; rfl
  | succ j ih =>
    intro k
    rw [List.range'_succ, List.filterMap_cons]
    by_cases e0 : t.getD k 0 = 0
    · rw [show pinAt t k = none from by rw [pinAt, if_pos e0]]
      simp only []
      rw [ih (k + 1)]
      by_cases e : k = n
      · subst e; rw [if_neg (by omega), if_pos (by omega), e0]
      · by_cases h : k ≤ n ∧ n < k + (j + 1)
        · rw [if_pos h, if_pos (by omega)]
        · rw [if_neg h, if_neg (by omega)]
    · rw [show pinAt t k = some ((k : Int), t.getD k 0) from by rw [pinAt, if_neg e0]]
      simp only [find]
      by_cases e : k = n
      · subst e; rw [if_pos rfl, if_pos (by omega)]
      · rw [if_neg (by omega), ih (k + 1)]
        by_cases h : k ≤ n ∧ n < k + (j + 1)
        · rw [if_pos h, if_pos (by omega)]
        · rw [if_neg h, if_neg (by omega)]
theorem tb_pinsOf {t : List Int} (ht : t.length = 21) : tb (pinsOf t) = t := by
  refine list_ext21 (tb_len _) ht fun n hn => ?_
  rw [tb_get _ n hn, pinsOf, pinsTo, List.range_eq_range', find_pins t n 21 0, if_pos (by omega)]
/-- two locks with one table are the same -/
theorem tb_inj {l m : List (Int × Int)} (hl : srt 1 l) (hm : srt 1 m) (h : tb l = tb m) : l = m := by
  rw [← pinsOf_tb hl, ← pinsOf_tb hm, h]

/-- the step of a name that goes -/
def dropAt (A B : List Int) (n : Nat) : Option (Int × Int × Int) := if A.getD n 0 = B.getD n 0 then none else if B.getD n 0 = 0 then some (2, (n : Int), 0) else none
/-- the step of a name that comes or turns -/
def restAt (A B : List Int) (n : Nat) : Option (Int × Int × Int) := if A.getD n 0 = B.getD n 0 then none else if B.getD n 0 = 0 then none else if A.getD n 0 = 0 then some (1, (n : Int), B.getD n 0) else some (3, (n : Int), B.getD n 0)
def drops (A B : List Int) (k : Nat) : List (Int × Int × Int) := (List.range k).filterMap (dropAt A B)
def rests (A B : List Int) (k : Nat) : List (Int × Int × Int) := (List.range k).filterMap (restAt A B)
/-- all steps from one table to another one -/
def steps (A B : List Int) : List (Int × Int × Int) := drops A B 21 ++ rests A B 21
/-- the program's two loops -/
def goes (B : List Int) (p : Int × Int) : Option (Int × Int × Int) := if B.getD p.1.toNat 0 = 0 then some (2, p.1, 0) else none
def comes (A : List Int) (p : Int × Int) : Option (Int × Int × Int) := if A.getD p.1.toNat 0 = p.2 then none else if A.getD p.1.toNat 0 = 0 then some (1, p.1, p.2) else some (3, p.1, p.2)
theorem goes_all {a : List (Int × Int)} (ha : srt 1 a) (B : List Int) : a.filterMap (goes B) = drops (tb a) B 21 := by
  conv => lhs; rw [← pinsOf_tb ha, pinsOf, pinsTo, List.filterMap_filterMap]
  refine fm_congr fun n hn => ?_
  have e : ∀ x, goes B ((n : Int), x) = if B.getD n 0 = 0 then some (2, (n : Int), 0) else none := fun x => by simp [goes]
  unfold pinAt dropAt
  generalize (tb a).getD n 0 = x
  generalize B.getD n 0 = y at e
  by_cases h1 : x = 0
  · rw [if_pos h1]
    by_cases h2 : y = 0
    · rw [if_pos (by omega)]; rfl
    · rw [if_neg (by omega), if_neg h2]; rfl
  · rw [if_neg h1]
    show goes B ((n : Int), x) = _
    rw [e]
    by_cases h2 : y = 0
    · rw [if_pos h2, if_neg (by omega)]
    · rw [if_neg h2, ite_self]
theorem comes_all {b : List (Int × Int)} (hb : srt 1 b) (A : List Int) : b.filterMap (comes A) = rests A (tb b) 21 := by
  conv => lhs; rw [← pinsOf_tb hb, pinsOf, pinsTo, List.filterMap_filterMap]
  refine fm_congr fun n hn => ?_
  have e : ∀ x, comes A ((n : Int), x) = if A.getD n 0 = x then none else if A.getD n 0 = 0 then some (1, (n : Int), x) else some (3, (n : Int), x) := fun x => by simp [comes]
  unfold pinAt restAt
  generalize (tb b).getD n 0 = y
  generalize A.getD n 0 = x at e
  by_cases h1 : y = 0
  · rw [if_pos h1, if_pos h1, ite_self]; rfl
  · rw [if_neg h1, if_neg h1]
    exact e y
theorem fm_next {β : Type} (f : Nat → Option β) (k : Nat) : (List.range (k + 1)).filterMap f = (List.range k).filterMap f ++ (f k).toList := by
  rw [List.range_succ, List.filterMap_append]
  cases h : f k <;> simp [h]
theorem fm_len {β : Type} (f : Nat → Option β) (k : Nat) : ((List.range k).filterMap f).length ≤ k := by
  have := List.length_filterMap_le f (List.range k)
  rwa [List.length_range] at this
theorem pinsTo_none {t : List Int} {k : Nat} (h : t.getD k 0 = 0) : pinsTo t (k + 1) = pinsTo t k := by
  rw [pinsTo, fm_next, pinAt, if_pos h]; simp [pinsTo]
theorem pinsTo_some {t : List Int} {k : Nat} {v : Int} (h : t.getD k 0 = v) (h0 : v ≠ 0) : pinsTo t (k + 1) = pinsTo t k ++ [((k : Int), v)] := by
  rw [pinsTo, fm_next, pinAt, if_neg (by rw [h]; exact h0), h]; rfl
end Dk
end Go.Proofs.YtpenkhehceglfaaGreatDoor
/- Of steps from one table to another one: done one after the other they leave the rest, and each lock in between is one. Nothing of the program is named here. -/
namespace Go.Proofs.YtpenkhehceglfaaGreatDoor
namespace Dk
open Lk
/-- a step's place in a table -/
def putO (t : List Int) (o : Int × Int × Int) : List Int := t.set o.2.1.toNat o.2.2
theorem putO_len (t : List Int) (o : Int × Int × Int) : (putO t o).length = t.length := by simp [putO]
theorem putO_get (t : List Int) (o : Int × Int × Int) (n : Nat) (h : n < t.length) : (putO t o).getD n 0 = if o.2.1.toNat = n then o.2.2 else t.getD n 0 := by
  unfold putO
  by_cases e : o.2.1.toNat = n
  · rw [if_pos e, List.getD_eq_getElem?_getD, e, List.getElem?_set_self h]; rfl
  · rw [if_neg e, List.getD_eq_getElem?_getD, List.getElem?_set_ne e, ← List.getD_eq_getElem?_getD]
theorem fm_strike {β : Type} {f g : Nat → Option β} {m : Nat} {o : β} (hm : f m = some o) (hi : ∀ n, f n = some o → n = m) (hg : g m = none) (hn : ∀ n, n ≠ m → g n = f n) :
    ∀ (l : List Nat) (r : List β), l.Nodup → l.filterMap f = o :: r → l.filterMap g = r := by
  intro l
  induction l with
  | nil => intro r _ h; cases h
  | cons x q ih =>
    intro r hd h
    rw [List.nodup_cons] at hd
    rw [List.filterMap_cons] at h ⊢
    cases hx : f x with
    | none =>
      rw [hx] at h
      have : x ≠ m := fun e => by rw [e, hm] at hx; cases hx
      rw [hn x this, hx]
      exact ih r hd.2 h
    | some y =>
      rw [hx] at h
      simp only [List.cons.injEq] at h
      have e : x = m := hi x (by rw [hx, h.1])
      rw [e, hg, ← h.2]
      refine fm_congr fun z hz => hn z fun e' => hd.1 ?_
      rw [e, ← e']; exact hz
theorem fm_nil {α β : Type} {f : α → Option β} {l : List α} (h : l.filterMap f = []) : ∀ x ∈ l, f x = none := by
  induction l with
  | nil => intro x hx; cases hx
  | cons a r ih =>
    intro x hx
    rw [List.filterMap_cons] at h
    cases ha : f a with
    | some y => rw [ha] at h; cases h
    | none =>
      rw [ha] at h
      rcases List.mem_cons.1 hx with rfl | hx
      · exact ha
      · exact ih h x hx
theorem dropAt_some {A B : List Int} {n : Nat} {o : Int × Int × Int} (h : dropAt A B n = some o) : o = (2, (n : Int), 0) ∧ B.getD n 0 = 0 ∧ A.getD n 0 ≠ 0 := by
  unfold dropAt at h
  split at h
  · cases h
  · split at h
    · cases h; exact ⟨rfl, by assumption, by omega⟩
    · cases h
theorem restAt_some {A B : List Int} {n : Nat} {o : Int × Int × Int} (h : restAt A B n = some o) : o = ((if A.getD n 0 = 0 then 1 else 3), (n : Int), B.getD n 0) ∧ B.getD n 0 ≠ 0 ∧ A.getD n 0 ≠ B.getD n 0 := by
  unfold restAt at h
  split at h
  · cases h
  · split at h
    · cases h
    · split at h
      · cases h; rename_i e; exact ⟨by rw [if_pos e], by assumption, by assumption⟩
      · cases h; rename_i e; exact ⟨by rw [if_neg e], by assumption, by assumption⟩
theorem mem_drops {A B : List Int} {k : Nat} {o : Int × Int × Int} (h : o ∈ drops A B k) : ∃ n : Nat, n < k ∧ dropAt A B n = some o := by
  obtain ⟨n, hn, e⟩ := List.mem_filterMap.1 h
  exact ⟨n, by simpa using hn, e⟩
theorem mem_rests {A B : List Int} {k : Nat} {o : Int × Int × Int} (h : o ∈ rests A B k) : ∃ n : Nat, n < k ∧ restAt A B n = some o := by
  obtain ⟨n, hn, e⟩ := List.mem_filterMap.1 h
  exact ⟨n, by simpa using hn, e⟩
/-- what each step says -/
theorem mem_steps {A B : List Int} {o : Int × Int × Int} (h : o ∈ steps A B) : ∃ n : Nat, n < 21 ∧ o = ((if B.getD n 0 = 0 then 2 else if A.getD n 0 = 0 then 1 else 3), (n : Int), B.getD n 0) ∧ A.getD n 0 ≠ B.getD n 0 := by
  rcases List.mem_append.1 h with h | h
  · obtain ⟨n, hn, e⟩ := mem_drops h
    obtain ⟨h1, h2, h3⟩ := dropAt_some e
    exact ⟨n, hn, by rw [if_pos h2, h1, h2], by omega⟩
  · obtain ⟨n, hn, e⟩ := mem_rests h
    obtain ⟨h1, h2, h3⟩ := restAt_some e
    exact ⟨n, hn, by rw [if_neg h2, h1], h3⟩
theorem steps_nil {A B : List Int} (hA : A.length = 21) (hB : B.length = 21) (h : steps A B = []) : A = B := by
  rw [steps, List.append_eq_nil_iff] at h
  refine list_ext21 hA hB fun n hn => ?_
  have h1 := fm_nil h.1 n (by simpa using hn)
  have h2 := fm_nil h.2 n (by simpa using hn)
  unfold dropAt at h1
  unfold restAt at h2
  split at h1
  · assumption
  · rename_i e
    rw [if_neg e] at h2
    split at h1
    · cases h1
    · rename_i e2
      rw [if_neg e2] at h2
      split at h2 <;> cases h2
theorem steps_self (A : List Int) : steps A A = [] := by
  cases h : steps A A with
  | nil => rfl
  | cons o r =>
    obtain ⟨n, _, _, h⟩ := mem_steps (A := A) (B := A) (o := o) (by rw [h]; simp)
    exact absurd rfl h
/-- one step done leaves the others -/
theorem steps_cons {A B : List Int} (hA : A.length = 21) {o : Int × Int × Int} {r : List (Int × Int × Int)} (h : steps A B = o :: r) : steps (putO A o) B = r := by
  have hn : ∀ n m : Nat, n ≠ m → o.2.1 = (m : Int) → (putO A o).getD n 0 = A.getD n 0 := fun n m e e1 => by
    unfold putO
    rw [List.getD_eq_getElem?_getD, List.getElem?_set_ne (by omega), ← List.getD_eq_getElem?_getD]
  have hm : ∀ m : Nat, m < 21 → o.2.1 = (m : Int) → (putO A o).getD m 0 = o.2.2 := fun m hm e1 => by
    rw [putO_get A o m (by omega), if_pos (by omega)]
  rw [steps] at h
  cases hd : drops A B 21 with
  | nil =>
    rw [hd, List.nil_append] at h
    obtain ⟨m, hm1, hm2⟩ := mem_rests (A := A) (B := B) (k := 21) (o := o) (by rw [h]; simp)
    obtain ⟨e1, e2, e3⟩ := restAt_some hm2
    have eo : o.2.1 = (m : Int) := by rw [e1]
    have ev : o.2.2 = B.getD m 0 := by rw [e1]
    have d' : drops (putO A o) B 21 = [] := by
      rw [← hd]
      refine fm_congr fun n _ => ?_
      unfold dropAt
      by_cases e : n = m
      · subst e; rw [if_neg e2, ite_self, ite_self]
      · rw [hn n m e eo]
    rw [steps, d', List.nil_append]
    refine fm_strike hm2 ?_ ?_ ?_ _ _ List.nodup_range h
    · intro n hn'
      obtain ⟨e1', _, _⟩ := restAt_some hn'
      have : (n : Int) = m := by rw [← eo, e1']
      omega
    · unfold restAt; rw [hm m hm1 eo, ev, if_pos rfl]
    · intro n e; unfold restAt; rw [hn n m e eo]
  | cons o' d =>
    rw [hd, List.cons_append] at h
    simp only [List.cons.injEq] at h
    obtain ⟨rfl, h⟩ := h
    obtain ⟨m, hm1, hm2⟩ := mem_drops (A := A) (B := B) (k := 21) (o := o') (by rw [hd]; simp)
    obtain ⟨e1, e2, e3⟩ := dropAt_some hm2
    have eo : o'.2.1 = (m : Int) := by rw [e1]
    have ev : o'.2.2 = B.getD m 0 := by rw [e1, e2]
    have d' : drops (putO A o') B 21 = d := by
      refine fm_strike hm2 ?_ ?_ ?_ _ _ List.nodup_range hd
      · intro n hn'
        obtain ⟨e1', _, _⟩ := dropAt_some hn'
        have : (n : Int) = m := by rw [← eo, e1']
        omega
      · unfold dropAt; rw [hm m hm1 eo, ev, if_pos rfl]
      · intro n e; unfold dropAt; rw [hn n m e eo]
    have r' : rests (putO A o') B 21 = rests A B 21 := by
      refine fm_congr fun n _ => ?_
      unfold restAt
      by_cases e : n = m
      · subst e; rw [if_pos e2, ite_self, if_pos e2, ite_self]
      · rw [hn n m e eo]
    rw [steps, d', r', h]
theorem fm_len_le {f g : Nat → Option (Int × Int)} {l : List Nat} (h : ∀ n ∈ l, (f n).isSome = true → (g n).isSome = true) : (l.filterMap f).length ≤ (l.filterMap g).length := by
  induction l with
  | nil => simp
  | cons x q ih =>
    have ihq := ih fun n hn => h n (by simp [hn])
    have hx := h x (by simp)
    rw [List.filterMap_cons, List.filterMap_cons]
    cases hf : f x with
    | none =>
      cases g x with
      | none => exact ihq
      | some b => exact Nat.le_succ_of_le ihq
    | some a =>
      rw [hf] at hx
      obtain ⟨b, hb⟩ := Option.isSome_iff_exists.1 (hx rfl)
      rw [hb]
      exact Nat.succ_le_succ ihq
theorem fm_len_lt {f g : Nat → Option (Int × Int)} {l : List Nat} (h : ∀ n ∈ l, (f n).isSome = true → (g n).isSome = true) {m : Nat} (hm : m ∈ l) (hf : f m = none) (hg : (g m).isSome = true) : (l.filterMap f).length < (l.filterMap g).length := by
  induction l with
  | nil => cases hm
  | cons x q ih =>
    have hx := h x (by simp)
    have hq : ∀ n ∈ q, (f n).isSome = true → (g n).isSome = true := fun n hn => h n (by simp [hn])
    rw [List.filterMap_cons, List.filterMap_cons]
    by_cases e : x = m
    · obtain ⟨b, hb⟩ := Option.isSome_iff_exists.1 hg
      rw [e, hf, hb]
      exact Nat.lt_succ_of_le (fm_len_le hq)
    · have ihq := ih hq (by rcases List.mem_cons.1 hm with h | h; exact absurd h.symm e; exact h)
      cases hf : f x with
      | none =>
        cases g x with
        | none => exact ihq
        | some b => exact Nat.lt_succ_of_lt ihq
      | some a =>
        rw [hf] at hx
        obtain ⟨b, hb⟩ := Option.isSome_iff_exists.1 (hx rfl)
        rw [hb]
        exact Nat.succ_lt_succ ihq
theorem pinAt_some (t : List Int) (n : Nat) : (pinAt t n).isSome = true ↔ t.getD n 0 ≠ 0 := by
  unfold pinAt
  split
  · rename_i h; exact ⟨(fun e => by cases e), fun e => absurd h e⟩
  · rename_i h; exact ⟨fun _ => h, fun _ => rfl⟩
theorem pins_le {s t : List Int} (h : ∀ n, n < 21 → s.getD n 0 ≠ 0 → t.getD n 0 ≠ 0) : (pinsOf s).length ≤ (pinsOf t).length :=
  fm_len_le fun n hn hs => (pinAt_some t n).2 (h n (by simpa using hn) ((pinAt_some s n).1 hs))
theorem pins_lt {s t : List Int} (h : ∀ n, n < 21 → s.getD n 0 ≠ 0 → t.getD n 0 ≠ 0) {m : Nat} (hm : m < 21) (h1 : s.getD m 0 = 0) (h2 : t.getD m 0 ≠ 0) : (pinsOf s).length < (pinsOf t).length :=
  fm_len_lt (fun n hn hs => (pinAt_some t n).2 (h n (by simpa using hn) ((pinAt_some s n).1 hs))) (m := m) (by simpa using hm) (by rw [pinAt, if_pos h1]) ((pinAt_some t m).2 h2)
/-- a table of a lock -/
def good (t : List Int) : Prop := okTab t ∧ (pinsOf t).length ≤ 12
theorem good_chk {t : List Int} (h : good t) : chk (pinsOf t) = 0 := srt_chk h.2 (srt_pinsOf h.1)
theorem good_tb {l : List (Int × Int)} (h : chk l = 0) : good (tb l) := by
  obtain ⟨h1, h2⟩ := chk_srt h
  exact ⟨okTab_tb h2, by rw [pinsOf_tb h2]; exact h1⟩
theorem pins_tb {l : List (Int × Int)} (h : chk l = 0) : pinsOf (tb l) = l := pinsOf_tb (chk_srt h).2
/-- the next step, and what it does -/
theorem step_first {A B : List Int} (hA : good A) (hB : good B) {o : Int × Int × Int} {r : List (Int × Int × Int)} (h : steps A B = o :: r) :
    ∃ n : Nat, 1 ≤ n ∧ n ≤ 20 ∧ o = ((if B.getD n 0 = 0 then 2 else if A.getD n 0 = 0 then 1 else 3), (n : Int), B.getD n 0) ∧ A.getD n 0 ≠ B.getD n 0 ∧ good (putO A o) ∧ (A.getD n 0 = 0 → (pinsOf A).length < 12) := by
  obtain ⟨n, hn, ho, hne⟩ := mem_steps (A := A) (B := B) (o := o) (by rw [h]; simp)
  have h1 : 1 ≤ n := by
    rcases Nat.eq_zero_or_pos n with e | e
    · subst e; exact absurd (hA.1.2.1.trans hB.1.2.1.symm) hne
    · exact e
  have hl : A.length = 21 := hA.1.1
  have eo : o.2.1.toNat = n := by rw [ho]; simp
  have ev : o.2.2 = B.getD n 0 := by rw [ho]
  have hok : okTab (putO A o) := by
    refine ⟨by rw [putO_len]; exact hl, ?_, fun k hk => ?_⟩
    · rw [putO_get A o 0 (by omega), if_neg (by omega)]; exact hA.1.2.1
    · rw [putO_get A o k (by omega)]
      split
      · rename_i e; rw [ev]; exact hB.1.2.2 n hn
      · exact hA.1.2.2 k hk
  by_cases e2 : B.getD n 0 = 0
  · refine ⟨n, h1, by omega, ho, hne, ⟨hok, ?_⟩, fun h => by omega⟩
    refine Nat.le_trans (pins_le (t := A) fun k hk hs => ?_) hA.2
    rw [putO_get A o k (by omega)] at hs
    split at hs
    · rw [ev] at hs; exact absurd e2 hs
    · exact hs
  · have hd : drops A B 21 = [] := by
      rw [steps] at h
      cases hd : drops A B 21 with
      | nil => rfl
      | cons o' d =>
        exfalso
        rw [hd, List.cons_append] at h
        simp only [List.cons.injEq] at h
        obtain ⟨m, hm1, hm2⟩ := mem_drops (A := A) (B := B) (k := 21) (o := o') (by rw [hd]; simp)
        obtain ⟨e1, e2', e3⟩ := dropAt_some hm2
        have : (m : Int) = n := by
          have h1 : o'.2.1 = (m : Int) := by rw [e1]
          have h2 : o.2.1 = (n : Int) := by rw [ho]
          rw [← h1, ← h2, h.1]
        have : m = n := by omega
        subst this
        exact e2 e2'
    have hz : ∀ k, k < 21 → A.getD k 0 ≠ 0 → B.getD k 0 ≠ 0 := fun k hk ha hb => by
      have := fm_nil hd k (by simpa using hk)
      unfold dropAt at this
      rw [if_neg (by omega), if_pos hb] at this
      cases this
    refine ⟨n, h1, by omega, ho, hne, ⟨hok, ?_⟩, fun ha => Nat.lt_of_lt_of_le (pins_lt hz hn ha e2) hB.2⟩
    refine Nat.le_trans (pins_le (t := B) fun k hk hs => ?_) hB.2
    rw [putO_get A o k (by omega)] at hs
    split at hs
    · rename_i e; rw [← e, eo]; exact e2
    · exact hz k hk hs
/-- what is wrong with a step -/
def opErr (o : Int × Int × Int) : Int :=
  if 1 ≤ o.1 ∧ o.1 ≤ 3 then (if (1 ≤ o.2.1 ∧ o.2.1 ≤ 20) ∧ (if o.1 = 2 then o.2.2 = 0 else 1 ≤ o.2.2 ∧ o.2.2 ≤ 99) then 0 else 3) else 4
/-- why a step can't be done to l -/
def fitErr (l : List (Int × Int)) (o : Int × Int × Int) : Int :=
  if find o.2.1 l = 0 then (if o.1 = 1 then (if 12 ≤ l.length then 2 else 0) else 5) else (if o.1 = 1 then 6 else 0)
def applyErr (l : List (Int × Int)) (o : Int × Int × Int) : Int := if chk l = 0 then (if opErr o = 0 then fitErr l o else opErr o) else chk l
def applied (l : List (Int × Int)) (o : Int × Int × Int) : List (Int × Int) := if applyErr l o = 0 then pinsOf (putO (tb l) o) else []
def diffErr (a b : List (Int × Int)) : Int := if chk a = 0 then chk b else chk a
def diffed (a b : List (Int × Int)) : List (Int × Int × Int) := if diffErr a b = 0 then steps (tb a) (tb b) else []
/-- after how many steps a table is another one -/
def wayFrom (t L : List Int) : List (Int × Int × Int) → Int → Int
  | [], k => if t = L then k else -1
  | o :: r, k => if t = L then k else wayFrom (putO t o) L r (k + 1)
def betweenErr (a b l : List (Int × Int)) : Int := if diffErr a b = 0 then chk l else diffErr a b
def between (a b l : List (Int × Int)) : Int := if betweenErr a b l = 0 then wayFrom (tb a) (tb l) (steps (tb a) (tb b)) 0 else 0
theorem apply_step {A B : List Int} (hA : good A) (hB : good B) {o : Int × Int × Int} {r : List (Int × Int × Int)} (h : steps A B = o :: r) :
    applyErr (pinsOf A) o = 0 ∧ applied (pinsOf A) o = pinsOf (putO A o) ∧ good (putO A o) := by
  obtain ⟨n, h1, h2, ho, hne, hg, hl⟩ := step_first hA hB h
  have hc := good_chk hA
  have hf : find o.2.1 (pinsOf A) = A.getD n 0 := by
    rw [ho]
    show find (n : Int) (pinsOf A) = _
    rw [← tb_get (pinsOf A) n (by omega), tb_pinsOf hA.1.1]
  have he : opErr o = 0 := by
    have hb := hB.1.2.2 n (by omega)
    unfold opErr
    rw [ho]
    by_cases e : B.getD n 0 = 0
    · simp only [if_pos e]; rw [if_pos (by omega), if_pos ⟨by omega, by rw [if_pos trivial]; exact e⟩]
    · simp only [if_neg e]
      by_cases e' : A.getD n 0 = 0
      · simp only [if_pos e']; rw [if_pos (by omega), if_pos ⟨by omega, by rw [if_neg (by omega)]; omega⟩]
      · simp only [if_neg e']; rw [if_pos (by omega), if_pos ⟨by omega, by rw [if_neg (by omega)]; omega⟩]
  have hx : fitErr (pinsOf A) o = 0 := by
    unfold fitErr
    rw [hf]
    by_cases e : A.getD n 0 = 0
    · have : o.1 = 1 := by rw [ho]; simp only []; rw [if_neg (by omega), if_pos e]
      rw [if_pos e, if_pos this, if_neg (by have := hl e; omega)]
    · have : o.1 ≠ 1 := by
        rw [ho]; simp only []; rw [if_neg e]; split <;> decide
      rw [if_neg e, if_neg this]
  have ha : applyErr (pinsOf A) o = 0 := by rw [applyErr, if_pos hc, if_pos he, hx]
  exact ⟨ha, by rw [applied, if_pos ha, tb_pinsOf hA.1.1], hg⟩
/-- steps that are done -/
def after (t : List Int) (os : List (Int × Int × Int)) : List Int := os.foldl putO t
theorem after_take (t : List Int) (os : List (Int × Int × Int)) (i : Nat) (o : Int × Int × Int) (h : os[i]? = some o) : after t (os.take (i + 1)) = putO (after t (os.take i)) o := by
  rw [List.take_add_one, h, after, List.foldl_append]; rfl
theorem drop_cons {α : Type} {os : List α} {i : Nat} {o : α} (h : os[i]? = some o) : os.drop i = o :: os.drop (i + 1) := by
  obtain ⟨hi, e⟩ := List.getElem?_eq_some_iff.1 h
  rw [List.drop_eq_getElem_cons hi, e]
/-- all on the way: the table behind i steps is a lock's, and the steps from there are the rest -/
theorem on_way {A B : List Int} (hA : good A) (hB : good B) : ∀ i, i ≤ (steps A B).length → good (after A ((steps A B).take i)) ∧ steps (after A ((steps A B).take i)) B = (steps A B).drop i := by
  intro i
  induction i with
  | zero => intro _; exact ⟨hA, rfl⟩
  | succ i ih =>
    intro hi
    obtain ⟨h1, h2⟩ := ih (by omega)
    have hs : (steps A B)[i]? = some (steps A B)[i] := List.getElem?_eq_getElem (by omega)
    rw [after_take A _ i _ hs]
    rw [drop_cons hs] at h2
    exact ⟨(apply_step h1 hB h2).2.2, steps_cons h1.1.1 h2⟩
theorem way_at {A B : List Int} (hA : good A) (hB : good B) (i : Nat) (hi : i ≤ (steps A B).length) : ∀ j k : Nat, j + k = i → wayFrom (after A ((steps A B).take j)) (after A ((steps A B).take i)) ((steps A B).drop j) j = i := by
  intro j k
  induction k generalizing j with
  | zero =>
    intro h
    have : j = i := by omega
    subst this
    cases (steps A B).drop j with
    | nil => rw [wayFrom, if_pos rfl]
    | cons o r => rw [wayFrom, if_pos rfl]
  | succ k ih =>
    intro h
    have hs : (steps A B)[j]? = some (steps A B)[j] := List.getElem?_eq_getElem (by omega)
    rw [drop_cons hs, wayFrom, if_neg, ← after_take A _ j _ hs]
    · exact ih (j + 1) (by omega)
    · intro e
      have h1 := (on_way hA hB j (by omega)).2
      rw [e, (on_way hA hB i hi).2] at h1
      have := congrArg List.length h1
      simp only [List.length_drop] at this
      omega
/-- where it isn't on the way, it is neither end -/
theorem way_not {A B L : List Int} (hA : good A) (hB : good B) (h : wayFrom A L (steps A B) 0 = -1) : L ≠ A ∧ L ≠ B := by
  constructor
  · intro e
    have := way_at hA hB 0 (Nat.zero_le _) 0 0 rfl
    simp only [List.take_zero, List.drop_zero] at this
    rw [e] at h
    have e2 : wayFrom A A (steps A B) 0 = 0 := this
    omega
  · intro e
    have := way_at hA hB (steps A B).length (Nat.le_refl _) 0 (steps A B).length (by omega)
    have hw := on_way hA hB (steps A B).length (Nat.le_refl _)
    rw [List.drop_length] at hw
    have e3 : after A ((steps A B).take (steps A B).length) = B := steps_nil hw.1.1.1 hB.1.1 hw.2
    rw [e3] at this
    simp only [List.take_zero, List.drop_zero] at this
    rw [e] at h
    have e2 : wayFrom A B (steps A B) 0 = ((steps A B).length : Int) := this
    omega
/-- a step that was done leaves at most one step back -/
theorem undone {A : List Int} (hA : good A) {o : Int × Int × Int} (hg : good (putO A o)) :
    (steps (putO A o) A = [] ∧ putO A o = A) ∨ ∃ q, steps (putO A o) A = [q] ∧ putO (putO A o) q = A := by
  cases h : steps (putO A o) A with
  | nil => exact .inl ⟨rfl, steps_nil hg.1.1 hA.1.1 h⟩
  | cons q r =>
    obtain ⟨n, _, _, hq, hne, hg2, _⟩ := step_first hg hA h
    have e1 : q.2.1.toNat = n := by rw [hq]; simp
    have e2 : q.2.2 = A.getD n 0 := by rw [hq]
    have hl : A.length = 21 := hA.1.1
    have hl2 : (putO A o).length = 21 := hg.1.1
    have en : o.2.1.toNat = n := by
      rcases Decidable.em (o.2.1.toNat = n) with e | e
      · exact e
      · exfalso
        apply hne
        unfold putO
        rw [List.getD_eq_getElem?_getD, List.getElem?_set_ne e, ← List.getD_eq_getElem?_getD]
    have hb : putO (putO A o) q = A := by
      refine list_ext21 hg2.1.1 hl fun k hk => ?_
      rw [putO_get _ q k (by omega)]
      split
      · rename_i e; rw [e2, ← e1, e]
      · rw [putO_get A o k (by omega), if_neg (by omega)]
    have := steps_cons hg.1.1 h
    rw [hb, steps_self] at this
    exact .inr ⟨q, by rw [this], hb⟩
end Dk
end Go.Proofs.YtpenkhehceglfaaGreatDoor
/- Of rules and what mends a table by them: the least table that keeps all rules. Plain functions on lists; nothing of the program is named here. -/
namespace Go.Proofs.YtpenkhehceglfaaGreatDoor
namespace Rk
open Lk Dk
/-- a rule: Name, Version, With, Least -/
abbrev Rl := Int × Int × Int × Int
def inR (r : Rl) : Prop := (1 ≤ r.1 ∧ r.1 ≤ 20) ∧ (1 ≤ r.2.2.1 ∧ r.2.2.1 ≤ 20) ∧ (1 ≤ r.2.1 ∧ r.2.1 ≤ 99) ∧ (1 ≤ r.2.2.2 ∧ r.2.2.2 ≤ 99)
instance (r : Rl) : Decidable (inR r) := by unfold inR; exact inferInstance
/-- what is wrong with rules, one by one -/
def rchkFrom : List Rl → Int
  | [] => 0
  | r :: q => if inR r then (if r.2.2.1 = r.1 then 4 else rchkFrom q) else 3
def rchk (l : List Rl) : Int := if 10 < l.length then 2 else rchkFrom l
theorem rchkFrom_ok {l : List Rl} : rchkFrom l = 0 ↔ ∀ r ∈ l, inR r ∧ r.2.2.1 ≠ r.1 := by
  induction l with
  | nil => simp [rchkFrom]
  | cons r q ih =>
    rw [rchkFrom]
    by_cases h : inR r
    · rw [if_pos h]
      by_cases h2 : r.2.2.1 = r.1
      · rw [if_pos h2]
        exact ⟨(fun e => by cases e), fun e => absurd h2 (e r (by simp)).2⟩
      · rw [if_neg h2, ih]
        exact ⟨fun e x hx => by rcases List.mem_cons.1 hx with rfl | hx; exact ⟨h, h2⟩; exact e x hx, fun e x hx => e x (by simp [hx])⟩
    · rw [if_neg h]
      exact ⟨(fun e => by cases e), fun e => absurd (e r (by simp)).1 h⟩
/-- rules that are right -/
def ruleOk (l : List Rl) : Prop := ∀ r ∈ l, inR r
theorem rchk_ok {l : List Rl} (h : rchk l = 0) : l.length ≤ 10 ∧ ruleOk l := by
  unfold rchk at h
  split at h
  · cases h
  · exact ⟨by omega, fun r hr => (rchkFrom_ok.1 h r hr).1⟩
/-- a rule that isn't kept -/
def brk (t : List Int) (r : Rl) : Bool := decide (r.2.1 ≤ t.getD r.1.toNat 0) && decide (t.getD r.2.2.1.toNat 0 < r.2.2.2)
theorem brk_true {t : List Int} {r : Rl} (h : brk t r = true) : r.2.1 ≤ t.getD r.1.toNat 0 ∧ t.getD r.2.2.1.toNat 0 < r.2.2.2 := by
  simpa [brk] using h
theorem brk_false {t : List Int} {r : Rl} (h : brk t r = false) (h1 : r.2.1 ≤ t.getD r.1.toNat 0) : r.2.2.2 ≤ t.getD r.2.2.1.toNat 0 := by
  rcases Int.lt_or_le (t.getD r.2.2.1.toNat 0) r.2.2.2 with h2 | h2
  · have : brk t r = true := by simp only [brk, decide_eq_true h1, decide_eq_true h2]; rfl
    rw [this] at h; cases h
  · exact h2
/-- the number of the first one from k on -/
def firstFrom (t : List Int) : List Rl → Int → Int
  | [], _ => -1
  | r :: q, k => if brk t r = true then k else firstFrom t q (k + 1)
def first (t : List Int) (l : List Rl) : Int := firstFrom t l 0
def kept (t : List Int) (l : List Rl) : Prop := ∀ r ∈ l, brk t r = false
theorem firstFrom_none {t : List Int} {l : List Rl} : ∀ {k : Int}, 0 ≤ k → (firstFrom t l k = -1 ↔ kept t l) := by
  induction l with
  | nil => intro k _; exact ⟨(fun _ _ h => by cases h), fun _ => rfl⟩
  | cons r q ih =>
    intro k hk
    rw [firstFrom]
    by_cases h : brk t r = true
    · rw [if_pos h]
      exact ⟨fun e => by omega, fun e => by rw [e r (by simp)] at h; cases h⟩
    · rw [if_neg h, ih (by omega)]
      have h' : brk t r = false := by simpa using h
      exact ⟨fun e x hx => by rcases List.mem_cons.1 hx with rfl | hx; exact h'; exact e x hx, fun e x hx => e x (by simp [hx])⟩
theorem first_none {t : List Int} {l : List Rl} : first t l = -1 ↔ kept t l := firstFrom_none (by decide)
theorem firstFrom_some {t : List Int} {l : List Rl} : ∀ {k : Nat}, firstFrom t l k ≠ -1 → ∃ j r, l[j]? = some r ∧ brk t r = true ∧ firstFrom t l k = ((k + j : Nat) : Int) := by
  induction l with
  | nil => intro k h; exact absurd rfl h
  | cons r q ih =>
    intro k h
    rw [firstFrom] at h ⊢
    by_cases hb : brk t r = true
    · exact ⟨0, r, rfl, hb, by rw [if_pos hb]; simp⟩
    · rw [if_neg hb] at h ⊢
      obtain ⟨j, x, h1, h2, h3⟩ := ih (k := k + 1) (by simpa using h)
      refine ⟨j + 1, x, by simpa using h1, h2, ?_⟩
      have : firstFrom t q ((k : Int) + 1) = firstFrom t q ((k + 1 : Nat) : Int) := by simp
      rw [this, h3]
      congr 1
      omega
theorem first_some {t : List Int} {l : List Rl} (h : first t l ≠ -1) : ∃ (j : Nat) (r : Rl), l[j]? = some r ∧ brk t r = true ∧ first t l = (j : Int) := by
  obtain ⟨j, r, h1, h2, h3⟩ := firstFrom_some (k := 0) h
  exact ⟨j, r, h1, h2, by rw [first]; simpa using h3⟩
/-- a table is nowhere above another one -/
def le (s t : List Int) : Prop := ∀ n, n < 21 → s.getD n 0 ≤ t.getD n 0
theorem le_refl (s : List Int) : le s s := fun _ _ => Int.le_refl _
theorem le_trans {s t u : List Int} (h : le s t) (k : le t u) : le s u := fun n hn => Int.le_trans (h n hn) (k n hn)
theorem le_antisymm {s t : List Int} (hs : s.length = 21) (ht : t.length = 21) (h : le s t) (k : le t s) : s = t := list_ext21 hs ht fun n hn => Int.le_antisymm (h n hn) (k n hn)
/-- a broken rule is mended -/
def fix (t : List Int) (r : Rl) : List Int := t.set r.2.2.1.toNat r.2.2.2
theorem fix_get (t : List Int) (r : Rl) (n : Nat) (h : n < t.length) : (fix t r).getD n 0 = if r.2.2.1.toNat = n then r.2.2.2 else t.getD n 0 := by
  unfold fix
  by_cases e : r.2.2.1.toNat = n
  · rw [if_pos e, List.getD_eq_getElem?_getD, e, List.getElem?_set_self h]; rfl
  · rw [if_neg e, List.getD_eq_getElem?_getD, List.getElem?_set_ne e, ← List.getD_eq_getElem?_getD]
theorem fix_ok {t : List Int} {r : Rl} (ht : okTab t) (hr : inR r) : okTab (fix t r) := by
  have hl := ht.1
  obtain ⟨h1, h2, h3, h4⟩ := hr
  refine ⟨by rw [fix, List.length_set]; exact hl, ?_, fun n hn => ?_⟩
  · rw [fix_get t r 0 (by omega), if_neg (by omega)]; exact ht.2.1
  · rw [fix_get t r n (by omega)]
    split
    · omega
    · exact ht.2.2 n hn
theorem le_fix {t : List Int} {r : Rl} (ht : t.length = 21) (hb : brk t r = true) : le t (fix t r) := fun n hn => by
  rw [fix_get t r n (by omega)]
  split
  · rename_i e
    have := (brk_true hb).2
    rw [e] at this
    omega
  · exact Int.le_refl _
/-- whatever keeps the rule, and is no less, is no less than what is mended -/
theorem fix_le {t u : List Int} {r : Rl} (ht : t.length = 21) (hr : inR r) (hb : brk t r = true) (h : le t u) (hk : brk u r = false) : le (fix t r) u := fun n hn => by
  rw [fix_get t r n (by omega)]
  split
  · rename_i e
    obtain ⟨h1, h2, h3, h4⟩ := hr
    have h5 := brk_false hk (Int.le_trans (brk_true hb).1 (h r.1.toNat (by omega)))
    rwa [e] at h5
  · exact h n hn
def room (t : List Int) : Nat := ((List.range 21).map fun n => (99 - t.getD n 0).toNat).sum
theorem sum_le {f g : Nat → Nat} {l : List Nat} (h : ∀ n ∈ l, f n ≤ g n) : (l.map f).sum ≤ (l.map g).sum := by
  induction l with
  | nil => simp
  | cons x q ih =>
    have := ih fun n hn => h n (by simp [hn])
    have := h x (by simp)
    simp only [List.map_cons, List.sum_cons]
    omega
theorem sum_lt {f g : Nat → Nat} {l : List Nat} (h : ∀ n ∈ l, f n ≤ g n) {m : Nat} (hm : m ∈ l) (hl : f m < g m) : (l.map f).sum < (l.map g).sum := by
  induction l with
  | nil => cases hm
  | cons x q ih =>
    have hq : ∀ n ∈ q, f n ≤ g n := fun n hn => h n (by simp [hn])
    simp only [List.map_cons, List.sum_cons]
    rcases List.mem_cons.1 hm with rfl | hm
    · have := sum_le hq
      omega
    · have := ih hq hm
      have := h x (by simp)
      omega
theorem fix_room {t : List Int} {r : Rl} (ht : t.length = 21) (hr : inR r) (hb : brk t r = true) : room (fix t r) < room t := by
  obtain ⟨h1, h2, h3, h4⟩ := hr
  have hlt := (brk_true hb).2
  refine sum_lt (m := r.2.2.1.toNat) (fun n hn => ?_) (by simp; omega) ?_
  · rw [fix_get t r n (by simp at hn; omega)]
    split
    · rename_i e; rw [e] at hlt; omega
    · exact Nat.le_refl _
  · rw [fix_get t r _ (by omega), if_pos rfl]
    omega
theorem room_le {t : List Int} (ht : okTab t) : room t ≤ 2079 := by
  have := sum_le (f := fun n => (99 - t.getD n 0).toNat) (g := fun _ => 99) (l := List.range 21) (fun n hn => by
    have := (ht.2.2 n (by simpa using hn)).1
    omega)
  have e : ((List.range 21).map fun _ => 99).sum = 2079 := by decide
  rw [e] at this
  exact this
/-- all that is broken is mended, one after the other -/
def cloF (l : List Rl) : Nat → List Int → List Int
  | 0, t => t
  | f + 1, t => match l.find? (brk t) with
    | none => t
    | some r => cloF l f (fix t r)
def clo (l : List Rl) (t : List Int) : List Int := cloF l 2080 t
theorem cloF_spec {l : List Rl} (hl : ruleOk l) : ∀ (f : Nat) (t : List Int), okTab t → room t < f → okTab (cloF l f t) ∧ le t (cloF l f t) ∧ kept (cloF l f t) l ∧ ∀ u, le t u → kept u l → le (cloF l f t) u := by
  intro f
  induction f with
  | zero => intro t _ h; omega
  | succ f ih =>
    intro t ht h
    rw [cloF]
    cases hf : l.find? (brk t) with
    | none =>
      refine ⟨ht, le_refl t, fun r hr => ?_, fun u hu _ => hu⟩
      have := List.find?_eq_none.1 hf r hr
      simpa using this
    | some r =>
      have hb : brk t r = true := List.find?_some hf
      have hr := hl r (List.mem_of_find?_eq_some hf)
      have hlt := fix_room ht.1 hr hb
      obtain ⟨h1, h2, h3, h4⟩ := ih (fix t r) (fix_ok ht hr) (by omega)
      exact ⟨h1, le_trans (le_fix ht.1 hb) h2, h3, fun u hu hk => h4 u (fix_le ht.1 hr hb hu (hk r (List.mem_of_find?_eq_some hf))) hk⟩
theorem clo_spec {l : List Rl} (hl : ruleOk l) {t : List Int} (ht : okTab t) : okTab (clo l t) ∧ le t (clo l t) ∧ kept (clo l t) l ∧ ∀ u, le t u → kept u l → le (clo l t) u :=
  cloF_spec hl 2080 t ht (by have := room_le ht; omega)
/-- what lies between a table and what is mended, and keeps all rules, is that -/
theorem clo_unique {l : List Rl} (hl : ruleOk l) {t x : List Int} (ht : okTab t) (hx : x.length = 21) (h1 : le t x) (h2 : le x (clo l t)) (h3 : kept x l) : x = clo l t := by
  obtain ⟨c1, _, _, c4⟩ := clo_spec hl ht
  exact le_antisymm hx c1.1 h2 (c4 x h1 h3)
/-- a step of mending stays below what is mended -/
theorem clo_step {l : List Rl} (hl : ruleOk l) {t x : List Int} {r : Rl} (ht : okTab t) (hx : x.length = 21) (hr : r ∈ l) (hb : brk x r = true) (h2 : le x (clo l t)) : le (fix x r) (clo l t) := by
  obtain ⟨_, _, c3, _⟩ := clo_spec hl ht
  exact fix_le hx (hl r hr) hb h2 (c3 r hr)
theorem clo_kept {l : List Rl} (hl : ruleOk l) {t : List Int} (ht : okTab t) (h : kept t l) : clo l t = t := by
  obtain ⟨c1, c2, _, c4⟩ := clo_spec hl ht
  exact le_antisymm c1.1 ht.1 (c4 t (le_refl t) h) c2
theorem clo_clo {l : List Rl} (hl : ruleOk l) {t : List Int} (ht : okTab t) : clo l (clo l t) = clo l t :=
  clo_kept hl (clo_spec hl ht).1 (clo_spec hl ht).2.2.1
/-- fewer rules, no more comes -/
theorem clo_fewer {l m : List Rl} (hl : ruleOk l) (hm : ∀ r ∈ m, r ∈ l) {t : List Int} (ht : okTab t) : le (clo m t) (clo l t) := by
  obtain ⟨_, c2, c3, _⟩ := clo_spec hl ht
  exact (clo_spec (fun r hr => hl r (hm r hr)) ht).2.2.2 _ c2 (fun r hr => c3 r (hm r hr))
/-- the order of rules doesn't matter -/
theorem clo_same {l m : List Rl} (hl : ruleOk l) (h1 : ∀ r ∈ m, r ∈ l) (h2 : ∀ r ∈ l, r ∈ m) {t : List Int} (ht : okTab t) : clo m t = clo l t := by
  have hm : ruleOk m := fun r hr => hl r (h1 r hr)
  exact le_antisymm (clo_spec hm ht).1.1 (clo_spec hl ht).1.1 (clo_fewer hl h1 ht) (clo_fewer hm h2 ht)
theorem pins_mono {s t : List Int} (hs : okTab s) (h : le s t) : (pinsOf s).length ≤ (pinsOf t).length :=
  pins_le fun n hn h0 => by
    have := h n hn
    have := (hs.2.2 n hn).1
    omega
/-- rules, held against a lock -/
def brokenErr (l : List (Int × Int)) (r : List Rl) : Int := if chk l = 0 then rchk r else chk l
def broken (l : List (Int × Int)) (r : List Rl) : Int := if brokenErr l r = 0 then first (tb l) r else 0
def mendErr (l : List (Int × Int)) (r : List Rl) : Int := if brokenErr l r = 0 then (if 12 < (pinsOf (clo r (tb l))).length then 2 else 0) else brokenErr l r
def mended (l : List (Int × Int)) (r : List Rl) : List (Int × Int) := if mendErr l r = 0 then pinsOf (clo r (tb l)) else []
theorem brokenErr_ok {l : List (Int × Int)} {r : List Rl} (h : brokenErr l r = 0) : chk l = 0 ∧ rchk r = 0 := by
  unfold brokenErr at h
  by_cases hc : chk l = 0
  · rw [if_pos hc] at h; exact ⟨hc, h⟩
  · rw [if_neg hc] at h; exact absurd h hc
theorem mendErr_ok {l : List (Int × Int)} {r : List Rl} (h : mendErr l r = 0) : brokenErr l r = 0 ∧ good (clo r (tb l)) := by
  unfold mendErr at h
  by_cases hb : brokenErr l r = 0
  · rw [if_pos hb] at h
    obtain ⟨h1, h2⟩ := brokenErr_ok hb
    refine ⟨hb, (clo_spec (rchk_ok h2).2 (good_tb h1).1).1, ?_⟩
    by_cases h3 : 12 < (pinsOf (clo r (tb l))).length
    · rw [if_pos h3] at h; cases h
    · omega
  · rw [if_neg hb] at h; exact absurd h hb
/-- what is mended is a lock, keeps all rules, and is mended by nothing -/
theorem mended_good {l : List (Int × Int)} {r : List Rl} (h : mendErr l r = 0) :
    mended l r = pinsOf (clo r (tb l)) ∧ chk (mended l r) = 0 ∧ tb (mended l r) = clo r (tb l) ∧ brokenErr (mended l r) r = 0 ∧ broken (mended l r) r = -1 ∧ mendErr (mended l r) r = 0 ∧ mended (mended l r) r = mended l r := by
  obtain ⟨hb, hg⟩ := mendErr_ok h
  obtain ⟨h1, h2⟩ := brokenErr_ok hb
  have hr := (rchk_ok h2).2
  have ht := (good_tb h1).1
  have e1 : mended l r = pinsOf (clo r (tb l)) := by rw [mended, if_pos h]
  have e2 : chk (mended l r) = 0 := by rw [e1]; exact good_chk hg
  have e3 : tb (mended l r) = clo r (tb l) := by rw [e1, tb_pinsOf hg.1.1]
  have e4 : brokenErr (mended l r) r = 0 := by rw [brokenErr, if_pos e2, h2]
  have e5 : broken (mended l r) r = -1 := by rw [broken, if_pos e4, e3]; exact first_none.2 (clo_spec hr ht).2.2.1
  have e6 : mendErr (mended l r) r = 0 := by rw [mendErr, if_pos e4, e3, clo_clo hr ht, if_neg (by have := hg.2; omega)]
  exact ⟨e1, e2, e3, e4, e5, e6, by rw [mended, if_pos e6, e3, clo_clo hr ht, ← e1]⟩
/-- all that was there is there, none at a lesser version -/
theorem mended_ge {l : List (Int × Int)} {r : List Rl} (h : mendErr l r = 0) (n : Nat) (hn : n < 21) : find (n : Int) l ≤ find (n : Int) (mended l r) := by
  obtain ⟨hb, _⟩ := mendErr_ok h
  obtain ⟨h1, h2⟩ := brokenErr_ok hb
  have := (clo_spec (rchk_ok h2).2 (good_tb h1).1).2.1 n hn
  rw [← (mended_good h).2.2.1, tb_get l n hn, tb_get _ n hn] at this
  exact this
/-- of such locks it is the least -/
theorem mended_least {l o : List (Int × Int)} {r : List Rl} (h : mendErr l r = 0) (hob : brokenErr o r = 0) (hok : broken o r = -1) (hge : ∀ n : Nat, n < 21 → find (n : Int) l ≤ find (n : Int) o) (n : Nat) (hn : n < 21) : find (n : Int) (mended l r) ≤ find (n : Int) o := by
  obtain ⟨hb, _⟩ := mendErr_ok h
  obtain ⟨h1, h2⟩ := brokenErr_ok hb
  rw [broken, if_pos hob] at hok
  have := (clo_spec (rchk_ok h2).2 (good_tb h1).1).2.2.2 (tb o) (fun k hk => by rw [tb_get l k hk, tb_get o k hk]; exact hge k hk) (first_none.1 hok) n hn
  rw [← (mended_good h).2.2.1, tb_get _ n hn, tb_get o n hn] at this
  exact this
/-- where nothing is broken nothing is mended, and the other way round -/
theorem mended_none {l : List (Int × Int)} {r : List Rl} (h : mendErr l r = 0) : broken l r = -1 ↔ l = mended l r := by
  obtain ⟨hb, _⟩ := mendErr_ok h
  obtain ⟨h1, h2⟩ := brokenErr_ok hb
  rw [broken, if_pos hb, first_none]
  have hr := (rchk_ok h2).2
  have ht := (good_tb h1).1
  constructor
  · intro hk
    rw [(mended_good h).1, clo_kept hr ht hk, pins_tb h1]
  · intro e
    have := (clo_spec hr ht).2.2.1
    rwa [← (mended_good h).2.2.1, ← e] at this
theorem find_zero {l : List (Int × Int)} (h : chk l = 0) (x : Int) (hx : ¬ (1 ≤ x ∧ x ≤ 20)) : find x l = 0 := by
  have hs := (chk_srt h).2
  rcases Int.lt_or_le x 1 with h1 | h1
  · exact find_low hs h1
  · have h2 : 20 < x := by omega
    clear h hx
    have : ∀ (l : List (Int × Int)) (k : Int), srt k l → find x l = 0 := by
      intro l
      induction l with
      | nil => intro k _; rfl
      | cons p q ih =>
        intro k hk
        have := hk.1.2.1
        rw [find, if_neg (by omega)]
        exact ih _ hk.2
    exact this l 1 hs
/-- rules in another order, and fewer of them -/
theorem mended_order {l : List (Int × Int)} {r m : List Rl} (h : mendErr l r = 0) (hm : rchk m = 0) (h1 : ∀ x ∈ m, x ∈ r) (h2 : ∀ x ∈ r, x ∈ m) : mendErr l m = 0 ∧ mended l m = mended l r := by
  obtain ⟨hb, hg⟩ := mendErr_ok h
  obtain ⟨c1, c2⟩ := brokenErr_ok hb
  have e := clo_same (rchk_ok c2).2 h1 h2 (good_tb c1).1
  have hbm : brokenErr l m = 0 := by rw [brokenErr, if_pos c1, hm]
  have hem : mendErr l m = 0 := by rw [mendErr, if_pos hbm, e, if_neg (by have := hg.2; omega)]
  exact ⟨hem, by rw [mended, if_pos hem, e, (mended_good h).1]⟩
theorem mended_fewer {l : List (Int × Int)} {r m : List Rl} (h : mendErr l r = 0) (hm : rchk m = 0) (h1 : ∀ x ∈ m, x ∈ r) : mendErr l m = 0 ∧ ∀ n : Nat, n < 21 → find (n : Int) (mended l m) ≤ find (n : Int) (mended l r) := by
  obtain ⟨hb, hg⟩ := mendErr_ok h
  obtain ⟨c1, c2⟩ := brokenErr_ok hb
  have ht := (good_tb c1).1
  have e := clo_fewer (rchk_ok c2).2 h1 ht
  have hbm : brokenErr l m = 0 := by rw [brokenErr, if_pos c1, hm]
  have hcm := (clo_spec (rchk_ok hm).2 ht).1
  have hem : mendErr l m = 0 := by rw [mendErr, if_pos hbm, if_neg (by have := hg.2; have := pins_mono hcm e; omega)]
  refine ⟨hem, fun n hn => ?_⟩
  rw [← tb_get _ n hn, ← tb_get _ n hn, (mended_good h).2.2.1, (mended_good hem).2.2.1]
  exact e n hn
end Rk
end Go.Proofs.YtpenkhehceglfaaGreatDoor
/- Of waves: who stands where, and the first one that isn't through. Plain functions on lists; nothing of the program is named here. -/
namespace Go.Proofs.YtpenkhehceglfaaGreatDoor
namespace Wv
/-- one wave's agents, one by one: the error, and who stood by then -/
def inW (n : Int) : List Int → List Int → Int × List Int
  | seen, [] => (0, seen)
  | seen, a :: r => if 0 ≤ a ∧ a ≤ n - 1 then (if a ∈ seen then (6, seen) else inW n (seen ++ [a]) r) else (5, seen)
/-- wave by wave -/
def go (n : Int) : List Int → List (List Int) → Int
  | seen, [] => if (seen.length : Int) = n then 0 else 4
  | seen, w :: r => if w = [] then 4 else (if (inW n seen w).1 = 0 then go n (inW n seen w).2 r else (inW n seen w).1)
def chk (l : List (List Int)) (n : Int) : Int := if 1 ≤ n ∧ n ≤ 6 then go n [] l else 3
/-- the first wave from k on that has this one -/
def ofFrom (a : Int) : List (List Int) → Int → Int
  | [], _ => -1
  | w :: r, k => if a ∈ w then k else ofFrom a r (k + 1)
def of (l : List (List Int)) (a : Int) : Int := ofFrom a l 0
/-- somebody in it isn't through -/
def isOpen (t : List Bool) (w : List Int) : Bool := w.any fun a => !t.getD a.toNat true
def nowFrom (t : List Bool) : List (List Int) → Int → Int
  | [], k => k
  | w :: r, k => if isOpen t w = true then k else nowFrom t r (k + 1)
def now (l : List (List Int)) (t : List Bool) : Int := nowFrom t l 0
/-- the least wave of those that aren't through, from agent k on -/
def leastFrom (l : List (List Int)) : List Bool → Nat → Int → Int
  | [], _, m => m
  | is :: r, k, m => leastFrom l r (k + 1) (if is = true then m else min m (of l k))
def least (l : List (List Int)) (t : List Bool) : Int := leastFrom l t 0 l.length
theorem inW_ok {n : Int} {w : List Int} : ∀ {seen : List Int}, (inW n seen w).1 = 0 → (inW n seen w).2 = seen ++ w ∧ (∀ a ∈ w, 0 ≤ a ∧ a ≤ n - 1 ∧ a ∉ seen) ∧ w.Nodup := by
  induction w with
  | nil => intro seen _; exact ⟨by simp [inW], (fun a h => by cases h), List.nodup_nil⟩
  | cons a r ih =>
    intro seen h
    rw [inW] at h ⊢
    by_cases h1 : 0 ≤ a ∧ a ≤ n - 1
    · rw [if_pos h1] at h ⊢
      by_cases h2 : a ∈ seen
      · rw [if_pos h2] at h; cases h
      · rw [if_neg h2] at h ⊢
        obtain ⟨e1, e2, e3⟩ := ih h
        refine ⟨by rw [e1]; simp, fun x hx => ?_, ?_⟩
        · rcases List.mem_cons.1 hx with rfl | hx
          · exact ⟨h1.1, h1.2, h2⟩
          · have := e2 x hx
            exact ⟨this.1, this.2.1, fun hs => this.2.2 (by simp [hs])⟩
        · rw [List.nodup_cons]
          exact ⟨fun ha => (e2 a ha).2.2 (by simp), e3⟩
    · rw [if_neg h1] at h; cases h
theorem go_ok {n : Int} {l : List (List Int)} : ∀ {seen : List Int}, seen.Nodup → (∀ a ∈ seen, 0 ≤ a ∧ a ≤ n - 1) → go n seen l = 0 → (seen ++ l.flatten).Nodup ∧ (∀ a ∈ seen ++ l.flatten, 0 ≤ a ∧ a ≤ n - 1) ∧ ((seen ++ l.flatten).length : Int) = n ∧ ∀ w ∈ l, w ≠ [] := by
  induction l with
  | nil =>
    intro seen h1 h2 h
    rw [go] at h
    by_cases hn : (seen.length : Int) = n
    · simpa using ⟨h1, h2, hn⟩
    · rw [if_neg hn] at h; cases h
  | cons w r ih =>
    intro seen h1 h2 h
    rw [go] at h
    by_cases hw : w = []
    · rw [if_pos hw] at h; cases h
    · rw [if_neg hw] at h
      by_cases he : (inW n seen w).1 = 0
      · rw [if_pos he] at h
        obtain ⟨e1, e2, e3⟩ := inW_ok he
        rw [e1] at h
        have hnd : (seen ++ w).Nodup := by
          rw [List.nodup_append]
          exact ⟨h1, e3, fun a ha b hb e => (e2 b hb).2.2 (by rw [← e]; exact ha)⟩
        have hin : ∀ a ∈ seen ++ w, 0 ≤ a ∧ a ≤ n - 1 := fun a ha => by
          rcases List.mem_append.1 ha with ha | ha
          · exact h2 a ha
          · exact ⟨(e2 a ha).1, (e2 a ha).2.1⟩
        obtain ⟨i1, i2, i3, i4⟩ := ih hnd hin h
        rw [List.append_assoc] at i1 i2 i3
        refine ⟨by simpa using i1, fun a ha => i2 a (by simpa using ha), by simpa using i3, fun x hx => ?_⟩
        rcases List.mem_cons.1 hx with rfl | hx
        · exact hw
        · exact i4 x hx
      · rw [if_neg he] at h; exact absurd h he
theorem nodup_le {m : Nat} : ∀ {L : List Int}, L.Nodup → (∀ x ∈ L, 0 ≤ x ∧ x < m) → L.length ≤ m := by
  induction m with
  | zero =>
    intro L _ h
    cases L with
    | nil => simp
    | cons a r => have := h a (by simp); omega
  | succ m ih =>
    intro L hd h
    by_cases hm : (m : Int) ∈ L
    · have h1 := List.length_erase_of_mem hm
      have h2 := ih (hd.erase (m : Int)) (fun x hx => by
        have h3 := (hd.mem_erase_iff).1 hx
        have := h x h3.2
        have := h3.1
        omega)
      omega
    · have := ih hd (fun x hx => by
        have := h x hx
        have hne : x ≠ (m : Int) := fun e => hm (by rw [← e]; exact hx)
        omega)
      omega
/-- where waves are right all stand in one -/
theorem all_stand {l : List (List Int)} {n : Int} (h : chk l n = 0) : (1 ≤ n ∧ n ≤ 6) ∧ (∀ w ∈ l, w ≠ [] ∧ ∀ a ∈ w, 0 ≤ a ∧ a ≤ n - 1) ∧ (∀ a : Int, 0 ≤ a → a ≤ n - 1 → ∃ w ∈ l, a ∈ w) ∧ (l.flatten.length : Int) = n := by
  unfold chk at h
  by_cases hn : 1 ≤ n ∧ n ≤ 6
  · rw [if_pos hn] at h
    obtain ⟨h1, h2, h3, h4⟩ := go_ok List.nodup_nil (fun a ha => by cases ha) h
    simp only [List.nil_append] at h1 h2 h3
    refine ⟨hn, fun w hw => ⟨h4 w hw, fun a ha => h2 a (List.mem_flatten.2 ⟨w, hw, ha⟩)⟩, fun a ha hb => ?_, h3⟩
    rcases Classical.em (a ∈ l.flatten) with hm | hm
    · exact List.mem_flatten.1 hm
    · exfalso
      have := nodup_le (m := n.toNat) (L := a :: l.flatten) (List.nodup_cons.2 ⟨hm, h1⟩) (fun x hx => by
        rcases List.mem_cons.1 hx with rfl | hx
        · omega
        · have := h2 x hx; omega)
      simp only [List.length_cons] at this
      omega
  · rw [if_neg hn] at h; cases h
theorem ofFrom_spec {a : Int} {l : List (List Int)} : ∀ {k : Nat}, (∃ w ∈ l, a ∈ w) → ∃ j : Nat, j < l.length ∧ ofFrom a l k = ((k + j : Nat) : Int) ∧ a ∈ l.getD j [] ∧ ∀ i, i < j → a ∉ l.getD i [] := by
  induction l with
  | nil => intro k h; obtain ⟨w, hw, _⟩ := h; cases hw
  | cons w r ih =>
    intro k h
    rw [ofFrom]
    by_cases hw : a ∈ w
    · exact ⟨0, by simp, by rw [if_pos hw]; simp, by simpa using hw, fun i hi => by omega⟩
    · rw [if_neg hw]
      obtain ⟨j, h1, h2, h3, h4⟩ := ih (k := k + 1) (by
        obtain ⟨x, hx, ha⟩ := h
        rcases List.mem_cons.1 hx with rfl | hx
        · exact absurd ha hw
        · exact ⟨x, hx, ha⟩)
      refine ⟨j + 1, by simp; omega, ?_, by simpa using h3, fun i hi => ?_⟩
      · rw [show ((k : Int) + 1) = ((k + 1 : Nat) : Int) from by simp, h2]; congr 1; omega
      · cases i with
        | zero => simpa using hw
        | succ i => simpa using h4 i (by omega)
theorem of_spec {a : Int} {l : List (List Int)} (h : ∃ w ∈ l, a ∈ w) : ∃ j : Nat, j < l.length ∧ of l a = j ∧ a ∈ l.getD j [] ∧ ∀ i, i < j → a ∉ l.getD i [] := by
  obtain ⟨j, h1, h2, h3, h4⟩ := ofFrom_spec (k := 0) h
  exact ⟨j, h1, by rw [of]; simpa using h2, h3, h4⟩
theorem nowFrom_spec {t : List Bool} {l : List (List Int)} : ∀ {k : Nat}, ∃ j : Nat, j ≤ l.length ∧ nowFrom t l k = ((k + j : Nat) : Int) ∧ (∀ i, i < j → isOpen t (l.getD i []) = false) ∧ (j < l.length → isOpen t (l.getD j []) = true) := by
  induction l with
  | nil => intro k; exact ⟨0, by simp, by simp [nowFrom], fun i hi => by omega, fun h => by simp at h⟩
  | cons w r ih =>
    intro k
    rw [nowFrom]
    by_cases hw : isOpen t w = true
    · exact ⟨0, by simp, by rw [if_pos hw]; simp, fun i hi => by omega, fun _ => by simpa using hw⟩
    · rw [if_neg hw]
      obtain ⟨j, h1, h2, h3, h4⟩ := ih (k := k + 1)
      refine ⟨j + 1, by simp; omega, ?_, fun i hi => ?_, fun h => ?_⟩
      · rw [show ((k : Int) + 1) = ((k + 1 : Nat) : Int) from by simp, h2]; congr 1; omega
      · cases i with
        | zero => simpa using hw
        | succ i => simpa using h3 i (by omega)
      · simpa using h4 (by simpa using h)
theorem now_spec (l : List (List Int)) (t : List Bool) : ∃ j : Nat, j ≤ l.length ∧ now l t = j ∧ (∀ i, i < j → isOpen t (l.getD i []) = false) ∧ (j < l.length → isOpen t (l.getD j []) = true) := by
  obtain ⟨j, h1, h2, h3, h4⟩ := nowFrom_spec (t := t) (l := l) (k := 0)
  exact ⟨j, h1, by rw [now]; simpa using h2, h3, h4⟩
theorem open_true {t : List Bool} {w : List Int} (h : isOpen t w = true) : ∃ a ∈ w, t.getD a.toNat true = false := by
  obtain ⟨a, ha, hb⟩ := List.any_eq_true.1 h
  exact ⟨a, ha, by simpa using hb⟩
theorem open_false {t : List Bool} {w : List Int} (h : isOpen t w = false) : ∀ a ∈ w, t.getD a.toNat true = true := fun a ha => by
  have := List.any_eq_false.1 h a ha
  simpa using this
theorem leastFrom_spec {l : List (List Int)} {t : List Bool} : ∀ {k : Nat} {m : Int}, leastFrom l t k m ≤ m ∧ (∀ j, j < t.length → t.getD j true = false → leastFrom l t k m ≤ of l ((k + j : Nat) : Int)) ∧ (leastFrom l t k m = m ∨ ∃ j, j < t.length ∧ t.getD j true = false ∧ leastFrom l t k m = of l ((k + j : Nat) : Int)) := by
  induction t with
  | nil => intro k m; exact ⟨Int.le_refl _, fun j hj => by simp at hj, .inl rfl⟩
  | cons is r ih =>
    intro k m
    rw [leastFrom]
    obtain ⟨h1, h2, h3⟩ := ih (k := k + 1) (m := if is = true then m else min m (of l k))
    have e : ∀ j : Nat, ((k + 1 + j : Nat) : Int) = ((k + (j + 1) : Nat) : Int) := fun j => by congr 1; omega
    cases is with
    | true =>
      simp only [if_true] at h1 h2 h3 ⊢
      refine ⟨h1, fun j hj hb => ?_, ?_⟩
      · cases j with
        | zero => simp at hb
        | succ j => rw [← e]; exact h2 j (by simpa using hj) (by simpa using hb)
      · rcases h3 with h3 | ⟨j, g1, g2, g3⟩
        · exact .inl h3
        · exact .inr ⟨j + 1, by simpa using g1, by simpa using g2, by rw [← e]; exact g3⟩
    | false =>
      simp only [Bool.false_eq_true, if_false] at h1 h2 h3 ⊢
      refine ⟨Int.le_trans h1 (Int.min_le_left _ _), fun j hj hb => ?_, ?_⟩
      · cases j with
        | zero => exact Int.le_trans h1 (Int.min_le_right _ _)
        | succ j => rw [← e]; exact h2 j (by simpa using hj) (by simpa using hb)
      · rcases h3 with h3 | ⟨j, g1, g2, g3⟩
        · rcases Int.le_total m (of l k) with h | h
          · exact .inl (h3.trans (Int.min_eq_left h))
          · exact .inr ⟨0, by simp, rfl, by simpa using h3.trans (Int.min_eq_right h)⟩
        · exact .inr ⟨j + 1, by simpa using g1, by simpa using g2, by rw [← e]; exact g3⟩
/-- the two ways to tell the first wave that isn't through agree -/
theorem now_least {l : List (List Int)} {t : List Bool} (h : chk l t.length = 0) : least l t = now l t := by
  obtain ⟨hn, hw, hall, _⟩ := all_stand h
  obtain ⟨j, h1, h2, h3, h4⟩ := now_spec l t
  obtain ⟨g1, g2, g3⟩ := leastFrom_spec (l := l) (t := t) (k := 0) (m := (l.length : Int))
  rw [h2, least]
  have lower : ∀ a : Nat, a < t.length → t.getD a true = false → (j : Int) ≤ of l a := fun a ha hb => by
    obtain ⟨i, i1, i2, i3, _⟩ := of_spec (hall a (by omega) (by omega))
    rw [i2]
    rcases Nat.lt_or_ge i j with hij | hij
    · have := open_false (h3 i hij) a i3
      rw [Int.toNat_natCast, hb] at this
      cases this
    · omega
  have hup : (j : Int) ≤ leastFrom l t 0 l.length := by
    rcases g3 with g3 | ⟨a, a1, a2, a3⟩
    · rw [g3]; omega
    · rw [a3]; simpa using lower a a1 a2
  have hdn : leastFrom l t 0 l.length ≤ j := by
    rcases Nat.lt_or_ge j l.length with hj | hj
    · obtain ⟨a, ha, hb⟩ := open_true (h4 hj)
      have hmem : l.getD j [] ∈ l := by rw [List.getD_eq_getElem?_getD, List.getElem?_eq_getElem hj]; exact List.getElem_mem hj
      obtain ⟨r1, r2⟩ := (hw _ hmem).2 a ha
      have hlt : a.toNat < t.length := by omega
      have := g2 a.toNat hlt hb
      rw [Nat.zero_add, Int.toNat_of_nonneg r1] at this
      obtain ⟨i, i1, i2, i3, i4⟩ := of_spec (hall a r1 r2)
      have hij : i ≤ j := by
        rcases Nat.lt_or_ge j i with hji | hji
        · exact absurd ha (i4 j hji)
        · exact hji
      rw [i2] at this
      omega
    · have : j = l.length := by omega
      rw [this]; exact g1
  omega
end Wv
end Go.Proofs.YtpenkhehceglfaaGreatDoor
/- Plain functions on configurations and leaders: how they are checked, whose turn it is, whether it is over, what a record makes of a leader. Nothing of the program is named here. -/
namespace Go.Proofs.YtpenkhehceglfaaGreatDoor
namespace Ld
open Lk Dk
structure Config where
  fid : Int
  flock : List (Int × Int)
  rules : List Rk.Rl
  waves : List (List Int)
  budget : Int
structure Known where
  st : Int
  tr : Int
  back : Bool
deriving DecidableEq
structure Leader where
  rels : List (Int × List (Int × Int))
  now : Int
  goal : Int
  back : Bool
  ags : List Known
  next : Int
def Leader.none : Leader := ⟨[], 0, 0, false, [], 0⟩
/-- how many stand in the waves -/
def many (c : Config) : Nat := c.waves.flatten.length
/-- a lock is held against rules: 0, or the error, or 8: it breaks one -/
def ruled (l : List (Int × Int)) (r : List Rk.Rl) : Int := if Rk.brokenErr l r = 0 then (if 0 ≤ Rk.broken l r then 8 else 0) else Rk.brokenErr l r
def chkConfig (c : Config) : Int :=
  if chkRel c.fid c.flock = 0 then
    (if c.fid = 1 ∧ within c.budget 0 3 = true then
      (if ruled c.flock c.rules = 0 then Wv.chk c.waves (many c) else ruled c.flock c.rules)
     else 3)
  else chkRel c.fid c.flock
/-- the releases, one by one, from number k on -/
def chkRels (r : List Rk.Rl) : Int → List (Int × List (Int × Int)) → Int
  | _, [] => 0
  | k, p :: t => if ruled p.2 r = 0 then (if p.1 = k then chkRels r (k + 1) t else 4) else ruled p.2 r
def chkKnown (goal : Int) (back : Bool) (next : Int) (a : Known) : Int :=
  if (within a.st 0 3 && within a.tr 0 (next - 1)) = true then
    (if (a.st ≠ 0 ∧ (goal = 0 ∨ a.tr = 0)) ∨ (a.back = true ∧ (back = false ∨ a.st = 0)) then 4 else 0)
  else 3
def chkKnowns (goal : Int) (back : Bool) (next : Int) : List Known → Int
  | [] => 0
  | a :: t => if chkKnown goal back next a = 0 then chkKnowns goal back next t else chkKnown goal back next a
def chkLeader (c : Config) (l : Leader) : Int :=
  if chkConfig c = 0 then
    (if 1 ≤ l.rels.length ∧ l.rels.length ≤ 6 then
      (if chkRels c.rules 1 l.rels = 0 then
        (if (within l.now 1 l.rels.length && within l.goal 0 l.rels.length && within l.next 1 201) = true then
          (if l.goal = l.now ∨ (l.goal = 0 ∧ l.back = true) ∨ l.ags.length ≠ many c ∨ alike (l.rels.headD (0, [])).1 (l.rels.headD (0, [])).2 c.fid c.flock = false then 4
           else chkKnowns l.goal l.back l.next l.ags)
         else 3)
       else chkRels c.rules 1 l.rels)
     else 2)
  else chkConfig c
def freshL (c : Config) : Leader := ⟨[(c.fid, c.flock)], 1, 0, false, List.replicate (many c) ⟨0, 0, false⟩, 1⟩
def newL (c : Config) : Leader × Int := if chkConfig c = 0 then (freshL c, 0) else (Leader.none, chkConfig c)
def count (l : Leader) (s : Int) : Nat := (l.ags.filter fun a => a.st == s).length
def through (l : Leader) : List Bool := l.ags.map fun a => decide (2 ≤ a.st)
def isTurn (c : Config) (l : Leader) (k : Nat) : Bool :=
  if l.back = true then decide ((l.ags.getD k ⟨0, 0, false⟩).st ≠ 0) && !(l.ags.getD k ⟨0, 0, false⟩).back
  else decide ((l.ags.getD k ⟨0, 0, false⟩).st = 0) && decide (Wv.of c.waves k = Wv.now c.waves (through l)) && decide ((count l 3 : Int) ≤ c.budget)
def isOver (c : Config) (l : Leader) : Bool :=
  if l.back = true then l.ags.all fun a => decide (a.st ≠ 1) && (decide (a.st = 0) || a.back)
  else (through l).all id && decide ((count l 3 : Int) ≤ c.budget)
def goalOf (l : Leader) : Int × List (Int × Int) := if l.back = true then l.rels.getD (l.now - 1).toNat (0, []) else l.rels.getD (l.goal - 1).toNat (0, [])
def turnL (c : Config) (l : Leader) (k : Int) : Bool × (Int × List (Int × Int)) × Int :=
  if chkLeader c l = 0 then
    (if 0 ≤ k ∧ k < l.ags.length then (if l.goal = 0 then (false, (0, []), 7) else (isTurn c l k.toNat, goalOf l, 0)) else (false, (0, []), 5))
  else (false, (0, []), chkLeader c l)
def overL (c : Config) (l : Leader) : Bool × Int :=
  if chkLeader c l = 0 then (if l.goal = 0 then (false, 7) else (isOver c l, 0)) else (false, chkLeader c l)
def nextIn (c : Config) (l : Leader) (r : Note) : Leader × Int :=
  if r.kind = 4 then
    (if l.rels.length = 6 then (Leader.none, 2) else if r.id = l.rels.length + 1 then (if ruled r.lock c.rules = 0 then ({ l with rels := l.rels ++ [(r.id, r.lock)] }, 0) else (Leader.none, 8)) else (Leader.none, 7))
  else if r.kind = 5 then
    (if l.goal = 0 then (if r.n ≤ l.rels.length then (if r.n = l.now then (Leader.none, 6) else ({ l with goal := r.n }, 0)) else (Leader.none, 5)) else (Leader.none, 7))
  else if r.kind = 6 then
    (if r.agent < l.ags.length then
      (if l.goal ≠ 0 ∧ r.tr = l.next ∧ isTurn c l r.agent.toNat = true then ({ l with ags := l.ags.set r.agent.toNat ⟨1, l.next, l.back⟩, next := l.next + 1 }, 0) else (Leader.none, 7))
     else (Leader.none, 5))
  else if r.kind = 7 then
    (if r.agent < l.ags.length then
      (if (l.ags.getD r.agent.toNat ⟨0, 0, false⟩).st = 1 ∧ (l.ags.getD r.agent.toNat ⟨0, 0, false⟩).tr = r.tr then
        ({ l with ags := l.ags.set r.agent.toNat { l.ags.getD r.agent.toNat ⟨0, 0, false⟩ with st := if r.good = true then 2 else 3 } }, 0) else (Leader.none, 7))
     else (Leader.none, 5))
  else if r.kind = 8 then (if l.goal = 0 ∨ l.back = true then (Leader.none, 7) else ({ l with back := true }, 0))
  else if r.kind = 9 then
    (if l.goal = 0 ∨ isOver c l = false then (Leader.none, 7)
     else (⟨l.rels, if l.back = true then l.now else l.goal, 0, false, l.ags.map fun a => ⟨0, a.tr, false⟩, l.next⟩, 0))
  else (Leader.none, 4)
def nextL (c : Config) (l : Leader) (r : Note) : Leader × Int :=
  if chkLeader c l = 0 then (if chkNote r = 0 then nextIn c l r else (Leader.none, chkNote r)) else (Leader.none, chkLeader c l)
def replayFrom (c : Config) (l : Leader) : List Note → Leader × Int
  | [] => (l, 0)
  | r :: t => if (nextL c l r).2 = 0 then replayFrom c (nextL c l r).1 t else (Leader.none, (nextL c l r).2)
def replayL (c : Config) (rs : List Note) : Leader × Int :=
  if chkConfig c = 0 then (if 200 < rs.length then (Leader.none, 2) else replayFrom c (freshL c) rs) else (Leader.none, chkConfig c)
def sameRels : List (Int × List (Int × Int)) → List (Int × List (Int × Int)) → Bool
  | [], [] => true
  | a :: r, b :: t => alike a.1 a.2 b.1 b.2 && sameRels r t
  | _, _ => false
def sameLeader (a b : Leader) : Bool := sameRels a.rels b.rels && a.now == b.now && a.goal == b.goal && a.back == b.back && decide (a.ags = b.ags) && a.next == b.next
theorem sameRels_iff : ∀ a b : List (Int × List (Int × Int)), sameRels a b = true ↔ a = b
  | [], [] => by simp [sameRels]
  | [], _ :: _ => by simp [sameRels]
  | _ :: _, [] => by simp [sameRels]
  | a :: r, b :: t => by
    rw [sameRels, Bool.and_eq_true, sameRels_iff r t]
    obtain ⟨a1, a2⟩ := a
    obtain ⟨b1, b2⟩ := b
    simp [alike, same]
theorem sameLeader_iff (a b : Leader) : sameLeader a b = true ↔ a = b := by
  obtain ⟨a1, a2, a3, a4, a5, a6⟩ := a
  obtain ⟨b1, b2, b3, b4, b5, b6⟩ := b
  simp [sameLeader, sameRels_iff, and_assoc]
theorem sameLeader_self (a : Leader) : sameLeader a a = true := (sameLeader_iff a a).2 rfl
/-- in two parts -/
theorem replay_app (c : Config) (l m : List Note) : ∀ a : Leader, (replayFrom c a (l ++ m)).2 = 0 → (replayFrom c a l).2 = 0 ∧ replayFrom c (replayFrom c a l).1 m = replayFrom c a (l ++ m) := by
  induction l with
  | nil => intro a h; exact ⟨rfl, rfl⟩
  | cons r t ih =>
    intro a h
    rw [List.cons_append, replayFrom] at h
    by_cases hr : (nextL c a r).2 = 0
    · rw [if_pos hr] at h
      obtain ⟨h1, h2⟩ := ih (nextL c a r).1 h
      rw [List.cons_append, replayFrom, if_pos hr, replayFrom, if_pos hr]
      exact ⟨h1, h2⟩
    · rw [if_neg hr] at h; exact absurd h hr
end Ld
end Go.Proofs.YtpenkhehceglfaaGreatDoor
/- A record makes a leader of a leader. Plain. -/
namespace Go.Proofs.YtpenkhehceglfaaGreatDoor
namespace Ld
open Lk Dk
theorem knowns_iff (goal : Int) (back : Bool) (next : Int) (l : List Known) : chkKnowns goal back next l = 0 ↔ ∀ a ∈ l, chkKnown goal back next a = 0 := by
  induction l with
  | nil => simp [chkKnowns]
  | cons a t ih =>
    rw [chkKnowns]
    by_cases h : chkKnown goal back next a = 0
    · rw [if_pos h, ih]; simp [h]
    · rw [if_neg h]
      constructor
      · intro h'; exact absurd h' h
      · intro h'; exact absurd (h' a (by simp)) h
theorem known_iff (goal : Int) (back : Bool) (next : Int) (a : Known) : chkKnown goal back next a = 0 ↔ (0 ≤ a.st ∧ a.st ≤ 3) ∧ (0 ≤ a.tr ∧ a.tr ≤ next - 1) ∧ (a.st ≠ 0 → goal ≠ 0 ∧ a.tr ≠ 0) ∧ (a.back = true → back = true ∧ a.st ≠ 0) := by
  unfold chkKnown
  by_cases h : (within a.st 0 3 && within a.tr 0 (next - 1)) = true
  · rw [if_pos h]
    simp only [within, Bool.and_eq_true, decide_eq_true_eq] at h
    by_cases h2 : (a.st ≠ 0 ∧ (goal = 0 ∨ a.tr = 0)) ∨ (a.back = true ∧ (back = false ∨ a.st = 0))
    · rw [if_pos h2]
      constructor
      · intro h'; exact absurd h' (by decide)
      · rintro ⟨_, _, h3, h4⟩
        rcases h2 with ⟨g1, g2⟩ | ⟨g1, g2⟩
        · rcases g2 with g2 | g2
          · exact absurd g2 (h3 g1).1
          · exact absurd g2 (h3 g1).2
        · rcases g2 with g2 | g2
          · rw [(h4 g1).1] at g2; cases g2
          · exact absurd g2 (h4 g1).2
    · rw [if_neg h2]
      refine ⟨fun _ => ⟨h.1, h.2, fun h3 => ⟨fun h4 => h2 (.inl ⟨h3, .inl h4⟩), fun h4 => h2 (.inl ⟨h3, .inr h4⟩)⟩, fun h3 => ⟨?_, fun h4 => h2 (.inr ⟨h3, .inr h4⟩)⟩⟩, fun _ => rfl⟩
      cases hb : back with
      | true => rfl
      | false => exact absurd (.inr ⟨h3, .inl hb⟩) h2
  · rw [if_neg h]
    constructor
    · intro h'; exact absurd h' (by decide)
    · rintro ⟨h1, h2, _⟩
      exact absurd (by simp [within, h1, h2]) h
theorem lead_iff (c : Config) (l : Leader) : chkLeader c l = 0 ↔ chkConfig c = 0 ∧ (1 ≤ l.rels.length ∧ l.rels.length ≤ 6) ∧ chkRels c.rules 1 l.rels = 0 ∧ (1 ≤ l.now ∧ l.now ≤ l.rels.length) ∧ (0 ≤ l.goal ∧ l.goal ≤ l.rels.length) ∧ (1 ≤ l.next ∧ l.next ≤ 201) ∧ (l.goal ≠ l.now ∧ (l.goal = 0 → l.back = false) ∧ l.ags.length = many c ∧ alike (l.rels.headD (0, [])).1 (l.rels.headD (0, [])).2 c.fid c.flock = true) ∧ ∀ a ∈ l.ags, chkKnown l.goal l.back l.next a = 0 := by
  unfold chkLeader
  by_cases h1 : chkConfig c = 0
  · rw [if_pos h1]
    by_cases h2 : 1 ≤ l.rels.length ∧ l.rels.length ≤ 6
    · rw [if_pos h2]
      by_cases h3 : chkRels c.rules 1 l.rels = 0
      · rw [if_pos h3]
        by_cases h4 : (within l.now 1 l.rels.length && within l.goal 0 l.rels.length && within l.next 1 201) = true
        · rw [if_pos h4]
          simp only [within, Bool.and_eq_true, decide_eq_true_eq] at h4
          by_cases h5 : l.goal = l.now ∨ (l.goal = 0 ∧ l.back = true) ∨ l.ags.length ≠ many c ∨ alike (l.rels.headD (0, [])).1 (l.rels.headD (0, [])).2 c.fid c.flock = false
          · rw [if_pos h5]
            constructor
            · intro h'; exact absurd h' (by decide)
            · rintro ⟨_, _, _, _, _, _, ⟨g1, g2, g3, g4⟩, _⟩
              rcases h5 with h5 | ⟨h5, h6⟩ | h5 | h5
              · exact absurd h5 g1
              · rw [g2 h5] at h6; cases h6
              · exact absurd g3 h5
              · rw [g4] at h5; cases h5
          · rw [if_neg h5, knowns_iff]
            refine ⟨fun h => ⟨h1, h2, h3, h4.1.1, h4.1.2, h4.2, ⟨fun e => h5 (.inl e), fun e => ?_, ?_, ?_⟩, h⟩, fun h => h.2.2.2.2.2.2.2⟩
            · cases hb : l.back with
              | false => rfl
              | true => exact absurd (.inr (.inl ⟨e, hb⟩)) h5
            · by_cases e : l.ags.length = many c
              · exact e
              · exact absurd (.inr (.inr (.inl e))) h5
            · cases hb : alike (l.rels.headD (0, [])).1 (l.rels.headD (0, [])).2 c.fid c.flock with
              | true => rfl
              | false => exact absurd (.inr (.inr (.inr hb))) h5
        · rw [if_neg h4]
          constructor
          · intro h'; exact absurd h' (by decide)
          · rintro ⟨_, _, _, g1, g2, g3, _⟩
            exact absurd (by simp [within, g1, g2, g3]) h4
      · rw [if_neg h3]
        exact ⟨fun h => absurd h h3, fun h => absurd h.2.2.1 h3⟩
    · rw [if_neg h2]
      constructor
      · intro h'; exact absurd h' (by decide)
      · intro h; exact absurd h.2.1 h2
  · rw [if_neg h1]
    exact ⟨fun h => absurd h h1, fun h => absurd h.1 h1⟩
theorem rels_app (r : List Rk.Rl) (l m : List (Int × List (Int × Int))) : ∀ k : Int, chkRels r k l = 0 → chkRels r (k + l.length) m = 0 → chkRels r k (l ++ m) = 0 := by
  induction l with
  | nil => intro k _ h; simpa using h
  | cons p t ih =>
    intro k h h'
    rw [List.cons_append, chkRels]
    rw [chkRels] at h
    by_cases h1 : ruled p.2 r = 0
    · rw [if_pos h1] at h ⊢
      by_cases h2 : p.1 = k
      · rw [if_pos h2] at h ⊢
        refine ih (k + 1) h ?_
        have e : k + ((p :: t).length : Int) = k + 1 + (t.length : Int) := by simp; omega
        rw [e] at h'
        exact h'
      · rw [if_neg h2] at h; exact absurd h (by decide)
    · rw [if_neg h1] at h; exact absurd h h1
theorem note_outside {r : Note} (h : chkNote r = 0) : outside r = false := by
  unfold chkNote at h
  by_cases c1 : (!within r.kind 1 9 || unused r) = true
  · rw [if_pos c1] at h; exact absurd h (by decide)
  · rw [if_neg c1] at h
    cases c2 : outside r with
    | false => rfl
    | true => rw [if_pos c2] at h; exact absurd h (by decide)
theorem next_chk {c : Config} {l : Leader} {r : Note} (h : (nextL c l r).2 = 0) : chkLeader c l = 0 ∧ chkNote r = 0 ∧ chkLeader c (nextL c l r).1 = 0 := by
  unfold nextL at h ⊢
  by_cases hl : chkLeader c l = 0
  rotate_left
  · rw [if_neg hl] at h; exact absurd h hl
  rw [if_pos hl] at h ⊢
  by_cases hr : chkNote r = 0
  rotate_left
  · rw [if_neg hr] at h; exact absurd h hr
  rw [if_pos hr] at h ⊢
  refine ⟨hl, hr, ?_⟩
  have ho := note_outside hr
  obtain ⟨g1, g2, g3, g4, g5, g6, ⟨f1, f2, f3, f4⟩, g8⟩ := (lead_iff c l).1 hl
  have hk : ∀ a ∈ l.ags, (0 ≤ a.st ∧ a.st ≤ 3) ∧ (0 ≤ a.tr ∧ a.tr ≤ l.next - 1) ∧ (a.st ≠ 0 → l.goal ≠ 0 ∧ a.tr ≠ 0) ∧ (a.back = true → l.back = true ∧ a.st ≠ 0) := fun a ha => (known_iff _ _ _ a).1 (g8 a ha)
  unfold nextIn at h ⊢
  by_cases k4 : r.kind = 4
  · rw [if_pos k4] at h ⊢
    by_cases a1 : l.rels.length = 6
    · rw [if_pos a1] at h; exact absurd h (by decide)
    rw [if_neg a1] at h ⊢
    by_cases a2 : r.id = l.rels.length + 1
    rotate_left
    · rw [if_neg a2] at h; exact absurd h (by decide)
    rw [if_pos a2] at h ⊢
    by_cases a3 : ruled r.lock c.rules = 0
    rotate_left
    · rw [if_neg a3] at h; exact absurd h (by decide)
    rw [if_pos a3]
    refine (lead_iff _ _).2 ⟨g1, ?_, ?_, ?_, ?_, g6, ⟨f1, f2, f3, ?_⟩, g8⟩
    · simp only [List.length_append, List.length_cons, List.length_nil]; omega
    · refine rels_app _ _ _ _ g3 ?_
      rw [chkRels, if_pos a3, if_pos (by omega), chkRels]
    · simp only [List.length_append, List.length_cons, List.length_nil]; omega
    · simp only [List.length_append, List.length_cons, List.length_nil]; omega
    · cases hh : l.rels with
      | nil => rw [hh] at g2; simp at g2
      | cons p t => rw [hh] at f4; simpa using f4
  rw [if_neg k4] at h ⊢
  by_cases k5 : r.kind = 5
  · rw [if_pos k5] at h ⊢
    by_cases a1 : l.goal = 0
    rotate_left
    · rw [if_neg a1] at h; exact absurd h (by decide)
    rw [if_pos a1] at h ⊢
    by_cases a2 : r.n ≤ l.rels.length
    rotate_left
    · rw [if_neg a2] at h; exact absurd h (by decide)
    rw [if_pos a2] at h ⊢
    by_cases a3 : r.n = l.now
    · rw [if_pos a3] at h; exact absurd h (by decide)
    rw [if_neg a3]
    have hn : 1 ≤ r.n := by
      simp only [outside, uT, uN, k5] at ho
      simp [within] at ho
      omega
    refine (lead_iff _ _).2 ⟨g1, g2, g3, g4, ⟨by show 0 ≤ r.n; omega, a2⟩, g6, ⟨a3, fun e => absurd e (by show ¬ r.n = 0; omega), f3, f4⟩, fun a ha => ?_⟩
    obtain ⟨b1, b2, b3, b4⟩ := hk a ha
    have hz : a.st = 0 := by
      by_cases e : a.st = 0
      · exact e
      · exact absurd a1 (b3 e).1
    exact (known_iff _ _ _ a).2 ⟨b1, b2, fun e => absurd hz e, b4⟩
  rw [if_neg k5] at h ⊢
  by_cases k6 : r.kind = 6
  · rw [if_pos k6] at h ⊢
    by_cases a1 : r.agent < l.ags.length
    rotate_left
    · rw [if_neg a1] at h; exact absurd h (by decide)
    rw [if_pos a1] at h ⊢
    by_cases a2 : l.goal ≠ 0 ∧ r.tr = l.next ∧ isTurn c l r.agent.toNat = true
    rotate_left
    · rw [if_neg a2] at h; exact absurd h (by decide)
    rw [if_pos a2]
    have hn : r.tr ≤ 200 := by
      simp only [outside, uT, uN, k6] at ho
      simp [within] at ho
      omega
    refine (lead_iff _ _).2 ⟨g1, g2, g3, g4, g5, ⟨by show 1 ≤ l.next + 1; omega, by show l.next + 1 ≤ 201; omega⟩, ⟨f1, f2, by simpa using f3, f4⟩, fun a ha => ?_⟩
    rcases List.mem_or_eq_of_mem_set ha with ha | rfl
    · obtain ⟨b1, b2, b3, b4⟩ := hk a ha
      exact (known_iff _ _ _ a).2 ⟨b1, ⟨b2.1, by show a.tr ≤ l.next + 1 - 1; omega⟩, b3, b4⟩
    · exact (known_iff _ _ _ _).2 ⟨⟨by show (0 : Int) ≤ 1; decide, by show (1 : Int) ≤ 3; decide⟩, ⟨by show 0 ≤ l.next; omega, by show l.next ≤ l.next + 1 - 1; omega⟩, fun _ => ⟨a2.1, by show ¬ l.next = 0; omega⟩, fun e => ⟨e, by show ¬ (1 : Int) = 0; decide⟩⟩
  rw [if_neg k6] at h ⊢
  by_cases k7 : r.kind = 7
  · rw [if_pos k7] at h ⊢
    by_cases a1 : r.agent < l.ags.length
    rotate_left
    · rw [if_neg a1] at h; exact absurd h (by decide)
    rw [if_pos a1] at h ⊢
    by_cases a2 : (l.ags.getD r.agent.toNat ⟨0, 0, false⟩).st = 1 ∧ (l.ags.getD r.agent.toNat ⟨0, 0, false⟩).tr = r.tr
    rotate_left
    · rw [if_neg a2] at h; exact absurd h (by decide)
    rw [if_pos a2]
    have hn : 0 ≤ r.agent := by
      simp only [outside, uT, uN, k7] at ho
      simp [within] at ho
      omega
    have hlt : r.agent.toNat < l.ags.length := by omega
    have hmem : l.ags.getD r.agent.toNat ⟨0, 0, false⟩ ∈ l.ags := by
      rw [List.getD_eq_getElem?_getD, List.getElem?_eq_getElem hlt]; exact List.getElem_mem hlt
    refine (lead_iff _ _).2 ⟨g1, g2, g3, g4, g5, g6, ⟨f1, f2, by simpa using f3, f4⟩, fun a ha => ?_⟩
    rcases List.mem_or_eq_of_mem_set ha with ha | rfl
    · exact g8 a ha
    · obtain ⟨b1, b2, b3, b4⟩ := hk _ hmem
      have b5 := b3 (by rw [a2.1]; decide)
      cases hg : r.good with
      | true => exact (known_iff _ _ _ _).2 ⟨⟨by simp, by simp⟩, b2, fun _ => b5, fun e => ⟨(b4 e).1, by simp⟩⟩
      | false => exact (known_iff _ _ _ _).2 ⟨⟨by simp, by simp⟩, b2, fun _ => b5, fun e => ⟨(b4 e).1, by simp⟩⟩
  rw [if_neg k7] at h ⊢
  by_cases k8 : r.kind = 8
  · rw [if_pos k8] at h ⊢
    by_cases a1 : l.goal = 0 ∨ l.back = true
    · rw [if_pos a1] at h; exact absurd h (by decide)
    rw [if_neg a1]
    refine (lead_iff _ _).2 ⟨g1, g2, g3, g4, g5, g6, ⟨f1, fun e => absurd (.inl e) a1, f3, f4⟩, fun a ha => ?_⟩
    obtain ⟨b1, b2, b3, b4⟩ := hk a ha
    exact (known_iff _ _ _ a).2 ⟨b1, b2, b3, fun e => ⟨rfl, (b4 e).2⟩⟩
  rw [if_neg k8] at h ⊢
  by_cases k9 : r.kind = 9
  · rw [if_pos k9] at h ⊢
    by_cases a1 : l.goal = 0 ∨ isOver c l = false
    · rw [if_pos a1] at h; exact absurd h (by decide)
    rw [if_neg a1]
    have hg : l.goal ≠ 0 := fun e => a1 (.inl e)
    have hnow : 1 ≤ (if l.back = true then l.now else l.goal) ∧ (if l.back = true then l.now else l.goal) ≤ l.rels.length := by
      split <;> omega
    refine (lead_iff _ _).2 ⟨g1, g2, g3, hnow, ⟨by show (0 : Int) ≤ 0; decide, by show (0 : Int) ≤ l.rels.length; omega⟩, g6, ⟨fun e => by have h0 := hnow.1; have e2 : (0 : Int) = (if l.back = true then l.now else l.goal) := e; omega, fun _ => rfl, by simpa using f3, f4⟩, fun a ha => ?_⟩
    obtain ⟨b, hb, rfl⟩ := List.mem_map.1 ha
    obtain ⟨b1, b2, b3, b4⟩ := hk b hb
    exact (known_iff _ _ _ _).2 ⟨⟨by simp, by simp⟩, b2, fun e => absurd rfl e, fun e => by cases e⟩
  rw [if_neg k9] at h
  exact absurd h (by decide)
theorem conf_waves {c : Config} (h0 : chkConfig c = 0) : Wv.chk c.waves (many c) = 0 := by
  unfold chkConfig at h0
  by_cases e1 : chkRel c.fid c.flock = 0
  rotate_left
  · rw [if_neg e1] at h0; exact absurd h0 e1
  rw [if_pos e1] at h0
  by_cases e2 : c.fid = 1 ∧ within c.budget 0 3 = true
  rotate_left
  · rw [if_neg e2] at h0; exact absurd h0 (by decide)
  rw [if_pos e2] at h0
  by_cases e3 : ruled c.flock c.rules = 0
  · rw [if_pos e3] at h0; exact h0
  · rw [if_neg e3] at h0; exact absurd h0 e3
/-- how many stand in the waves, counted wave by wave till there are too many -/
def sumTo : Nat → List (List Int) → Nat
  | n, [] => n
  | n, m :: r => if 6 < n + m.length then n + m.length else sumTo (n + m.length) r
def agents (c : Config) : Nat := sumTo 0 c.waves
theorem sumTo_eq : ∀ (l : List (List Int)) (n : Nat), n ≤ 6 → sumTo n l = n + l.flatten.length ∨ (6 < sumTo n l ∧ 6 < n + l.flatten.length)
  | [], n, _ => .inl (by simp [sumTo])
  | m :: r, n, hn => by
    rw [sumTo]
    split
    · rename_i h; exact .inr ⟨h, by simp; omega⟩
    · rename_i h
      rcases sumTo_eq r (n + m.length) (by omega) with e | ⟨e1, e2⟩
      · exact .inl (by rw [e]; simp; omega)
      · exact .inr ⟨e1, by simp at e2 ⊢; omega⟩
theorem agents_eq (c : Config) : agents c = many c ∨ (6 < agents c ∧ 6 < many c) := by
  have := sumTo_eq c.waves 0 (by decide)
  simpa [agents, many] using this
theorem agents_chk (c : Config) : Wv.chk c.waves (agents c) = Wv.chk c.waves (many c) := by
  rcases agents_eq c with e | ⟨e1, e2⟩
  · rw [e]
  · unfold Wv.chk; rw [if_neg (by omega), if_neg (by omega)]
theorem agents_ok {c : Config} (h : chkConfig c = 0) : agents c = many c ∧ many c ≤ 6 ∧ 1 ≤ many c := by
  have h1 := (Wv.all_stand (conf_waves h)).1
  rcases agents_eq c with e | ⟨e1, e2⟩
  · exact ⟨e, by omega, by omega⟩
  · omega
theorem thr_eq {c : Config} {l : Leader} (h : chkLeader c l = 0) : (l.ags.map fun a => a.st == 2 || a.st == 3) = through l := by
  obtain ⟨_, _, _, _, _, _, _, g8⟩ := (lead_iff c l).1 h
  unfold through
  refine List.map_congr_left fun a ha => ?_
  have := ((known_iff _ _ _ a).1 (g8 a ha)).1
  rw [Bool.eq_iff_iff]
  simp
  omega
theorem lead_few {c : Config} {l : Leader} (h : chkLeader c l = 0) : l.ags.length = many c ∧ l.ags.length ≤ 6 ∧ Wv.chk c.waves (l.ags.length : Nat) = 0 ∧ chkConfig c = 0 := by
  obtain ⟨g1, _, _, _, _, _, ⟨_, _, f3, _⟩, _⟩ := (lead_iff c l).1 h
  have := agents_ok g1
  exact ⟨f3, by omega, by rw [f3]; exact conf_waves g1, g1⟩
theorem fresh_chk {c : Config} (h : chkConfig c = 0) : chkLeader c (freshL c) = 0 := by
  have h0 := h
  unfold chkConfig at h0
  by_cases h1 : chkRel c.fid c.flock = 0
  rotate_left
  · rw [if_neg h1] at h0; exact absurd h0 h1
  rw [if_pos h1] at h0
  by_cases h2 : c.fid = 1 ∧ within c.budget 0 3 = true
  rotate_left
  · rw [if_neg h2] at h0; exact absurd h0 (by decide)
  rw [if_pos h2] at h0
  by_cases h3 : ruled c.flock c.rules = 0
  rotate_left
  · rw [if_neg h3] at h0; exact absurd h0 h3
  refine (lead_iff _ _).2 ⟨h, ⟨by simp [freshL], by simp [freshL]⟩, ?_, ⟨by simp [freshL], by simp [freshL]⟩, ⟨by simp [freshL], by simp [freshL]⟩, ⟨by simp [freshL], by simp [freshL]⟩, ⟨by simp [freshL], fun _ => rfl, by simp [freshL], by simp [freshL, alike, same]⟩, fun a ha => ?_⟩
  · show chkRels c.rules 1 [(c.fid, c.flock)] = 0
    rw [chkRels, if_pos h3, if_pos h2.1, chkRels]
  · have : a = ⟨0, 0, false⟩ := by
      simp only [freshL] at ha
      exact List.eq_of_mem_replicate ha
    subst this
    exact (known_iff _ _ _ _).2 ⟨⟨by simp, by simp⟩, ⟨by simp, by simp [freshL]⟩, fun e => absurd rfl e, fun e => by cases e⟩
/-- nobody is told ahead of their wave, nor when too many are ill -/
theorem send_waits {c : Config} {l : Leader} {r : Note} (h : (nextL c l r).2 = 0) (hk : r.kind = 6) (hb : l.back = false) :
    (0 ≤ r.agent ∧ r.agent < l.ags.length) ∧ (l.ags.getD r.agent.toNat ⟨0, 0, false⟩).st = 0 ∧ (count l 3 : Int) ≤ c.budget ∧ ∀ k : Nat, k < l.ags.length → Wv.of c.waves k < Wv.of c.waves r.agent → 2 ≤ (l.ags.getD k ⟨0, 0, false⟩).st := by
  obtain ⟨hl, hr, _⟩ := next_chk h
  have ho := note_outside hr
  unfold nextL at h
  rw [if_pos hl, if_pos hr] at h
  unfold nextIn at h
  rw [if_neg (by omega), if_neg (by omega), if_pos hk] at h
  by_cases a1 : r.agent < l.ags.length
  rotate_left
  · rw [if_neg a1] at h; exact absurd h (by decide)
  rw [if_pos a1] at h
  by_cases a2 : l.goal ≠ 0 ∧ r.tr = l.next ∧ isTurn c l r.agent.toNat = true
  rotate_left
  · rw [if_neg a2] at h; exact absurd h (by decide)
  have hag : 0 ≤ r.agent := by
    simp only [outside] at ho
    simp [within] at ho
    omega
  have ht := a2.2.2
  unfold isTurn at ht
  rw [if_neg (by rw [hb]; decide)] at ht
  simp only [Bool.and_eq_true, decide_eq_true_eq] at ht
  obtain ⟨⟨t1, t2⟩, t3⟩ := ht
  have er : ((r.agent.toNat : Nat) : Int) = r.agent := by omega
  rw [er] at t2
  refine ⟨⟨hag, a1⟩, t1, t3, fun k hk2 hlt => ?_⟩
  obtain ⟨j, j1, j2, j3, j4⟩ := Wv.now_spec c.waves (through l)
  have hc := ((lead_iff c l).1 hl)
  have hw : Wv.chk c.waves (many c) = 0 := by
    have h0 := hc.1
    unfold chkConfig at h0
    by_cases e1 : chkRel c.fid c.flock = 0
    rotate_left
    · rw [if_neg e1] at h0; exact absurd h0 e1
    rw [if_pos e1] at h0
    by_cases e2 : c.fid = 1 ∧ within c.budget 0 3 = true
    rotate_left
    · rw [if_neg e2] at h0; exact absurd h0 (by decide)
    rw [if_pos e2] at h0
    by_cases e3 : ruled c.flock c.rules = 0
    · rw [if_pos e3] at h0; exact h0
    · rw [if_neg e3] at h0; exact absurd h0 e3
  have hs := Wv.all_stand hw
  have hlen := hc.2.2.2.2.2.2.1.2.2.1
  obtain ⟨i, i1, i2, i3, i4⟩ := Wv.of_spec (a := (k : Int)) (l := c.waves) (hs.2.2.1 k (by omega) (by omega))
  rw [i2, t2, j2] at hlt
  have hf := Wv.open_false (j3 i (by omega)) k i3
  simp only [Int.toNat_natCast] at hf
  have e : (through l).getD k true = decide (2 ≤ (l.ags.getD k ⟨0, 0, false⟩).st) := by
    unfold through
    rw [List.getD_eq_getElem?_getD, List.getElem?_map, List.getElem?_eq_getElem hk2, List.getD_eq_getElem?_getD, List.getElem?_eq_getElem hk2]
    rfl
  rw [e] at hf
  simpa using hf
/-- tries rise, releases stay, and what is now stays but at an end -/
theorem next_rises {c : Config} {l : Leader} {r : Note} (h : (nextL c l r).2 = 0) : l.next ≤ (nextL c l r).1.next ∧ (∃ m, (nextL c l r).1.rels = l.rels ++ m) ∧ (r.kind ≠ 9 → (nextL c l r).1.now = l.now) := by
  obtain ⟨hl, hr, _⟩ := next_chk h
  unfold nextL at h ⊢
  rw [if_pos hl, if_pos hr] at h ⊢
  unfold nextIn at h ⊢
  by_cases k4 : r.kind = 4
  · rw [if_pos k4] at h ⊢
    by_cases a1 : l.rels.length = 6
    · rw [if_pos a1] at h; exact absurd h (by decide)
    rw [if_neg a1] at h ⊢
    by_cases a2 : r.id = l.rels.length + 1
    rotate_left
    · rw [if_neg a2] at h; exact absurd h (by decide)
    rw [if_pos a2] at h ⊢
    by_cases a3 : ruled r.lock c.rules = 0
    rotate_left
    · rw [if_neg a3] at h; exact absurd h (by decide)
    rw [if_pos a3]
    exact ⟨Int.le_refl _, ⟨_, rfl⟩, fun _ => rfl⟩
  rw [if_neg k4] at h ⊢
  by_cases k5 : r.kind = 5
  · rw [if_pos k5] at h ⊢
    by_cases a1 : l.goal = 0
    rotate_left
    · rw [if_neg a1] at h; exact absurd h (by decide)
    rw [if_pos a1] at h ⊢
    by_cases a2 : r.n ≤ l.rels.length
    rotate_left
    · rw [if_neg a2] at h; exact absurd h (by decide)
    rw [if_pos a2] at h ⊢
    by_cases a3 : r.n = l.now
    · rw [if_pos a3] at h; exact absurd h (by decide)
    rw [if_neg a3]
    exact ⟨Int.le_refl _, ⟨[], by simp⟩, fun _ => rfl⟩
  rw [if_neg k5] at h ⊢
  by_cases k6 : r.kind = 6
  · rw [if_pos k6] at h ⊢
    by_cases a1 : r.agent < l.ags.length
    rotate_left
    · rw [if_neg a1] at h; exact absurd h (by decide)
    rw [if_pos a1] at h ⊢
    by_cases a2 : l.goal ≠ 0 ∧ r.tr = l.next ∧ isTurn c l r.agent.toNat = true
    rotate_left
    · rw [if_neg a2] at h; exact absurd h (by decide)
    rw [if_pos a2]
    exact ⟨by show l.next ≤ l.next + 1; omega, ⟨[], by simp⟩, fun _ => rfl⟩
  rw [if_neg k6] at h ⊢
  by_cases k7 : r.kind = 7
  · rw [if_pos k7] at h ⊢
    by_cases a1 : r.agent < l.ags.length
    rotate_left
    · rw [if_neg a1] at h; exact absurd h (by decide)
    rw [if_pos a1] at h ⊢
    by_cases a2 : (l.ags.getD r.agent.toNat ⟨0, 0, false⟩).st = 1 ∧ (l.ags.getD r.agent.toNat ⟨0, 0, false⟩).tr = r.tr
    rotate_left
    · rw [if_neg a2] at h; exact absurd h (by decide)
    rw [if_pos a2]
    exact ⟨Int.le_refl _, ⟨[], by simp⟩, fun _ => rfl⟩
  rw [if_neg k7] at h ⊢
  by_cases k8 : r.kind = 8
  · rw [if_pos k8] at h ⊢
    by_cases a1 : l.goal = 0 ∨ l.back = true
    · rw [if_pos a1] at h; exact absurd h (by decide)
    rw [if_neg a1]
    exact ⟨Int.le_refl _, ⟨[], by simp⟩, fun _ => rfl⟩
  rw [if_neg k8] at h ⊢
  by_cases k9 : r.kind = 9
  · rw [if_pos k9] at h ⊢
    by_cases a1 : l.goal = 0 ∨ isOver c l = false
    · rw [if_pos a1] at h; exact absurd h (by decide)
    rw [if_neg a1]
    exact ⟨Int.le_refl _, ⟨[], by simp⟩, fun e => absurd k9 e⟩
  rw [if_neg k9] at h
  exact absurd h (by decide)
/-- the document's own way: wave by wave -/
def turnWalk (t : List Bool) (k : Int) : List (List Int) → Bool
  | [] => false
  | w :: r => if k ∈ w then true else if Wv.isOpen t w = true then false else turnWalk t k r
theorem turnWalk_eq {t : List Bool} {k : Int} (hk : t.getD k.toNat true = false) : ∀ (l : List (List Int)), (∃ w ∈ l, k ∈ w) → ∀ n : Nat, turnWalk t k l = decide (Wv.ofFrom k l n = Wv.nowFrom t l n) := by
  intro l
  induction l with
  | nil => rintro ⟨w, hw, _⟩; cases hw
  | cons w r ih =>
    rintro hs n
    rw [turnWalk, Wv.ofFrom, Wv.nowFrom]
    by_cases h1 : k ∈ w
    · have ho : Wv.isOpen t w = true := by
        unfold Wv.isOpen
        exact List.any_eq_true.2 ⟨k, h1, by rw [hk]; rfl⟩
      simp [h1, ho]
    · have hs' : ∃ w ∈ r, k ∈ w := by
        obtain ⟨x, hx, hkx⟩ := hs
        rcases List.mem_cons.1 hx with rfl | hx
        · exact absurd hkx h1
        · exact ⟨x, hx, hkx⟩
      rw [if_neg h1]
      by_cases ho : Wv.isOpen t w = true
      · obtain ⟨j, _, j2, _⟩ := Wv.ofFrom_spec (k := n + 1) hs'
        rw [if_pos ho]
        have : ¬ Wv.ofFrom k r ((n : Int) + 1) = (n : Int) := by
          rw [show ((n : Int) + 1) = ((n + 1 : Nat) : Int) from by simp, j2]
          omega
        simp [h1, ho, this]
      · rw [if_neg ho]
        have := ih hs' (n + 1)
        rw [show ((n + 1 : Nat) : Int) = (n : Int) + 1 from by simp] at this
        simp [h1, ho, this]
end Ld
end Go.Proofs.YtpenkhehceglfaaGreatDoor
/- Where each whose turn it is is told, and says that they are there and good, it is over at last. Plain. -/
namespace Go.Proofs.YtpenkhehceglfaaGreatDoor
namespace Ld
open Lk Dk
def gotR (k : Nat) (t : Int) : Note := ⟨7, k, t, 0, true, 0, []⟩
def sendR (k : Nat) (t : Int) : Note := ⟨6, k, t, 0, false, 0, []⟩
def backR : Note := ⟨8, 0, 0, 0, false, 0, []⟩
def endR : Note := ⟨9, 0, 0, 0, false, 0, []⟩
theorem gotR_chk {k : Nat} {t : Int} (hk : k < 6) (h1 : 1 ≤ t) (h2 : t ≤ 200) : chkNote (gotR k t) = 0 := by
  have e1 : within (k : Int) 0 5 = true := by simp [within]; omega
  have e2 : within t 1 200 = true := by simp [within]; omega
  simp [chkNote, gotR, unused, outside, uA, uT, uN, uG, uR, e1, e2]
  simp [within]
theorem sendR_chk {k : Nat} {t : Int} (hk : k < 6) (h1 : 1 ≤ t) (h2 : t ≤ 200) : chkNote (sendR k t) = 0 := by
  have e1 : within (k : Int) 0 5 = true := by simp [within]; omega
  have e2 : within t 1 200 = true := by simp [within]; omega
  simp [chkNote, sendR, unused, outside, uA, uT, uN, uG, uR, e1, e2]
  simp [within]
theorem backR_chk : chkNote backR = 0 := by decide
theorem endR_chk : chkNote endR = 0 := by decide
/-! ### sums -/
def tot (f : Known → Nat) : List Known → Nat
  | [] => 0
  | a :: t => f a + tot f t
theorem tot_set (f : Known → Nat) (a : Known) : ∀ (l : List Known) (k : Nat), k < l.length → tot f (l.set k a) + f (l.getD k ⟨0, 0, false⟩) = tot f l + f a
  | [], k, h => by simp at h
  | x :: t, 0, _ => by simp [tot]; omega
  | x :: t, k + 1, h => by
    have := tot_set f a t k (by simpa using h)
    simp only [List.set_cons_succ, tot, List.getD_cons_succ]
    omega
theorem tot_map (f : Known → Nat) (h : Known → Known) (hf : ∀ a, f (h a) = f a) : ∀ l : List Known, tot f (l.map h) = tot f l
  | [] => rfl
  | a :: t => by simp [tot, hf, tot_map f h hf t]
theorem tot_app (f : Known → Nat) : ∀ l m : List Known, tot f (l ++ m) = tot f l + tot f m
  | [], m => by simp [tot]
  | a :: t, m => by simp [tot, tot_app f t m]; omega
theorem tot_le (f g : Known → Nat) (h : ∀ a, f a ≤ g a) : ∀ l : List Known, tot f l ≤ tot g l
  | [] => Nat.le_refl _
  | a :: t => by simp only [tot]; have := tot_le f g h t; have := h a; omega
theorem tot_zero (f : Known → Nat) : ∀ l : List Known, tot f l = 0 ↔ ∀ a ∈ l, f a = 0
  | [] => by simp [tot]
  | a :: t => by simp [tot, tot_zero f t]
theorem tot_bound (f : Known → Nat) (n : Nat) (h : ∀ a, f a ≤ n) : ∀ l : List Known, tot f l ≤ l.length * n
  | [] => by simp [tot]
  | a :: t => by
    have := tot_bound f n h t
    have := h a
    simp only [tot, List.length_cons, Nat.add_mul]
    omega
def fI (a : Known) : Nat := if a.st = 0 then 1 else 0
def fB (a : Known) : Nat := if a.st ≠ 0 ∧ a.back = false then 1 else 0
def fT (b : Bool) (a : Known) : Nat := if b = true then fB a else (if a.st = 0 then 2 else 1)
def fM (b : Bool) (a : Known) : Nat := if b = true then fB a else fI a
/-- how many rounds it takes at most -/
def left (l : Leader) : Nat := if l.back = true then (if tot fB l.ags = 0 then 1 else 2) else tot fI l.ags + 3
/-! ### who was told is heard -/
def hear1 (a : Known) : Known := if a.st = 1 then { a with st := 2 } else a
def hear (k : Nat) (l : Leader) : Leader := { l with ags := (l.ags.take k).map hear1 ++ l.ags.drop k }
theorem hear_zero (l : Leader) : hear 0 l = l := by simp [hear]
theorem hear_len (k : Nat) (l : Leader) : (hear k l).ags.length = l.ags.length := by simp [hear]; omega
theorem hear_at {k : Nat} {l : Leader} (h : k < l.ags.length) : (hear k l).ags.getD k ⟨0, 0, false⟩ = l.ags.getD k ⟨0, 0, false⟩ := by
  simp only [hear, List.getD_eq_getElem?_getD]
  rw [List.getElem?_append_right (by simp; omega)]
  simp [Nat.min_eq_left (Nat.le_of_lt h)]
theorem hear_tot (f : Known → Nat) (hf : ∀ a, f (hear1 a) = f a) (k : Nat) (l : Leader) : tot f (hear k l).ags = tot f l.ags := by
  simp only [hear]
  rw [tot_app, tot_map f hear1 hf, ← tot_app, List.take_append_drop]
theorem hear_set {k : Nat} {l : Leader} (h : k < l.ags.length) : (hear k l).ags.set k (hear1 (l.ags.getD k ⟨0, 0, false⟩)) = (hear (k + 1) l).ags := by
  simp only [hear]
  have hl : ((l.ags.take k).map hear1).length = k := by simp; omega
  rw [List.set_append_right _ _ (by omega), hl, Nat.sub_self, List.drop_eq_getElem_cons h, List.set_cons_zero, List.take_succ_eq_append_getElem h, List.map_append]
  simp [List.getD_eq_getElem?_getD, List.getElem?_eq_getElem h]
theorem hear_skip {k : Nat} {l : Leader} (h : k < l.ags.length) (hs : (l.ags.getD k ⟨0, 0, false⟩).st ≠ 1) : hear (k + 1) l = hear k l := by
  have e := hear_set h
  have e1 : hear1 (l.ags.getD k ⟨0, 0, false⟩) = l.ags.getD k ⟨0, 0, false⟩ := by unfold hear1; rw [if_neg hs]
  rw [e1] at e
  have e2 : (hear k l).ags.set k (l.ags.getD k ⟨0, 0, false⟩) = (hear k l).ags := by
    rw [← hear_at h]
    apply List.ext_getElem?
    intro i
    rw [List.getElem?_set]
    split
    · rename_i hi; subst hi
      split
      · rename_i hl; rw [List.getD_eq_getElem?_getD, List.getElem?_eq_getElem hl]; rfl
      · rename_i hl; rw [hear_len] at hl; exact absurd h hl
    · rfl
  rw [e2] at e
  show { l with ags := _ } = { l with ags := _ }
  have e' : (hear (k + 1) l).ags = (hear k l).ags := e.symm
  simp only [hear] at e'
  rw [e']
theorem hear_next {c : Config} {k : Nat} {l : Leader} (h : k < l.ags.length) (hs : (l.ags.getD k ⟨0, 0, false⟩).st = 1) (hc : chkLeader c (hear k l) = 0) : nextL c (hear k l) (gotR k (l.ags.getD k ⟨0, 0, false⟩).tr) = (hear (k + 1) l, 0) := by
  obtain ⟨g1, g2, g3, g4, g5, g6, ⟨f1, f2, f3, f4⟩, g8⟩ := (lead_iff c _).1 hc
  have hn6 : l.ags.length ≤ 6 := by
    rw [hear_len] at f3
    have hw : Wv.chk c.waves (many c) = 0 := conf_waves g1
    have := (Wv.all_stand hw).1
    omega
  have hat := hear_at h
  have hmem : l.ags.getD k ⟨0, 0, false⟩ ∈ (hear k l).ags := by
    rw [← hat, List.getD_eq_getElem?_getD, List.getElem?_eq_getElem (by rw [hear_len]; exact h)]
    exact List.getElem_mem _
  obtain ⟨b1, b2, b3, b4⟩ := (known_iff _ _ _ _).1 (g8 _ hmem)
  have b5 := b3 (by rw [hs]; decide)
  have hr := gotR_chk (k := k) (t := (l.ags.getD k ⟨0, 0, false⟩).tr) (by omega) (by omega) (by omega)
  unfold nextL
  rw [if_pos hc, if_pos hr]
  unfold nextIn
  have hk : (gotR k (l.ags.getD k ⟨0, 0, false⟩).tr).kind = 7 := rfl
  rw [if_neg (by rw [hk]; decide), if_neg (by rw [hk]; decide), if_neg (by rw [hk]; decide), if_pos hk]
  have ha : (gotR k (l.ags.getD k ⟨0, 0, false⟩).tr).agent = k := rfl
  have ht : (gotR k (l.ags.getD k ⟨0, 0, false⟩).tr).tr = (l.ags.getD k ⟨0, 0, false⟩).tr := rfl
  have hg : (gotR k (l.ags.getD k ⟨0, 0, false⟩).tr).good = true := rfl
  rw [ha, ht, hg, Int.toNat_natCast, hat, if_pos (by rw [hear_len]; omega), if_pos ⟨hs, rfl⟩]
  have e := hear_set h
  unfold hear1 at e
  rw [if_pos hs] at e
  simp only [if_true]
  rw [e]
  rfl
theorem hear_told {l : Leader} {k : Nat} (hk : l.ags.length ≤ k) : ∀ a ∈ (hear k l).ags, a.st ≠ 1 := fun a ha => by
  simp only [hear, List.drop_eq_nil_of_le hk, List.append_nil, List.take_of_length_le hk, List.mem_map] at ha
  obtain ⟨b, _, rfl⟩ := ha
  unfold hear1
  split
  · simp
  · assumption
/-! ### whose turn it is is told -/
theorem turn_back {c : Config} {l : Leader} {k : Nat} (hb : l.back = true) : isTurn c l k = true ↔ (l.ags.getD k ⟨0, 0, false⟩).st ≠ 0 ∧ (l.ags.getD k ⟨0, 0, false⟩).back = false := by
  unfold isTurn; rw [if_pos hb]; simp
theorem turn_on {c : Config} {l : Leader} {k : Nat} (hb : l.back = false) (h : isTurn c l k = true) : (l.ags.getD k ⟨0, 0, false⟩).st = 0 := by
  unfold isTurn at h; rw [if_neg (by rw [hb]; decide)] at h; simp at h; exact h.1.1
def sent (l : Leader) (k : Nat) : Leader := { l with ags := l.ags.set k ⟨1, l.next, l.back⟩, next := l.next + 1 }
theorem send_next {c : Config} {l : Leader} {k : Nat} (hk : k < l.ags.length) (hc : chkLeader c l = 0) (hg : l.goal ≠ 0) (hn : l.next ≤ 200) (ht : isTurn c l k = true) : nextL c l (sendR k l.next) = (sent l k, 0) := by
  obtain ⟨g1, g2, g3, g4, g5, g6, ⟨f1, f2, f3, f4⟩, g8⟩ := (lead_iff c _).1 hc
  have hn6 : l.ags.length ≤ 6 := by
    have := (Wv.all_stand (conf_waves g1)).1
    omega
  have hr := sendR_chk (k := k) (t := l.next) (by omega) (by omega) hn
  unfold nextL
  rw [if_pos hc, if_pos hr]
  unfold nextIn
  have hkd : (sendR k l.next).kind = 6 := rfl
  rw [if_neg (by rw [hkd]; decide), if_neg (by rw [hkd]; decide), if_pos hkd]
  have ha : (sendR k l.next).agent = k := rfl
  have htr : (sendR k l.next).tr = l.next := rfl
  rw [ha, htr, Int.toNat_natCast, if_pos (by omega), if_pos ⟨hg, rfl, ht⟩]
  rfl
/-- between: l1 is the leader ahead of it, k of its agents were asked, somebody was told or nobody -/
structure Mid (c : Config) (l1 l : Leader) (k : Nat) (mv : Bool) : Prop where
  chk : chkLeader c l = 0
  goal : l.goal = l1.goal
  now : l.now = l1.now
  back : l.back = l1.back
  len : l.ags.length = l1.ags.length
  few : l.next + (tot (fT l.back) l.ags : Int) ≤ 192
  done : l.back = true → ∀ j, j < k → (l.ags.getD j ⟨0, 0, false⟩).st ≠ 0 → (l.ags.getD j ⟨0, 0, false⟩).back = true
  same : mv = false → l = l1
  told : mv = true → ∃ j, j < l.ags.length ∧ (l.ags.getD j ⟨0, 0, false⟩).st = 1
  less : mv = true → tot (fM l.back) l.ags < tot (fM l.back) l1.ags
theorem Mid.skip {c : Config} {l1 l : Leader} {k : Nat} {mv : Bool} (h : Mid c l1 l k mv) (ht : isTurn c l k = false) : Mid c l1 l (k + 1) mv := by
  refine ⟨h.chk, h.goal, h.now, h.back, h.len, h.few, fun hb j hj hs => ?_, h.same, h.told, h.less⟩
  by_cases e : j < k
  · exact h.done hb j e hs
  · have ej : j = k := by omega
    subst ej
    cases hbk : (l.ags.getD j ⟨0, 0, false⟩).back with
    | true => rfl
    | false => rw [(turn_back hb).2 ⟨hs, hbk⟩] at ht; cases ht
theorem getD_set (l : List Known) (k j : Nat) (a : Known) : (l.set k a).getD j ⟨0, 0, false⟩ = if k = j ∧ k < l.length then a else l.getD j ⟨0, 0, false⟩ := by
  rw [List.getD_eq_getElem?_getD, List.getElem?_set, List.getD_eq_getElem?_getD]
  by_cases e : k = j
  · subst e
    by_cases h : k < l.length
    · simp [h]
    · simp [h]
  · simp [e]
theorem Mid.send {c : Config} {l1 l : Leader} {k : Nat} {mv : Bool} (h : Mid c l1 l k mv) (hk : k < l.ags.length) (hg : l.goal ≠ 0) (ht : isTurn c l k = true) : nextL c l (sendR k l.next) = (sent l k, 0) ∧ Mid c l1 (sent l k) (k + 1) true := by
  have hf := h.few
  have hx := send_next hk h.chk hg (by omega) ht
  have hc := (next_chk (c := c) (l := l) (r := sendR k l.next) (by rw [hx])).2.2
  rw [hx] at hc
  have T := tot_set (fT l.back) ⟨1, l.next, l.back⟩ l.ags k hk
  have M := tot_set (fM l.back) ⟨1, l.next, l.back⟩ l.ags k hk
  have hT : fT l.back ⟨1, l.next, l.back⟩ + 1 ≤ fT l.back (l.ags.getD k ⟨0, 0, false⟩) ∧ fM l.back ⟨1, l.next, l.back⟩ + 1 ≤ fM l.back (l.ags.getD k ⟨0, 0, false⟩) := by
    cases hb : l.back with
    | true =>
      have := (turn_back hb).1 ht
      simp only [fT, fM, fB, if_true]
      rw [if_neg (by simp), if_pos this]
      exact ⟨Nat.le_refl _, Nat.le_refl _⟩
    | false =>
      have := turn_on hb ht
      simp only [fT, fM, fI]
      rw [this]
      simp
  refine ⟨hx, hc, h.goal, h.now, h.back, by simpa [sent] using h.len, ?_, fun hb j hj hs => ?_, (fun e => by cases e), fun _ => ⟨k, by simpa [sent] using hk, ?_⟩, fun _ => ?_⟩
  · show l.next + 1 + (tot (fT l.back) (l.ags.set k ⟨1, l.next, l.back⟩) : Int) ≤ 192
    omega
  · have hb' : l.back = true := hb
    show ((l.ags.set k ⟨1, l.next, l.back⟩).getD j ⟨0, 0, false⟩).back = true
    have hs' : ((l.ags.set k ⟨1, l.next, l.back⟩).getD j ⟨0, 0, false⟩).st ≠ 0 := hs
    rw [getD_set] at hs' ⊢
    by_cases e : k = j ∧ k < l.ags.length
    · rw [if_pos e]; exact hb'
    · rw [if_neg e] at hs' ⊢
      exact h.done hb' j (by omega) hs'
  · show ((l.ags.set k ⟨1, l.next, l.back⟩).getD k ⟨0, 0, false⟩).st = 1
    rw [getD_set, if_pos ⟨rfl, hk⟩]
  · show tot (fM l.back) (l.ags.set k ⟨1, l.next, l.back⟩) < tot (fM l.back) l1.ags
    cases mv with
    | false => have := h.same rfl; subst this; omega
    | true => have := h.less rfl; omega
theorem mem_getDK {l : List Known} {k : Nat} (h : k < l.length) : l.getD k ⟨0, 0, false⟩ ∈ l := by
  rw [List.getD_eq_getElem?_getD, List.getElem?_eq_getElem h]; exact List.getElem_mem h
theorem getDK_mem {l : List Known} {a : Known} (h : a ∈ l) : ∃ k, k < l.length ∧ l.getD k ⟨0, 0, false⟩ = a := by
  obtain ⟨k, hk, e⟩ := List.mem_iff_getElem.1 h
  exact ⟨k, hk, by rw [List.getD_eq_getElem?_getD, List.getElem?_eq_getElem hk, e]; rfl⟩
theorem told_over {c : Config} {l : Leader} {j : Nat} (hj : j < l.ags.length) (hs : (l.ags.getD j ⟨0, 0, false⟩).st = 1) : isOver c l = false := by
  have hm := mem_getDK hj
  generalize l.ags.getD j ⟨0, 0, false⟩ = a at hm hs
  unfold isOver
  split
  · rw [List.all_eq_false]
    exact ⟨a, hm, by simp [hs]⟩
  · have : (through l).all id = false := by
      unfold through
      rw [List.all_eq_false]
      exact ⟨_, List.mem_map.2 ⟨a, hm, rfl⟩, by simp [hs]⟩
    rw [this]; rfl
/-- at the end of a round -/
theorem Mid.moved {c : Config} {l1 l : Leader} (h : Mid c l1 l l1.ags.length true) : isOver c l = false ∧ left l + 1 ≤ left l1 := by
  obtain ⟨j, hj, hs⟩ := h.told rfl
  refine ⟨told_over hj hs, ?_⟩
  have hl := h.less rfl
  have hb := h.back
  unfold left
  cases hbk : l.back with
  | true =>
    rw [hbk] at hb hl
    rw [← hb]
    have h0 : tot fB l.ags = 0 := (tot_zero fB _).2 (fun a ha => by
      obtain ⟨k, hk, rfl⟩ := getDK_mem ha
      unfold fB
      rw [if_neg]
      rintro ⟨e1, e2⟩
      rw [h.done hbk k (by rw [← h.len]; exact hk) e1] at e2
      cases e2)
    have hl' : tot fB l.ags < tot fB l1.ags := hl
    simp only [if_true]
    rw [if_pos h0, if_neg (by omega)]
    omega
  | false =>
    rw [hbk] at hb hl
    rw [← hb]
    have hl' : tot fI l.ags < tot fI l1.ags := hl
    simp only [Bool.false_eq_true, if_false]
    omega
theorem Mid.still {c : Config} {l1 l : Leader} (h : Mid c l1 l l1.ags.length false) (hn : ∀ a ∈ l1.ags, a.st ≠ 1) (hb : l.back = true) : isOver c l = true := by
  have e := h.same rfl
  subst e
  unfold isOver
  rw [if_pos hb, List.all_eq_true]
  intro a ha
  obtain ⟨k, hk, rfl⟩ := getDK_mem ha
  have h1 := hn _ ha
  simp only [Bool.and_eq_true, decide_eq_true_eq, Bool.or_eq_true]
  refine ⟨h1, ?_⟩
  by_cases e : (l.ags.getD k ⟨0, 0, false⟩).st = 0
  · exact .inl e
  · exact .inr (h.done hb k hk e)
theorem back_next {c : Config} {l : Leader} (hc : chkLeader c l = 0) (hg : l.goal ≠ 0) (hb : l.back = false) : nextL c l backR = ({ l with back := true }, 0) := by
  unfold nextL
  rw [if_pos hc, if_pos backR_chk]
  unfold nextIn
  have hkd : backR.kind = 8 := rfl
  rw [if_neg (by rw [hkd]; decide), if_neg (by rw [hkd]; decide), if_neg (by rw [hkd]; decide), if_neg (by rw [hkd]; decide), if_pos hkd, if_neg]
  rintro (e | e)
  · exact hg e
  · rw [hb] at e; cases e
theorem end_next {c : Config} {l : Leader} (hc : chkLeader c l = 0) (hg : l.goal ≠ 0) (ho : isOver c l = true) : nextL c l endR = (⟨l.rels, if l.back = true then l.now else l.goal, 0, false, l.ags.map fun a => ⟨0, a.tr, false⟩, l.next⟩, 0) := by
  unfold nextL
  rw [if_pos hc, if_pos endR_chk]
  unfold nextIn
  have hkd : endR.kind = 9 := rfl
  rw [if_neg (by rw [hkd]; decide), if_neg (by rw [hkd]; decide), if_neg (by rw [hkd]; decide), if_neg (by rw [hkd]; decide), if_neg (by rw [hkd]; decide), if_pos hkd, if_neg]
  rintro (e | e)
  · exact hg e
  · rw [ho] at e; cases e
/-- at the beginning of a round, with g rounds to come -/
structure Round (c : Config) (was l : Leader) (g : Nat) : Prop where
  chk : chkLeader c l = 0
  goal : l.goal = was.goal
  now : l.now = was.now
  len : l.ags.length = was.ags.length
  few : l.next + (tot (fT l.back) l.ags : Int) ≤ 192
  left : left l ≤ g
theorem fT_le (b : Bool) (a : Known) : fT b a ≤ 2 := by
  unfold fT fB; split
  · split <;> omega
  · split <;> omega
theorem left_pos (l : Leader) : 1 ≤ left l := by
  unfold left; split
  · split <;> omega
  · omega
theorem round_first {c : Config} {l : Leader} (hc : chkLeader c l = 0) (hn : l.next ≤ 180) : Round c l l (2 * l.ags.length + 3) := by
  obtain ⟨g1, _, _, _, _, _, ⟨_, _, f3, _⟩, _⟩ := (lead_iff c _).1 hc
  have hn6 : l.ags.length ≤ 6 := by
    have := (Wv.all_stand (conf_waves g1)).1
    omega
  refine ⟨hc, rfl, rfl, rfl, ?_, ?_⟩
  · have := tot_bound (fT l.back) 2 (fT_le l.back) l.ags
    omega
  · have := tot_bound fI 1 (fun a => by unfold fI; split <;> omega) l.ags
    unfold left
    split
    · split <;> omega
    · omega
theorem hear1_fI (a : Known) : fI (hear1 a) = fI a := by
  unfold hear1; split
  · rename_i h; simp [fI, h]
  · rfl
theorem hear1_fB (a : Known) : fB (hear1 a) = fB a := by
  unfold hear1; split
  · rename_i h; simp [fB, h]
  · rfl
theorem hear1_fT (b : Bool) (a : Known) : fT b (hear1 a) = fT b a := by
  unfold fT; split
  · exact hear1_fB a
  · unfold hear1; split
    · rename_i h; simp [h]
    · rfl
/-- all that were told were heard -/
theorem Round.heard {c : Config} {was l : Leader} {g : Nat} (h : Round c was l g) (k : Nat) (hc : chkLeader c (hear k l) = 0) : Round c was (hear k l) g := by
  refine ⟨hc, h.goal, h.now, (hear_len k l).trans h.len, ?_, ?_⟩
  · have e := hear_tot (fT l.back) (hear1_fT l.back) k l
    show l.next + (tot (fT l.back) (hear k l).ags : Int) ≤ 192
    rw [e]; exact h.few
  · have e1 := hear_tot fI hear1_fI k l
    have e2 := hear_tot fB hear1_fB k l
    have := h.left
    unfold Ld.left at this ⊢
    rw [e1, e2]
    exact this
theorem Round.mid {c : Config} {was l : Leader} {g : Nat} (h : Round c was l g) : Mid c l l 0 false := ⟨h.chk, rfl, rfl, rfl, rfl, h.few, fun _ j hj => by omega, fun _ => rfl, (fun e => by cases e), (fun e => by cases e)⟩
theorem Round.next {c : Config} {was l1 l : Leader} {g : Nat} (h : Round c was l1 g) (hm : Mid c l1 l l1.ags.length true) : Round c was l (g - 1) := by
  have := (Mid.moved hm).2
  have := h.left
  exact ⟨hm.chk, hm.goal.trans h.goal, hm.now.trans h.now, hm.len.trans h.len, hm.few, by omega⟩
theorem Round.turned {c : Config} {was l : Leader} {g : Nat} (h : Round c was l g) (hg : l.goal ≠ 0) (hb : l.back = false) : Round c was { l with back := true } (g - 1) := by
  have hx := back_next h.chk hg hb
  have hc := (next_chk (c := c) (l := l) (r := backR) (by rw [hx])).2.2
  rw [hx] at hc
  refine ⟨hc, h.goal, h.now, h.len, ?_, ?_⟩
  · have := tot_le (fT true) (fT false) (fun a => by simp only [fT, fB, if_true, Bool.false_eq_true, if_false]; split <;> split <;> omega) l.ags
    have h2 := h.few
    rw [hb] at h2
    show l.next + (tot (fT true) l.ags : Int) ≤ 192
    omega
  · have h2 := h.left
    unfold Ld.left at h2 ⊢
    rw [hb] at h2
    simp only [Bool.false_eq_true, if_false] at h2
    simp only [if_true]
    split <;> omega
theorem goal_id {c : Config} {l : Leader} (hc : chkLeader c l = 0) (hg : l.goal ≠ 0) : (goalOf l).1 = if l.back = true then l.now else l.goal := by
  obtain ⟨_, _, g3, g4, g5, _⟩ := (lead_iff c _).1 hc
  have key : ∀ (rs : List (Int × List (Int × Int))) (k : Int), chkRels c.rules k rs = 0 → ∀ j : Nat, j < rs.length → (rs.getD j (0, [])).1 = k + j := by
    intro rs
    induction rs with
    | nil => intro k _ j hj; simp at hj
    | cons p t ih =>
      intro k h j hj
      rw [chkRels] at h
      by_cases h1 : ruled p.2 c.rules = 0
      · rw [if_pos h1] at h
        by_cases h2 : p.1 = k
        · rw [if_pos h2] at h
          cases j with
          | zero => simpa using h2
          | succ j =>
            have := ih (k + 1) h j (by simpa using hj)
            rw [List.getD_cons_succ, this]
            omega
        · rw [if_neg h2] at h; exact absurd h (by decide)
      · rw [if_neg h1] at h; exact absurd h h1
  unfold goalOf
  split
  · rw [key _ _ g3 _ (by omega)]; omega
  · rw [key _ _ g3 _ (by omega)]; omega
end Ld
end Go.Proofs.YtpenkhehceglfaaGreatDoor
/- Plain facts on records: what is written is read as it was, what is read is written as it was; unlike records have unlike texts. -/
namespace Go.Proofs.YtpenkhehceglfaaGreatDoor
namespace Lk
theorem split_words (ws : List (List UInt8)) (r : List UInt8) (h : ∀ w ∈ ws, 32 ∉ w) : splitC ((ws.map fun w => w ++ [32]).flatten ++ r) = ws ++ splitC r := by
  induction ws with
  | nil => rfl
  | cons w t ih =>
    have e : ((w :: t).map fun w => w ++ [32]).flatten ++ r = w ++ 32 :: ((t.map fun w => w ++ [32]).flatten ++ r) := by simp
    rw [e, splitC_app w _ (h w (by simp)), ih (fun x hx => h x (by simp [hx]))]
    rfl
theorem rdTo_words (ws : List (List UInt8)) (r : List UInt8) (ns : List Int) (h : ∀ w ∈ ws, 32 ∉ w) (hn : numsOf ws = some ns) : rdTo ws.length ((ws.map fun w => w ++ [32]).flatten ++ r) = some (ns, r) := by
  have hs := split_words ws r h
  cases e : rdTo ws.length ((ws.map fun w => w ++ [32]).flatten ++ r) with
  | none =>
    rcases rdTo_nope e with h1 | h1
    · have : (splitC r).length ≠ 0 := fun e => splitC_ne r (List.length_eq_zero_iff.1 e)
      rw [hs, List.length_append] at h1; omega
    · rw [hs, List.take_left, hn] at h1; cases h1
  | some q =>
    obtain ⟨ms, t⟩ := q
    obtain ⟨ws', w1, w2, w3, w4⟩ := rdTo_some e
    rw [hs] at w2
    have e1 : ws = ws' := by
      have := congrArg (List.take ws.length) w2
      rwa [List.take_left, List.take_left' w1] at this
    subst e1
    rw [hn] at w3
    cases w3
    rw [List.append_cancel_left w4]
/-- the digits of a number below 1000 -/
def ddd (n : Nat) : List UInt8 := if n < 100 then dd n else dd (n / 10) ++ [UInt8.ofNat (48 + n % 10)]
theorem ddd_eq {n : Nat} (h : n < 1000) : Lib.decDigits n = ddd n := by
  unfold ddd
  by_cases h1 : n < 100
  · rw [if_pos h1, dd_eq h1]
  · rw [if_neg h1, Lib.decDigits, dif_neg (by omega), dd_eq (by omega)]
theorem ddd_all : ∀ n : Fin 256, Lib.atoiAll (ddd n.1) = .ok (n.1 : Int) := by decide +kernel
theorem num_itoa (v : Int) (h0 : 0 ≤ v) (h1 : v ≤ 200) : numOf (Lib.itoa v) = some v := by
  obtain ⟨n, rfl⟩ := Int.eq_ofNat_of_zero_le h0
  rw [Lib.itoa_nonneg]
  exact numOf_ok (by rw [ddd_eq (by omega)]; exact ddd_all ⟨n, by omega⟩) (Lib.itoa_nonneg n)
theorem numsOf_itoa (ns : List Int) (h : ∀ v ∈ ns, 0 ≤ v ∧ v ≤ 200) : numsOf (ns.map Lib.itoa) = some ns := by
  induction ns with
  | nil => rfl
  | cons v t ih =>
    obtain ⟨h1, h2⟩ := h v (by simp)
    rw [List.map_cons, numsOf, num_itoa v h1 h2, ih (fun x hx => h x (by simp [hx]))]
/-- what a record that is one has -/
theorem note_ok {r : Note} (h : chkNote r = 0) : (∀ v ∈ r.nums, 0 ≤ v ∧ v ≤ 200) ∧ chk r.lock = 0 := by
  obtain ⟨k, a, t, n, g, i, l⟩ := r
  unfold chkNote at h
  split at h
  · cases h
  rename_i h1
  split at h
  · cases h
  rename_i h2
  simp only [Bool.or_eq_true, not_or, Bool.not_eq_true] at h1 h2
  obtain ⟨hk, hu⟩ := h1
  simp only [Bool.not_eq_false'] at hk
  simp only [within, Bool.and_eq_true, decide_eq_true_eq] at hk
  simp only [unused, outside, Bool.or_eq_false_iff, Bool.and_eq_false_iff, Bool.not_eq_false', bne_eq_false_iff_eq, within, Bool.and_eq_true, decide_eq_true_eq, decide_eq_false_iff_not] at hu h2
  obtain ⟨⟨⟨⟨hA, hT⟩, hN⟩, hG⟩, hR⟩ := hu
  obtain ⟨⟨hA2, hT2⟩, hN2⟩ := h2
  have hgn : goodNum g = 0 ∨ goodNum g = 1 := by cases g <;> simp [goodNum]
  have hid : (0 ≤ i ∧ i ≤ 6) ∧ chk l = 0 := by
    by_cases hr : uR k = true
    · simp only at h
      rw [if_pos hr] at h
      unfold chkRel at h
      split at h
      · rename_i hw
        simp only [within, Bool.and_eq_true, decide_eq_true_eq] at hw
        exact ⟨by omega, h⟩
      · cases h
    · rcases hR with hR | hR
      · have : l = [] := List.length_eq_zero_iff.1 (by omega)
        rw [this]
        exact ⟨by omega, by decide⟩
      · exact absurd hR hr
  refine ⟨?_, hid.2⟩
  intro v hv
  simp only [Note.nums, List.mem_cons, List.not_mem_nil, or_false] at hv
  rcases hv with rfl | rfl | rfl | rfl | rfl | rfl
  · omega
  · omega
  · rcases hT with hT | hT
    · omega
    · rcases hT2 with hT2 | hT2
      · rw [hT] at hT2; cases hT2
      · omega
  · rcases hN with hN | hN
    · omega
    · rcases hN2 with hN2 | hN2
      · rw [hN] at hN2; cases hN2
      · omega
  · omega
  · omega
theorem noteOf_nums (r : Note) : noteOf r.nums r.lock = r := by
  obtain ⟨k, a, t, n, g, i, l⟩ := r
  cases g <;> rfl
theorem chk_okP {l : List (Int × Int)} (h : chk l = 0) : ∀ p ∈ l, okP p := by
  unfold chk at h
  split at h
  · cases h
  · have key : ∀ (l : List (Int × Int)) (last : Int), chkFrom last l = 0 → ∀ p ∈ l, okP p := by
      intro l
      induction l with
      | nil => intro _ _ p hp; cases hp
      | cons q r ih =>
        intro last h p hp
        unfold chkFrom at h
        split at h
        · rename_i hq
          split at h
          · cases h
          · rcases List.mem_cons.1 hp with rfl | hp
            · simpa [okPin, okP, and_assoc] using hq
            · exact ih _ h p hp
        · cases h
    exact key l 0 h
theorem readAs_text {l : List (Int × Int)} (h : chk l = 0) : readAs ⟨(text l).toArray⟩ = (l, 0) := by
  unfold readAs
  rw [pins_text l (chk_okP h)]
  simp only
  rw [if_pos h]
theorem note_text (r : Note) : noteText r = ((r.nums.map Lib.itoa).map fun w => w ++ [32]).flatten ++ 61 :: text r.lock := by
  unfold noteText; rw [List.map_map]; rfl
theorem note_back {r : Note} (h : chkNote r = 0) : readNote (noteText r) = (r, 0) := by
  obtain ⟨hn, hl⟩ := note_ok h
  have hw : ∀ w ∈ r.nums.map Lib.itoa, 32 ∉ w := by
    intro w hw
    obtain ⟨v, _, rfl⟩ := List.mem_map.1 hw
    exact itoa_not (by decide) (by decide) v
  have hr := rdTo_words (r.nums.map Lib.itoa) (61 :: text r.lock) r.nums hw (numsOf_itoa _ hn)
  rw [← note_text] at hr
  have h6 : (r.nums.map Lib.itoa).length = 6 := rfl
  rw [h6] at hr
  unfold readNote
  rw [hr]
  simp only
  have hg : within (r.nums.getD 4 0) 0 1 = true := by
    show within (goodNum r.good) 0 1 = true
    cases r.good <;> rfl
  rw [if_pos ⟨trivial, hg⟩]
  unfold fin
  rw [readAs_text hl]
  simp only [if_true]
  rw [noteOf_nums, if_pos h]
theorem note_unlike {r q : Note} (h : chkNote r = 0) (h' : chkNote q = 0) : noteText r = noteText q ↔ r = q := by
  constructor
  · intro e
    have h1 := note_back h
    rw [e, note_back h'] at h1
    exact (Prod.mk.inj h1).1.symm
  · rintro rfl; rfl
theorem nums_of (ns : List Int) (l : List (Int × Int)) (h6 : ns.length = 6) (hg : within (ns.getD 4 0) 0 1 = true) : (noteOf ns l).nums = ns := by
  match ns, h6 with
  | [a, b, c, d, e, f], _ =>
    have he : 0 ≤ e ∧ e ≤ 1 := by simpa [within] using hg
    have : e = 0 ∨ e = 1 := by omega
    rcases this with rfl | rfl <;> rfl
theorem numsOf_words (ws : List (List UInt8)) (ns : List Int) (h : numsOf ws = some ns) : ws = ns.map Lib.itoa := by
  induction ws generalizing ns with
  | nil => simp only [numsOf, Option.some.injEq] at h; subst h; rfl
  | cons x r ih =>
    simp only [numsOf] at h
    cases e : numOf x with
    | none => rw [e] at h; simp at h
    | some q =>
      cases e' : numsOf r with
      | none => rw [e, e'] at h; simp at h
      | some m =>
        rw [e, e'] at h
        simp only [Option.some.injEq] at h
        subst h
        rw [List.map_cons, ← ih m e', numOf_itoa e]
theorem readAs_back {t : List UInt8} (h : (readAs ⟨t.toArray⟩).2 = 0) : text (readAs ⟨t.toArray⟩).1 = t := by
  unfold readAs at h ⊢
  cases e : pins ⟨t.toArray⟩ with
  | none => rw [e] at h; cases h
  | some l =>
    rw [e] at h
    simp only at h ⊢
    by_cases hc : chk l = 0
    · rw [if_pos hc]
      have := text_back _ l e (chk_okP hc)
      simpa using this
    · rw [if_neg hc] at h
      exact absurd h hc
theorem fin_back {ns : List Int} {t : List UInt8} (h : (fin ns t).2 = 0) : ∃ l, fin ns t = (noteOf ns l, 0) ∧ chkNote (noteOf ns l) = 0 ∧ text l = t := by
  unfold fin at h ⊢
  by_cases h1 : (readAs ⟨t.toArray⟩).2 = 0
  · rw [if_pos h1] at h ⊢
    by_cases h2 : chkNote (noteOf ns (readAs ⟨t.toArray⟩).1) = 0
    · rw [if_pos h2]
      exact ⟨_, rfl, h2, readAs_back h1⟩
    · rw [if_neg h2] at h; exact absurd h h2
  · rw [if_neg h1] at h; exact absurd h h1
/-- what is read is a record, and is written as it was -/
theorem read_back {s : List UInt8} (h : (readNote s).2 = 0) : chkNote (readNote s).1 = 0 ∧ noteText (readNote s).1 = s := by
  unfold readNote at h ⊢
  cases e : rdTo 6 s with
  | none => rw [e] at h; cases h
  | some q =>
    obtain ⟨ns, r⟩ := q
    rw [e] at h
    simp only at h ⊢
    cases r with
    | nil => cases h
    | cons c t =>
      simp only at h ⊢
      split at h
      · rename_i hc
        rw [if_pos hc]
        obtain ⟨l, e1, e2, e3⟩ := fin_back h
        rw [e1]
        refine ⟨e2, ?_⟩
        obtain ⟨ws, w1, w2, w3, w4⟩ := rdTo_some e
        rw [note_text, nums_of ns l (rdTo_len e) hc.2, ← numsOf_words ws ns w3]
        show _ ++ 61 :: text l = s
        rw [e3, w4, hc.1]
      · cases h
theorem read_none {s : List UInt8} (h : ¬ (readNote s).2 = 0) : (readNote s).1 = Note.none := by
  unfold readNote at h ⊢
  cases e : rdTo 6 s with
  | none => rfl
  | some q =>
    obtain ⟨ns, r⟩ := q
    rw [e] at h
    simp only at h ⊢
    cases r with
    | nil => rfl
    | cons c t =>
      simp only at h ⊢
      split
      · rename_i hc
        rw [if_pos hc] at h
        unfold fin at h ⊢
        by_cases h1 : (readAs ⟨t.toArray⟩).2 = 0
        · rw [if_pos h1] at h ⊢
          by_cases h2 : chkNote (noteOf ns (readAs ⟨t.toArray⟩).1) = 0
          · rw [if_pos h2] at h; exact absurd rfl h
          · rw [if_neg h2]
        · rw [if_neg h1]
      · rfl
end Lk
end Go.Proofs.YtpenkhehceglfaaGreatDoor
/- Plain functions on disks: lines of records, what a disk says, puts, syncs, recovers; what is kept. Nothing of the program is named here. -/
namespace Go.Proofs.YtpenkhehceglfaaGreatDoor
namespace Lk
/-- pieces between line feeds; the last one is what is behind the last one -/
def splitN : List UInt8 → List (List UInt8)
  | [] => [[]]
  | c :: r => if c = 10 then [] :: splitN r else match splitN r with
    | [] => [[c]]
    | a :: t => (c :: a) :: t
theorem splitN_ne (l : List UInt8) : splitN l ≠ [] := by
  cases l with
  | nil => simp [splitN]
  | cons c r =>
    unfold splitN
    split
    · simp
    · split <;> simp
theorem splitN_not (a : List UInt8) (h : 10 ∉ a) : splitN a = [a] := by
  induction a with
  | nil => rfl
  | cons x t ih =>
    unfold splitN
    rw [if_neg (fun e => h (by simp [e])), ih (fun e => h (by simp [e]))]
theorem splitN_app (a r : List UInt8) (h : 10 ∉ a) : splitN (a ++ 10 :: r) = a :: splitN r := by
  induction a with
  | nil => simp [splitN]
  | cons x t ih =>
    rw [List.cons_append, splitN, if_neg (fun e => h (by simp [e])), ih (fun e => h (by simp [e]))]
theorem lf_cases (l : List UInt8) : 10 ∉ l ∨ ∃ a r, l = a ++ 10 :: r ∧ 10 ∉ a := by
  induction l with
  | nil => exact .inl (by simp)
  | cons c t ih =>
    by_cases hc : c = 10
    · exact .inr ⟨[], t, by simp [hc], by simp⟩
    · rcases ih with ih | ⟨a, r, e, h⟩
      · exact .inl (by simp [ih, Ne.symm hc])
      · exact .inr ⟨c :: a, r, by simp [e], by simp [h, Ne.symm hc]⟩
/-- records as far as they are whole; how many bytes these have; what is wrong with the next one -/
def walkL (most : Nat) (acc : List Note) (n : Nat) : List (List UInt8) → List Note × Nat × Int
  | [] => (acc, n, 0)
  | [t] => if t = [] then (acc, n, 0) else (acc, n, 9)
  | t :: u :: r => if (readNote t).2 = 0 then (if most ≤ acc.length then (acc, n, 2) else walkL most (acc ++ [(readNote t).1]) (n + t.length + 1) (u :: r)) else (acc, n, (readNote t).2)
def linesOf (s : List UInt8) (most : Nat) : List Note × Nat × Int := walkL most [] 0 (splitN s)
structure Disk where
  safe : List UInt8
  wait : List UInt8
def Disk.none : Disk := ⟨[], []⟩
def tooMany (d : Disk) : Bool := decide (60000 < d.safe.length) || decide (60000 - d.safe.length < d.wait.length)
def chkDisk (d : Disk) : Int := if tooMany d = true then 2 else (linesOf d.safe 200).2.2
def recov (d : Disk) : Disk × List Note :=
  (⟨d.safe ++ d.wait.take (linesOf d.wait (200 - (linesOf d.safe 200).1.length)).2.1, []⟩, (linesOf d.safe 200).1 ++ (linesOf d.wait (200 - (linesOf d.safe 200).1.length)).1)
def putOn (d : Disk) (r : Note) : Disk × Int :=
  if chkNote r = 0 then (if 60000 < d.safe.length + d.wait.length + (noteText r).length + 1 then (Disk.none, 2) else (⟨d.safe, d.wait ++ (noteText r ++ [10])⟩, 0))
  else (Disk.none, chkNote r)
def synced (d : Disk) : Disk × Int := if chkDisk ⟨d.safe ++ d.wait, []⟩ = 0 then (⟨d.safe ++ d.wait, []⟩, 0) else (Disk.none, chkDisk ⟨d.safe ++ d.wait, []⟩)
def sameDisk (a b : Disk) : Bool := decide (a.safe = b.safe) && decide (a.wait = b.wait)

/-! ### step by step: for the walks -/
theorem walk_step {most n : Nat} {acc : List Note} {t : List UInt8} {r : List (List UInt8)} (hr : r ≠ []) (h : (readNote t).2 = 0) (hm : acc.length < most) : walkL most acc n (t :: r) = walkL most (acc ++ [(readNote t).1]) (n + t.length + 1) r := by
  cases r with
  | nil => exact absurd rfl hr
  | cons u r => rw [walkL, if_pos h, if_neg (by omega)]
theorem walk_many {most n : Nat} {acc : List Note} {t : List UInt8} {r : List (List UInt8)} (hr : r ≠ []) (h : (readNote t).2 = 0) (hm : most ≤ acc.length) : walkL most acc n (t :: r) = (acc, n, 2) := by
  cases r with
  | nil => exact absurd rfl hr
  | cons u r => rw [walkL, if_pos h, if_pos hm]
theorem walk_bad {most n : Nat} {acc : List Note} {t : List UInt8} {r : List (List UInt8)} (hr : r ≠ []) (h : ¬ (readNote t).2 = 0) : walkL most acc n (t :: r) = (acc, n, (readNote t).2) := by
  cases r with
  | nil => exact absurd rfl hr
  | cons u r => rw [walkL, if_neg h]
theorem walk_end (most n : Nat) (acc : List Note) : walkL most acc n [[]] = (acc, n, 0) := by rw [walkL, if_pos rfl]
theorem walk_torn {most n : Nat} {acc : List Note} {t : List UInt8} (h : t ≠ []) : walkL most acc n [t] = (acc, n, 9) := by rw [walkL, if_neg h]
/-- from a place on: for a loop that eats its text -/
def linesFrom (most : Nat) (acc : List Note) (n : Nat) (s : List UInt8) : List Note × Nat × Int := walkL most acc n (splitN s)
theorem from_nil (most n : Nat) (acc : List Note) : linesFrom most acc n [] = (acc, n, 0) := walk_end most n acc
theorem from_torn {most n : Nat} {acc : List Note} {s : List UInt8} (h : s ≠ []) (hn : 10 ∉ s) : linesFrom most acc n s = (acc, n, 9) := by
  unfold linesFrom; rw [splitN_not s hn, walk_torn h]
theorem from_step {most n : Nat} {acc : List Note} {t s : List UInt8} (hn : 10 ∉ t) (h : (readNote t).2 = 0) (hm : acc.length < most) : linesFrom most acc n (t ++ 10 :: s) = linesFrom most (acc ++ [(readNote t).1]) (n + t.length + 1) s := by
  unfold linesFrom; rw [splitN_app t s hn, walk_step (splitN_ne s) h hm]
theorem from_many {most n : Nat} {acc : List Note} {t s : List UInt8} (hn : 10 ∉ t) (h : (readNote t).2 = 0) (hm : most ≤ acc.length) : linesFrom most acc n (t ++ 10 :: s) = (acc, n, 2) := by
  unfold linesFrom; rw [splitN_app t s hn, walk_many (splitN_ne s) h hm]
theorem from_bad {most n : Nat} {acc : List Note} {t s : List UInt8} (hn : 10 ∉ t) (h : ¬ (readNote t).2 = 0) : linesFrom most acc n (t ++ 10 :: s) = (acc, n, (readNote t).2) := by
  unfold linesFrom; rw [splitN_app t s hn, walk_bad (splitN_ne s) h]

/-! ### what the program does: Check first -/
theorem tooMany_iff (d : Disk) : tooMany d = decide (60000 < d.safe.length + d.wait.length) := by
  unfold tooMany
  by_cases h : 60000 < d.safe.length + d.wait.length
  · rw [decide_eq_true h, Bool.or_eq_true, decide_eq_true_eq, decide_eq_true_eq]; omega
  · rw [decide_eq_false h, Bool.or_eq_false_iff, decide_eq_false_iff_not, decide_eq_false_iff_not]; omega
def putP (d : Disk) (r : Note) : Disk × Int := if chkDisk d = 0 then putOn d r else (Disk.none, chkDisk d)
def syncP (d : Disk) : Disk × Int := if chkDisk d = 0 then synced d else (Disk.none, chkDisk d)
def crashP (d : Disk) (n : Int) : Disk × Int := if chkDisk d = 0 then (if 0 ≤ n ∧ n ≤ d.wait.length then (⟨d.safe, d.wait.take n.toNat⟩, 0) else (Disk.none, 3)) else (Disk.none, chkDisk d)
def recovP (d : Disk) : Disk × List Note × Int := if chkDisk d = 0 then ((recov d).1, (recov d).2, 0) else (Disk.none, [], chkDisk d)
/-- safeRecs: all records, or what is wrong -/
def safeP (d : Disk) : List Note × Int := if chkDisk d = 0 then ((linesOf d.safe 200).1, 0) else ([], chkDisk d)
theorem from_full {most n : Nat} {acc : List Note} (s : List UInt8) (h : most ≤ acc.length) : ∃ e, linesFrom most acc n s = (acc, n, e) := by
  rcases lf_cases s with hn | ⟨t, r, e, hn⟩
  · by_cases h0 : s = []
    · subst h0; exact ⟨_, from_nil _ _ _⟩
    · exact ⟨_, from_torn h0 hn⟩
  · subst e
    by_cases hr : (readNote t).2 = 0
    · exact ⟨_, from_many hn hr h⟩
    · exact ⟨_, from_bad hn hr⟩
theorem from_none {most n : Nat} {acc : List Note} {s : List UInt8} (hn : 10 ∉ s) : ∃ e, linesFrom most acc n s = (acc, n, e) := by
  by_cases h0 : s = []
  · subst h0; exact ⟨_, from_nil _ _ _⟩
  · exact ⟨_, from_torn h0 hn⟩
theorem from_grows (k : Nat) : ∀ (s : List UInt8), s.length ≤ k → ∀ (most n : Nat) (acc : List Note), n ≤ (linesFrom most acc n s).2.1 ∧ (linesFrom most acc n s).2.1 ≤ n + s.length ∧ acc.length ≤ (linesFrom most acc n s).1.length ∧ (acc.length ≤ most → (linesFrom most acc n s).1.length ≤ most) := by
  induction k with
  | zero =>
    intro s hs most n acc
    have : s = [] := List.length_eq_zero_iff.1 (by omega)
    subst this
    rw [from_nil]; simp
  | succ k ih =>
    intro s hs most n acc
    rcases lf_cases s with hn | ⟨t, r, e, hn⟩
    · obtain ⟨e, he⟩ := from_none (most := most) (n := n) (acc := acc) hn
      rw [he]; simp
    · subst e
      by_cases hr : (readNote t).2 = 0
      · by_cases hm : acc.length < most
        · rw [from_step hn hr hm]
          have := ih r (by simp at hs; omega) most (n + t.length + 1) (acc ++ [(readNote t).1])
          simp only [List.length_append, List.length_cons, List.length_nil] at this ⊢
          exact ⟨by omega, by omega, by omega, fun _ => this.2.2.2 (by omega)⟩
        · rw [from_many hn hr (by omega)]; simp
      · rw [from_bad hn hr]; simp
theorem lines_len (s : List UInt8) (most : Nat) : (linesOf s most).2.1 ≤ s.length ∧ (linesOf s most).1.length ≤ most := by
  have := from_grows s.length s (Nat.le_refl _) most 0 []
  exact ⟨by have h := this.2.1; rw [Nat.zero_add] at h; exact h, this.2.2.2 (Nat.zero_le _)⟩

/-! ### what is kept -/
def texts (l : List Note) : List UInt8 := (l.map fun r => noteText r ++ [10]).flatten
def allOk (l : List Note) : Prop := ∀ r ∈ l, chkNote r = 0
theorem texts_nil : texts [] = [] := rfl
theorem texts_cons (r : Note) (l : List Note) : texts (r :: l) = noteText r ++ 10 :: texts l := by simp [texts]
theorem texts_app (a b : List Note) : texts (a ++ b) = texts a ++ texts b := by simp [texts]
theorem itoa_no10 (n : Int) : 10 ∉ Lib.itoa n := itoa_not (by decide) (by decide) n
theorem dec_no10 (u : Nat) : 10 ∉ Lib.decDigits u := fun h => by
  have := dec_digits u 10 h
  simp at this
theorem pinText_no10 (p : Int × Int) : 10 ∉ pinText p := by
  unfold pinText
  intro h
  rcases List.mem_append.1 h with h | h
  · exact dec_no10 _ h
  · rcases List.mem_cons.1 h with h | h
    · exact absurd h (by decide)
    · exact dec_no10 _ h
theorem text_no10 (l : List (Int × Int)) : 10 ∉ text l := by
  unfold text Lib.join
  refine inter_mem 10 (by decide) _ (fun x hx => ?_)
  obtain ⟨p, _, rfl⟩ := List.mem_map.1 hx
  exact pinText_no10 p
theorem note_no10 (r : Note) : 10 ∉ noteText r := by
  unfold noteText
  intro h
  rcases List.mem_append.1 h with h | h
  · obtain ⟨x, hx, h10⟩ := List.mem_flatten.1 h
    obtain ⟨n, _, rfl⟩ := List.mem_map.1 hx
    rcases List.mem_append.1 h10 with h10 | h10
    · exact itoa_no10 n h10
    · simp at h10
  · rcases List.mem_cons.1 h with h | h
    · exact absurd h (by decide)
    · exact text_no10 _ h
/-- what was written is read, record by record -/
theorem from_texts (b : List Note) : ∀ (most : Nat) (acc : List Note) (n : Nat), allOk b → acc.length + b.length ≤ most → ∀ s, linesFrom most acc n (texts b ++ s) = linesFrom most (acc ++ b) (n + (texts b).length) s := by
  induction b with
  | nil => intro most acc n _ _ s; simp [texts]
  | cons r b ih =>
    intro most acc n hok hm s
    have hr : chkNote r = 0 := hok r (by simp)
    have hrd := note_back hr
    rw [texts_cons, List.append_assoc, List.cons_append, from_step (note_no10 r) (by rw [hrd]) (by simp at hm; omega), hrd, ih most (acc ++ [r]) _ (fun q hq => hok q (by simp [hq])) (by simp at hm ⊢; omega) s]
    simp only [List.append_assoc, List.cons_append, List.nil_append, List.length_append, List.length_cons]
    congr 1
    omega
/-- of a beginning of what was written whole records are read, and no more -/
theorem from_cut (b : List Note) : ∀ (most : Nat) (acc : List Note) (n k : Nat), allOk b → acc.length + b.length ≤ most → ∃ j e, j ≤ b.length ∧ (texts (b.take j)).length ≤ k ∧ linesFrom most acc n ((texts b).take k) = (acc ++ b.take j, n + (texts (b.take j)).length, e) := by
  induction b with
  | nil => intro most acc n k _ _; exact ⟨0, 0, by simp, by simp [texts], by simp [texts, from_nil]⟩
  | cons r b ih =>
    intro most acc n k hok hm
    have hr : chkNote r = 0 := hok r (by simp)
    have hrd := note_back hr
    by_cases hk : (noteText r).length + 1 ≤ k
    · obtain ⟨j, e, h1, h2, h3⟩ := ih most (acc ++ [r]) (n + (noteText r).length + 1) (k - ((noteText r).length + 1)) (fun q hq => hok q (by simp [hq])) (by simp at hm ⊢; omega)
      refine ⟨j + 1, e, by simp; omega, ?_, ?_⟩
      · rw [List.take_succ_cons, texts_cons]; simp; omega
      · have ht : (texts (r :: b)).take k = noteText r ++ 10 :: (texts b).take (k - ((noteText r).length + 1)) := by
          rw [texts_cons, List.take_append]
          rw [List.take_of_length_le (by omega), show k - (noteText r).length = (k - ((noteText r).length + 1)) + 1 from by omega, List.take_succ_cons]
        rw [ht, from_step (note_no10 r) (by rw [hrd]) (by simp at hm; omega), hrd, h3, List.take_succ_cons, texts_cons]
        simp only [List.append_assoc, List.cons_append, List.nil_append, List.length_append, List.length_cons]
        congr 2
        omega
    · have ht : (texts (r :: b)).take k = (noteText r).take k := by
        rw [texts_cons, List.take_append, show k - (noteText r).length = 0 from by omega, List.take_zero, List.append_nil]
      have hn : 10 ∉ (noteText r).take k := fun h => note_no10 r (List.mem_of_mem_take h)
      rw [ht]
      by_cases h0 : (noteText r).take k = []
      · exact ⟨0, 0, by simp, by simp [texts], by rw [h0, from_nil]; simp [texts]⟩
      · exact ⟨0, 9, by simp, by simp [texts], by rw [from_torn h0 hn]; simp [texts]⟩
theorem lines_texts {a : List Note} {most : Nat} (h : allOk a) (hm : a.length ≤ most) : linesOf (texts a) most = (a, (texts a).length, 0) := by
  have := from_texts a most [] 0 h (by simpa using hm) []
  rw [List.append_nil, from_nil] at this
  show linesFrom most [] 0 (texts a) = _
  rw [this]; simp
theorem lines_cut {b : List Note} {most : Nat} (k : Nat) (h : allOk b) (hm : b.length ≤ most) : ∃ j e, j ≤ b.length ∧ (texts (b.take j)).length ≤ k ∧ linesOf ((texts b).take k) most = (b.take j, (texts (b.take j)).length, e) := by
  obtain ⟨j, e, h1, h2, h3⟩ := from_cut b most [] 0 k h (by simpa using hm)
  exact ⟨j, e, h1, h2, by show linesFrom most [] 0 _ = _; rw [h3]; simp⟩
theorem take_texts (b : List Note) (j k : Nat) (h : (texts (b.take j)).length ≤ k) : ((texts b).take k).take (texts (b.take j)).length = texts (b.take j) := by
  have e : texts b = texts (b.take j) ++ texts (b.drop j) := by rw [← texts_app, List.take_append_drop]
  rw [List.take_take, Nat.min_eq_left h, e, List.take_left]
theorem allOk_take {b : List Note} (h : allOk b) (j : Nat) : allOk (b.take j) := fun r hr => h r (List.mem_of_mem_take hr)
theorem allOk_app {a b : List Note} (h : allOk a) (h' : allOk b) : allOk (a ++ b) := fun r hr => by
  rcases List.mem_append.1 hr with hr | hr
  · exact h r hr
  · exact h' r hr
/-- recovering: all that was synced is there, and of the rest a beginning; recovered again it is the same -/
theorem recov_keeps {a b : List Note} (ha : allOk a) (hb : allOk b) (hm : a.length + b.length ≤ 200) (k : Nat) :
    ∃ j, j ≤ b.length ∧ recov ⟨texts a, (texts b).take k⟩ = (⟨texts (a ++ b.take j), []⟩, a ++ b.take j) ∧ recov ⟨texts (a ++ b.take j), []⟩ = (⟨texts (a ++ b.take j), []⟩, a ++ b.take j) := by
  obtain ⟨j, e, h1, h2, h3⟩ := lines_cut (b := b) (most := 200 - a.length) k hb (by omega)
  refine ⟨j, h1, ?_, ?_⟩
  · unfold recov
    simp only [lines_texts ha (show a.length ≤ 200 by omega), h3, take_texts b j k h2, texts_app]
  · have hl := lines_texts (a := a ++ b.take j) (most := 200) (allOk_app ha (allOk_take hb j)) (by simp; omega)
    have hz : ∀ m, linesOf [] m = ([], 0, 0) := fun m => from_nil m 0 []
    unfold recov
    simp only [hl, hz, List.take_zero, List.append_nil]
theorem chk_texts {a : List Note} {w : List UInt8} (ha : allOk a) (hm : a.length ≤ 200) (hs : (texts a).length + w.length ≤ 60000) : chkDisk ⟨texts a, w⟩ = 0 := by
  unfold chkDisk
  have : tooMany ⟨texts a, w⟩ = false := by
    simp only [tooMany, Bool.or_eq_false_iff, decide_eq_false_iff_not]; omega
  rw [this]
  simp only [Bool.false_eq_true, if_false, lines_texts ha hm]
theorem put_texts {a b : List Note} {r : Note} (h : (putOn ⟨texts a, texts b⟩ r).2 = 0) : chkNote r = 0 ∧ putOn ⟨texts a, texts b⟩ r = (⟨texts a, texts (b ++ [r])⟩, 0) ∧ (texts a).length + (texts (b ++ [r])).length ≤ 60000 := by
  unfold putOn at h ⊢
  by_cases hc : chkNote r = 0
  · rw [if_pos hc] at h ⊢
    by_cases hl : 60000 < (texts a).length + (texts b).length + (noteText r).length + 1
    · rw [if_pos hl] at h; cases h
    · rw [if_neg hl]
      refine ⟨hc, ?_, ?_⟩
      · simp [texts]
      · have : (texts (b ++ [r])).length = (texts b).length + ((noteText r).length + 1) := by
          rw [texts_app, List.length_append, texts_cons, texts_nil, List.length_append, List.length_cons, List.length_nil]
        omega
  · rw [if_neg hc] at h; exact absurd h hc
theorem sync_texts {b : List Note} (hb : allOk b) (hm : b.length ≤ 200) (hs : (texts b).length ≤ 60000) : synced ⟨texts [], texts b⟩ = (⟨texts b, []⟩, 0) := by
  unfold synced
  have : chkDisk ⟨texts b, []⟩ = 0 := chk_texts hb hm (by simpa using hs)
  simp only [texts_nil, List.nil_append, this, if_true]
end Lk
end Go.Proofs.YtpenkhehceglfaaGreatDoor
/- Plain: records put one after the other; what DiskKeeps asks. Nothing of the program is named here. -/
namespace Go.Proofs.YtpenkhehceglfaaGreatDoor
namespace Lk
/-- those that can be put are put -/
def putFrom (d : Disk) (out : List Note) : List Note → Disk × List Note
  | [] => (d, out)
  | c :: r => if (putP d c).2 = 0 then putFrom (putP d c).1 (out ++ [c]) r else putFrom d out r
theorem putFrom_texts {a : List Note} (ha : allOk a) (hm : a.length ≤ 200) (l : List Note) : ∀ (b out : List Note), allOk b → (texts a).length + (texts b).length ≤ 60000 →
    ∃ o, allOk o ∧ o.length ≤ l.length ∧ putFrom ⟨texts a, texts b⟩ out l = (⟨texts a, texts (b ++ o)⟩, out ++ o) ∧ (texts a).length + (texts (b ++ o)).length ≤ 60000 := by
  induction l with
  | nil => intro b out hb hs; exact ⟨[], (fun r hr => by cases hr), Nat.le_refl _, by simp [putFrom], by simpa using hs⟩
  | cons c r ih =>
    intro b out hb hs
    have hchk : chkDisk ⟨texts a, texts b⟩ = 0 := chk_texts ha hm hs
    have hput : putP ⟨texts a, texts b⟩ c = putOn ⟨texts a, texts b⟩ c := by unfold putP; rw [if_pos hchk]
    by_cases h : (putOn ⟨texts a, texts b⟩ c).2 = 0
    · obtain ⟨h1, h2, h3⟩ := put_texts h
      obtain ⟨o, o1, o2, o3, o4⟩ := ih (b ++ [c]) (out ++ [c]) (allOk_app hb (fun x hx => by simp at hx; subst hx; exact h1)) h3
      refine ⟨c :: o, fun x hx => ?_, by simp; omega, ?_, ?_⟩
      · rcases List.mem_cons.1 hx with rfl | hx
        · exact h1
        · exact o1 x hx
      · rw [putFrom, hput, if_pos h, h2]
        simp only
        rw [o3, List.append_assoc, List.append_assoc]
        rfl
      · rw [List.append_assoc] at o4; exact o4
    · obtain ⟨o, o1, o2, o3, o4⟩ := ih b out hb hs
      exact ⟨o, o1, by simp; omega, by rw [putFrom, hput, if_neg h]; exact o3, o4⟩
theorem sync_all {b : List Note} (hb : allOk b) (hm : b.length ≤ 200) (hs : (texts b).length ≤ 60000) : syncP ⟨texts [], texts b⟩ = (⟨texts b, []⟩, 0) := by
  have hchk : chkDisk ⟨texts [], texts b⟩ = 0 := chk_texts (a := []) (fun r hr => by cases hr) (by simp) (by simpa [texts] using hs)
  unfold syncP
  rw [if_pos hchk]
  exact sync_texts hb hm hs
theorem recov_all {a b : List Note} (ha : allOk a) (hb : allOk b) (hm : a.length + b.length ≤ 200) (hs : (texts a).length + (texts b).length ≤ 60000) (k : Nat) :
    ∃ j, j ≤ b.length ∧ recovP ⟨texts a, (texts b).take k⟩ = (⟨texts (a ++ b.take j), []⟩, a ++ b.take j, 0) ∧ recovP ⟨texts (a ++ b.take j), []⟩ = (⟨texts (a ++ b.take j), []⟩, a ++ b.take j, 0) := by
  obtain ⟨j, h1, h2, h3⟩ := recov_keeps ha hb hm k
  have hsz : (texts (b.take j)).length ≤ (texts b).length := by
    have e : texts b = texts (b.take j) ++ texts (b.drop j) := by rw [← texts_app, List.take_append_drop]
    rw [e, List.length_append]; omega
  refine ⟨j, h1, ?_, ?_⟩
  · have hc : chkDisk ⟨texts a, (texts b).take k⟩ = 0 := chk_texts ha (by omega) (by rw [List.length_take]; omega)
    unfold recovP; rw [if_pos hc, h2]
  · have hc : chkDisk ⟨texts (a ++ b.take j), []⟩ = 0 := chk_texts (allOk_app ha (allOk_take hb j)) (by simp; omega) (by rw [texts_app]; simp; omega)
    unfold recovP; rw [if_pos hc, h3]
theorem take_two (a b : List Note) (j : Nat) : (a ++ b).take (a.length + j) = a ++ b.take j := by
  rw [List.take_append, List.take_of_length_le (by omega), Nat.add_sub_cancel_left]
end Lk
end Go.Proofs.YtpenkhehceglfaaGreatDoor
