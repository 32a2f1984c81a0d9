import Derived.Lib.AtoiAll
import Derived.Lib.ItoaNum
import Derived.Lib.IndexMore
import Derived.Lib.Join
import Derived.Lib.SplitLaws
import Derived.Lib.IndexBytes
import Derived.Lib.ItoaMem
import Derived.Lib.IndexLaws
/- Plain functions on lists: what the functions of package lock, and of the document's own answers, come to. Nothing of the program is named here. -/
namespace Go.Proofs.YtlnbcgjahjjpfacGreatDoor
namespace Lk

/-- one pin's numbers are within the bounds -/
def okPin (p : Int × Int) : Bool := decide (1 ≤ p.1) && decide (p.1 ≤ 20) && (decide (1 ≤ p.2) && decide (p.2 ≤ 99))

def chkFrom (last : Int) : List (Int × Int) → Int
  | [] => 0
  | p :: r => if okPin p = true then (if p.1 ≤ last then 6 else chkFrom p.1 r) else 3

def chk (l : List (Int × Int)) : Int := if 12 < l.length then 2 else chkFrom 0 l

def find (name : Int) : List (Int × Int) → Int
  | [] => 0
  | p :: r => if p.1 = name then p.2 else find name r

def same (l m : List (Int × Int)) : Bool := decide (l = m)

theorem same_of {l m : List (Int × Int)} (hn : l.length = m.length) (h : ∀ j, j < l.length → l.getD j (0, 0) = m.getD j (0, 0)) : same l m = true := by
  refine decide_eq_true (List.ext_getElem hn fun j h1 h2 => ?_)
  have := h j h1
  rwa [List.getD_eq_getElem?_getD, List.getD_eq_getElem?_getD, List.getElem?_eq_getElem h1, List.getElem?_eq_getElem h2] at this
theorem same_not {l m : List (Int × Int)} {j : Nat} (h : l.getD j (0, 0) ≠ m.getD j (0, 0)) : same l m = false :=
  decide_eq_false fun e => h (by rw [e])
theorem same_len {l m : List (Int × Int)} (h : l.length ≠ m.length) : same l m = false :=
  decide_eq_false fun e => h (by rw [e])

end Lk
end Go.Proofs.YtlnbcgjahjjpfacGreatDoor
/- Plain functions on texts: how a number, a pin and a lock are written and read. -/
namespace Go.Proofs.YtlnbcgjahjjpfacGreatDoor
namespace Lk

/-- a number, written as it is printed -/
def numOf (s : List UInt8) : Option Int := match Lib.atoiAll s with
  | .ok v => if Lib.itoa v = s then some v else none
  | _ => none

/-- a word: name, @, version -/
def pinOf (s : List UInt8) : Option (Int × Int) :=
  if (Lib.cut s [64]).2.2 = true then
    (match numOf (Lib.cut s [64]).1, numOf (Lib.cut s [64]).2.1 with
      | some a, some b => some (a, b)
      | _, _ => none)
  else none

def pinsOf : List (List UInt8) → Option (List (Int × Int))
  | [] => some []
  | s :: r => match pinOf s, pinsOf r with
    | some p, some l => some (p :: l)
    | _, _ => none

def pinText (p : Int × Int) : List UInt8 := Lib.decDigits p.1.toNat ++ 64 :: Lib.decDigits p.2.toNat
def text (l : List (Int × Int)) : List UInt8 := Lib.join (l.map pinText) [44]

theorem numOf_ok {s : List UInt8} {v : Int} (h : Lib.atoiAll s = .ok v) (e : Lib.itoa v = s) : numOf s = some v := by
  unfold numOf; rw [h]; exact if_pos e
theorem numOf_no {s : List UInt8} {v : Int} (h : Lib.atoiAll s = .ok v) (e : ¬ Lib.itoa v = s) : numOf s = none := by
  unfold numOf; rw [h]; exact if_neg e
theorem numOf_bad {s : List UInt8} (h : ∀ v, Lib.atoiAll s ≠ .ok v) : numOf s = none := by
  unfold numOf
  split
  · rename_i v e; exact absurd e (h v)
  · rfl
end Lk
end Go.Proofs.YtlnbcgjahjjpfacGreatDoor
/- Plain facts on the words of a text, and on reading them one by one. -/
namespace Go.Proofs.YtlnbcgjahjjpfacGreatDoor
namespace Lk
def comma : ByteArray := ⟨#[44]⟩
def ws (s : ByteArray) : List ByteArray := Lib.splitB comma 0 (Lib.countB s comma) s
def pins (s : ByteArray) : Option (List (Int × Int)) := if s.size = 0 then some [] else pinsOf ((ws s).map (·.data.toList))
/-- what a text of few enough bytes is read as -/
def readAs (s : ByteArray) : List (Int × Int) × Int := match pins s with
  | none => ([], 1)
  | some l => if chk l = 0 then (l, 0) else ([], chk l)

theorem ws_len (s : ByteArray) : (ws s).length = Lib.countB s comma + 1 := Lib.splitB_all comma (by decide) 0 _ s rfl
theorem count_le (s : ByteArray) : Lib.countB s comma ≤ s.size := Lib.countB_le comma (by decide) s.size s (Nat.le_refl _)
theorem split_le (k : Nat) : ∀ (s x : ByteArray), x ∈ Lib.splitB comma 0 k s → x.size ≤ s.size := by
  induction k with
  | zero => intro s x h; simp [Lib.splitB] at h; rw [h]; exact Nat.le_refl _
  | succ k ih =>
    intro s x h
    unfold Lib.splitB at h
    split at h
    · simp at h; rw [h]; exact Nat.le_refl _
    · rcases List.mem_cons.1 h with h | h
      · rw [h, ByteArray.size_extract]; omega
      · have := ih _ _ h; rw [ByteArray.size_extract] at this; omega
theorem ws_le (s x : ByteArray) (h : x ∈ ws s) : x.size ≤ s.size := split_le _ s x h

theorem pinsOf_snoc (a : List (List UInt8)) (s : List UInt8) (l : List (Int × Int)) (p : Int × Int) (h : pinsOf a = some l) (hp : pinOf s = some p) : pinsOf (a ++ [s]) = some (l ++ [p]) := by
  induction a generalizing l with
  | nil => simp only [pinsOf, Option.some.injEq] at h; subst h; simp [pinsOf, hp]
  | cons x r ih =>
    simp only [pinsOf] at h
    simp only [List.cons_append, pinsOf]
    cases e : pinOf x with
    | none => rw [e] at h; simp at h
    | some q =>
      cases e' : pinsOf r with
      | none => rw [e, e'] at h; simp at h
      | some m =>
        rw [e, e'] at h
        simp only [Option.some.injEq] at h
        subst h
        rw [ih m e']
        rfl
theorem pinsOf_bad (a : List (List UInt8)) (s : List UInt8) (hs : s ∈ a) (h : pinOf s = none) : pinsOf a = none := by
  induction a with
  | nil => cases hs
  | cons x r ih =>
    simp only [pinsOf]
    rcases List.mem_cons.1 hs with rfl | hs
    · rw [h]
    · rw [ih hs]; cases pinOf x <;> rfl
theorem pinsOf_len (a : List (List UInt8)) (l : List (Int × Int)) (h : pinsOf a = some l) : l.length = a.length := by
  induction a generalizing l with
  | nil => simp only [pinsOf, Option.some.injEq] at h; subst h; rfl
  | cons x r ih =>
    simp only [pinsOf] at h
    cases e : pinOf x with
    | none => rw [e] at h; simp at h
    | some q =>
      cases e' : pinsOf r with
      | none => rw [e, e'] at h; simp at h
      | some m =>
        rw [e, e'] at h
        simp only [Option.some.injEq] at h
        subst h
        simp [ih m e']
/-- the first k words are read -/
def readTo (s : ByteArray) (k : Nat) (l : List (Int × Int)) : Prop := pinsOf (((ws s).take k).map (·.data.toList)) = some l
theorem readTo_zero (s : ByteArray) : readTo s 0 [] := rfl
theorem readTo_len {s : ByteArray} {k : Nat} {l : List (Int × Int)} (h : readTo s k l) (hk : k ≤ (ws s).length) : l.length = k := by
  rw [pinsOf_len _ _ h]; simp; omega
theorem readTo_next {s : ByteArray} {k : Nat} {l : List (Int × Int)} {x : ByteArray} {p : Int × Int} (h : readTo s k l) (hx : (ws s)[k]? = some x) (hp : pinOf x.data.toList = some p) : readTo s (k + 1) (l ++ [p]) := by
  unfold readTo
  rw [List.take_add_one, hx, List.map_append]
  exact pinsOf_snoc _ _ _ _ h hp
theorem readTo_bad {s : ByteArray} {k : Nat} {x : ByteArray} (h0 : s.size ≠ 0) (hx : (ws s)[k]? = some x) (hp : pinOf x.data.toList = none) : pins s = none := by
  unfold pins
  rw [if_neg h0]
  exact pinsOf_bad _ _ (List.mem_map_of_mem (List.mem_of_getElem? hx)) hp
theorem readTo_all {s : ByteArray} {l : List (Int × Int)} (h0 : s.size ≠ 0) (h : readTo s (ws s).length l) : pins s = some l := by
  unfold pins
  rw [if_neg h0]
  unfold readTo at h
  rwa [List.take_length] at h
theorem pins_nil {s : ByteArray} (h0 : s.size = 0) : pins s = some [] := if_pos h0

/-- a word by the place of its @ -/
theorem pinOf_at (s : List UInt8) (k : Nat) (h : Lib.indexByte s 64 = k) : pinOf s = match numOf (s.take k), numOf (s.drop (k + 1)) with
    | some a, some b => some (a, b)
    | _, _ => none := by
  have e : Lib.index s [64] = k := (Lib.index_one s 64).trans h
  have hc : Lib.cut s [64] = (s.take k, s.drop (k + 1), true) := by
    unfold Lib.cut; rw [e, if_pos (by omega)]; simp
  unfold pinOf
  rw [hc]
  rfl
theorem pinOf_none (s : List UInt8) (h : Lib.indexByte s 64 = -1) : pinOf s = none := by
  have e : Lib.index s [64] = -1 := (Lib.index_one s 64).trans h
  have hc : Lib.cut s [64] = (s, [], false) := by
    unfold Lib.cut; rw [e, if_neg (by omega)]
  unfold pinOf
  rw [hc]
  rfl
theorem pinOf_at_no (s : List UInt8) (k : Nat) (h : Lib.indexByte s 64 = k) (h' : (numOf (s.take k)).isSome = false ∨ (numOf (s.drop (k + 1))).isSome = false) : pinOf s = none := by
  rw [pinOf_at s k h]
  rcases h' with h' | h'
  · cases e : numOf (s.take k) with
    | none => rfl
    | some v => rw [e] at h'; simp at h'
  · cases e : numOf (s.drop (k + 1)) with
    | none => cases numOf (s.take k) <;> rfl
    | some v => rw [e] at h'; simp at h'
theorem pinOf_at_yes (s : List UInt8) (k : Nat) (x y : Int) (h : Lib.indexByte s 64 = k) (h1 : (numOf (s.take k)).isSome = true) (h2 : (numOf (s.drop (k + 1))).isSome = true)
    (hx : ∀ v, numOf (s.take k) = some v → x = v) (hy : ∀ v, numOf (s.drop (k + 1)) = some v → y = v) : pinOf s = some (x, y) := by
  rw [pinOf_at s k h]
  cases e : numOf (s.take k) with
  | none => rw [e] at h1; simp at h1
  | some u =>
    cases e' : numOf (s.drop (k + 1)) with
    | none => rw [e'] at h2; simp at h2
    | some v => rw [hx u e, hy v e']
end Lk
end Go.Proofs.YtlnbcgjahjjpfacGreatDoor
/- Plain facts: what is written is read, what is read is written as it was. -/
namespace Go.Proofs.YtlnbcgjahjjpfacGreatDoor
namespace Lk
/-- the digits of a number below 100 -/
def dd (n : Nat) : List UInt8 := if n < 10 then [UInt8.ofNat (48 + n)] else [UInt8.ofNat (48 + n / 10), UInt8.ofNat (48 + n % 10)]
theorem dd_eq {n : Nat} (h : n < 100) : Lib.decDigits n = dd n := by
  unfold dd
  by_cases h1 : n < 10
  · rw [if_pos h1, Lib.decDigits_one h1]
  · rw [if_neg h1, Lib.decDigits_two h1 h]
theorem dd_all : ∀ n : Fin 100, Lib.atoiAll (dd n.1) = .ok (n.1 : Int) ∧ (64 ∈ dd n.1 → False) ∧ (44 ∈ dd n.1 → False) := by decide +kernel
theorem num_dec (n : Nat) (h : n < 100) : numOf (Lib.decDigits n) = some (n : Int) :=
  numOf_ok (by rw [dd_eq h]; exact (dd_all ⟨n, h⟩).1) (Lib.itoa_nonneg n)
theorem no64 (n : Nat) (h : n < 100) : 64 ∉ Lib.decDigits n := by rw [dd_eq h]; exact (dd_all ⟨n, h⟩).2.1
theorem no44 (n : Nat) (h : n < 100) : 44 ∉ Lib.decDigits n := by rw [dd_eq h]; exact (dd_all ⟨n, h⟩).2.2
theorem index_app (c : UInt8) (a r : List UInt8) (h : c ∉ a) : Lib.indexByte (a ++ c :: r) c = a.length := by
  induction a with
  | nil => simp [Lib.indexByte]
  | cons x t ih =>
    have hx : ¬ x = c := fun e => h (by simp [e])
    have ht : c ∉ t := fun e => h (by simp [e])
    simp only [List.cons_append, Lib.indexByte, ih ht]
    rw [if_neg (by simpa using hx), if_neg (by simp)]
    simp
theorem index_not (c : UInt8) (a : List UInt8) (h : c ∉ a) : Lib.indexByte a c = -1 := by
  induction a with
  | nil => rfl
  | cons x t ih =>
    have hx : ¬ x = c := fun e => h (by simp [e])
    simp only [Lib.indexByte, ih (fun e => h (by simp [e]))]
    rw [if_neg (by simpa using hx), if_pos (by decide)]
def okP (p : Int × Int) : Prop := (1 ≤ p.1 ∧ p.1 ≤ 20) ∧ (1 ≤ p.2 ∧ p.2 ≤ 99)
theorem pin_back (p : Int × Int) (h : okP p) : pinOf (pinText p) = some p := by
  obtain ⟨x, y⟩ := p
  obtain ⟨⟨h1, h2⟩, h3, h4⟩ := h
  simp only at h1 h2 h3 h4
  obtain ⟨n, rfl⟩ := Int.eq_ofNat_of_zero_le (show 0 ≤ x by omega)
  obtain ⟨m, rfl⟩ := Int.eq_ofNat_of_zero_le (show 0 ≤ y by omega)
  have e : pinText ((n : Int), (m : Int)) = Lib.decDigits n ++ 64 :: Lib.decDigits m := by simp [pinText]
  rw [e, pinOf_at _ _ (index_app 64 _ _ (no64 n (by omega)))]
  simp only [List.take_left, List.drop_length_add_append]
  rw [show List.drop 1 (64 :: Lib.decDigits m) = Lib.decDigits m from rfl]
  rw [num_dec n (by omega), num_dec m (by omega)]
theorem pin_no44 (p : Int × Int) (h : okP p) : 44 ∉ pinText p := by
  obtain ⟨⟨h1, h2⟩, h3, h4⟩ := h
  unfold pinText
  intro e
  rcases List.mem_append.1 e with e | e
  · exact no44 _ (by omega) e
  · rcases List.mem_cons.1 e with e | e
    · exact absurd e (by decide)
    · exact no44 _ (by omega) e
/-- the words between commas -/
def splitL : List UInt8 → List (List UInt8)
  | [] => [[]]
  | c :: r => if c = 44 then [] :: splitL r else match splitL r with
    | [] => [[c]]
    | a :: t => (c :: a) :: t
theorem splitL_ne (l : List UInt8) : splitL l ≠ [] := by
  cases l with
  | nil => simp [splitL]
  | cons c r =>
    unfold splitL
    split
    · simp
    · split <;> simp
theorem splitL_not (a : List UInt8) (h : 44 ∉ a) : splitL a = [a] := by
  induction a with
  | nil => rfl
  | cons x t ih =>
    unfold splitL
    rw [if_neg (fun e => h (by simp [e])), ih (fun e => h (by simp [e]))]
theorem splitL_app (a r : List UInt8) (h : 44 ∉ a) : splitL (a ++ 44 :: r) = a :: splitL r := by
  induction a with
  | nil => simp [splitL]
  | cons x t ih =>
    rw [List.cons_append, splitL, if_neg (fun e => h (by simp [e])), ih (fun e => h (by simp [e]))]
theorem split_cases (l : List UInt8) : 44 ∉ l ∨ ∃ a r, l = a ++ 44 :: r ∧ 44 ∉ a := by
  induction l with
  | nil => exact .inl (by simp)
  | cons c t ih =>
    by_cases hc : c = 44
    · exact .inr ⟨[], t, by simp [hc], by simp⟩
    · rcases ih with ih | ⟨a, r, e, h⟩
      · exact .inl (by simp [ih, Ne.symm hc])
      · exact .inr ⟨c :: a, r, by simp [e], by simp [h, Ne.symm hc]⟩
theorem splitB_L (k : Nat) : ∀ s : ByteArray, Lib.countB s comma = k → (Lib.splitB comma 0 k s).map (·.data.toList) = splitL s.data.toList := by
  induction k with
  | zero =>
    intro s hk
    have hc : Lib.count s.data.toList [44] = 0 := hk
    rw [Lib.count_one] at hc
    have hn : (44 : UInt8) ∉ s.data.toList := List.count_eq_zero.1 hc
    rw [splitL_not _ hn]
    rfl
  | succ k ih =>
    intro s hk
    rcases split_cases s.data.toList with hn | ⟨a, r, e, hn⟩
    · have hc : Lib.count s.data.toList [44] = k + 1 := hk
      rw [Lib.count_one, List.count_eq_zero.2 hn] at hc
      omega
    · have hix : Lib.indexB s comma = (a.length : Nat) := by
        show Lib.index s.data.toList [44] = _
        rw [Lib.index_one, e]
        exact index_app 44 a r hn
      have h1 : 1 ≤ comma.size := by decide
      have hcnt := Lib.countB_hit s comma a.length h1 hix
      rw [Lib.splitB_hit comma 0 k s a.length hix, List.map_cons]
      have hcs : comma.size = 1 := by decide
      rw [hcs] at hcnt ⊢
      rw [ih _ (by omega), e, splitL_app a r hn]
      have e1 : (s.extract 0 (a.length + 0)).data.toList = a := by rw [Lib.extract_data, e]; simp
      have e2 : (s.extract (a.length + 1) s.size).data.toList = r := by rw [Lib.extract_to_end, e, List.drop_append]; simp
      rw [e1, e2]
theorem ws_L (s : ByteArray) : (ws s).map (·.data.toList) = splitL s.data.toList := splitB_L _ s rfl
theorem inter_cons (x : List UInt8) (r : List (List UInt8)) (h : r ≠ []) : ([44] : List UInt8).intercalate (x :: r) = x ++ 44 :: ([44] : List UInt8).intercalate r := by
  cases r with
  | nil => exact absurd rfl h
  | cons y r => simp [List.intercalate, List.intersperse]
theorem join_split (l : List UInt8) : ([44] : List UInt8).intercalate (splitL l) = l := by
  induction l with
  | nil => simp [splitL, List.intercalate]
  | cons c r ih =>
    unfold splitL
    by_cases hc : c = 44
    · rw [if_pos hc, inter_cons _ _ (splitL_ne r), ih, hc]; rfl
    · rw [if_neg hc]
      cases e : splitL r with
      | nil => exact absurd e (splitL_ne r)
      | cons a t =>
        rw [e] at ih
        cases t with
        | nil => simp [List.intercalate] at ih ⊢; exact ih
        | cons b t =>
          rw [inter_cons _ _ (by simp)] at ih ⊢
          simp [← ih]
theorem split_join (a : List (List UInt8)) (h0 : a ≠ []) (h : ∀ x ∈ a, 44 ∉ x) : splitL (([44] : List UInt8).intercalate a) = a := by
  induction a with
  | nil => exact absurd rfl h0
  | cons x r ih =>
    cases r with
    | nil => simp only [List.intercalate, List.intersperse, List.flatten_cons, List.flatten_nil, List.append_nil]; exact splitL_not x (h x (by simp))
    | cons y r =>
      rw [inter_cons _ _ (by simp), splitL_app _ _ (h x (by simp)), ih (by simp) (fun z hz => h z (by simp [hz]))]
theorem pinsOf_text (l : List (Int × Int)) (h : ∀ p ∈ l, okP p) : pinsOf (l.map pinText) = some l := by
  induction l with
  | nil => rfl
  | cons p r ih =>
    simp only [List.map_cons, pinsOf, pin_back p (h p (by simp)), ih (fun q hq => h q (by simp [hq]))]
theorem pinText_ne (p : Int × Int) : pinText p ≠ [] := by unfold pinText; simp
theorem text_ne (p : Int × Int) (r : List (Int × Int)) : text (p :: r) ≠ [] := by
  unfold text Lib.join
  rw [List.map_cons]
  intro e
  cases r with
  | nil => simp [List.intercalate] at e; exact pinText_ne p e
  | cons q r =>
    rw [inter_cons _ _ (by simp)] at e
    simp at e
theorem pins_text (l : List (Int × Int)) (h : ∀ p ∈ l, okP p) : pins ⟨(text l).toArray⟩ = some l := by
  cases l with
  | nil => rfl
  | cons p r =>
    unfold pins
    have hs : ¬ (⟨(text (p :: r)).toArray⟩ : ByteArray).size = 0 := by
      show ¬ (text (p :: r)).toArray.size = 0
      rw [List.size_toArray]
      intro e
      exact text_ne p r (List.length_eq_zero_iff.1 e)
    rw [if_neg hs, ws_L]
    show pinsOf (splitL (text (p :: r))) = _
    unfold text Lib.join
    rw [split_join _ (by simp) (fun x hx => by obtain ⟨q, hq, rfl⟩ := List.mem_map.1 hx; exact pin_no44 q (h q hq))]
    exact pinsOf_text _ h
theorem numOf_back {s : List UInt8} {v : Int} (h : numOf s = some v) (h0 : 0 ≤ v) : s = Lib.decDigits v.toNat := by
  unfold numOf at h
  split at h
  · rename_i u _
    by_cases e : Lib.itoa u = s
    · rw [if_pos e] at h
      cases h
      rw [← e]
      unfold Lib.itoa
      rw [if_neg (by omega)]
    · rw [if_neg e] at h; cases h
  · cases h
theorem pinOf_back {s : List UInt8} {p : Int × Int} (h : pinOf s = some p) (hp : okP p) : s = pinText p := by
  have hge := Lib.indexByte_ge s 64
  by_cases hix : Lib.indexByte s 64 = -1
  · rw [pinOf_none s hix] at h; cases h
  · obtain ⟨k, hk⟩ : ∃ k : Nat, Lib.indexByte s 64 = k := ⟨(Lib.indexByte s 64).toNat, by omega⟩
    rw [pinOf_at s k hk] at h
    cases e1 : numOf (s.take k) with
    | none => rw [e1] at h; cases h
    | some a =>
      cases e2 : numOf (s.drop (k + 1)) with
      | none => rw [e1, e2] at h; cases h
      | some b =>
        rw [e1, e2] at h
        cases h
        obtain ⟨⟨h1, _⟩, h3, _⟩ := hp
        simp only at h1 h3
        have ea := numOf_back e1 (by omega)
        have eb := numOf_back e2 (by omega)
        have hk64 := (Lib.indexByte_some hk).1
        obtain ⟨hlt, hv⟩ := List.getElem?_eq_some_iff.1 hk64
        unfold pinText
        rw [← ea, ← eb]
        conv => lhs; rw [← List.take_append_drop k s, List.drop_eq_getElem_cons hlt, hv]
theorem pinsOf_back (a : List (List UInt8)) (l : List (Int × Int)) (h : pinsOf a = some l) (hp : ∀ p ∈ l, okP p) : a = l.map pinText := by
  induction a generalizing l with
  | nil => simp only [pinsOf, Option.some.injEq] at h; subst h; rfl
  | cons x r ih =>
    simp only [pinsOf] at h
    cases e : pinOf x with
    | none => rw [e] at h; simp at h
    | some q =>
      cases e' : pinsOf r with
      | none => rw [e, e'] at h; simp at h
      | some m =>
        rw [e, e'] at h
        simp only [Option.some.injEq] at h
        subst h
        rw [List.map_cons, ← ih m e' (fun p hp' => hp p (by simp [hp'])), ← pinOf_back e (hp q (by simp))]
theorem text_back (s : ByteArray) (l : List (Int × Int)) (h : pins s = some l) (hp : ∀ p ∈ l, okP p) : text l = s.data.toList := by
  unfold pins at h
  by_cases h0 : s.size = 0
  · rw [if_pos h0] at h
    cases h
    have : s.data.toList = [] := List.length_eq_zero_iff.1 h0
    rw [this]; simp [text, Lib.join]
  · rw [if_neg h0, ws_L] at h
    have := pinsOf_back _ _ h hp
    unfold text Lib.join
    rw [← this, join_split]
end Lk
end Go.Proofs.YtlnbcgjahjjpfacGreatDoor
/- Plain functions on records: how they are checked, written and read; what is written is read, what is read is written as it was. Nothing of the program is named here. -/
namespace Go.Proofs.YtlnbcgjahjjpfacGreatDoor
namespace Lk
/-- a record -/
structure Note where
  kind : Int
  agent : Int
  tr : Int
  n : Int
  good : Bool
  id : Int
  lock : List (Int × Int)
def Note.none : Note := ⟨0, 0, 0, 0, false, 0, []⟩
def uA (k : Int) : Bool := k == 6 || k == 7
def uT (k : Int) : Bool := k == 1 || k == 2 || k == 3 || k == 6 || k == 7
def uN (k : Int) : Bool := k == 5
def uG (k : Int) : Bool := k == 3 || k == 7
def uR (k : Int) : Bool := k == 1 || k == 4
def within (n a b : Int) : Bool := decide (a ≤ n) && decide (n ≤ b)
def chkRel (id : Int) (l : List (Int × Int)) : Int := if within id 1 6 = true then chk l else 3
/-- something it has no use for isn't zero -/
def unused (r : Note) : Bool := (r.agent != 0 && !uA r.kind) || (r.tr != 0 && !uT r.kind) || (r.n != 0 && !uN r.kind) || (r.good && !uG r.kind) || ((r.id != 0 || decide (0 < r.lock.length)) && !uR r.kind)
def outside (r : Note) : Bool := !within r.agent 0 5 || (uT r.kind && !within r.tr 1 200) || (uN r.kind && !within r.n 1 6)
def chkNote (r : Note) : Int :=
  if (!within r.kind 1 9 || unused r) = true then 4
  else if outside r = true then 3
  else if uR r.kind = true then chkRel r.id r.lock
  else 0
def goodNum (b : Bool) : Int := if b = true then 1 else 0
def Note.nums (r : Note) : List Int := [r.kind, r.agent, r.tr, r.n, goodNum r.good, r.id]
def noteText (r : Note) : List UInt8 := (r.nums.map fun n => Lib.itoa n ++ [32]).flatten ++ 61 :: text r.lock
def alike (i : Int) (l : List (Int × Int)) (j : Int) (m : List (Int × Int)) : Bool := i == j && same l m
def sameNote (a b : Note) : Bool := a.kind == b.kind && a.agent == b.agent && a.tr == b.tr && a.n == b.n && a.good == b.good && alike a.id a.lock b.id b.lock
def notePrinted (r : Note) : List UInt8 := if chkNote r = 0 then noteText r else []
theorem sameNote_iff (a b : Note) : sameNote a b = true ↔ a = b := by
  obtain ⟨a1, a2, a3, a4, a5, a6, a7⟩ := a
  obtain ⟨b1, b2, b3, b4, b5, b6, b7⟩ := b
  simp [sameNote, alike, same, and_assoc]
theorem sameNote_self (a : Note) : sameNote a a = true := (sameNote_iff a a).2 rfl

/-! ### reading -/
/-- the first k numbers, each with a blank behind it, and what is behind them -/
def rdTo : Nat → List UInt8 → Option (List Int × List UInt8)
  | 0, s => some ([], s)
  | k + 1, s => match rdTo k s with
    | none => none
    | some q => if (Lib.cut q.2 [32]).2.2 = true then
        (match numOf (Lib.cut q.2 [32]).1 with
          | some n => some (q.1 ++ [n], (Lib.cut q.2 [32]).2.1)
          | none => none)
      else none
theorem rdTo_none {k : Nat} {s : List UInt8} (h : rdTo k s = none) : ∀ j, rdTo (k + j) s = none
  | 0 => h
  | j + 1 => by show rdTo (k + j + 1) s = none; rw [rdTo, rdTo_none h j]
theorem rdTo_next {k : Nat} {s r : List UInt8} {ns : List Int} {n : Int} (h : rdTo k s = some (ns, r)) (hc : (Lib.cut r [32]).2.2 = true) (hn : numOf (Lib.cut r [32]).1 = some n) : rdTo (k + 1) s = some (ns ++ [n], (Lib.cut r [32]).2.1) := by
  rw [rdTo, h]; simp only; rw [if_pos hc, hn]
theorem rdTo_cut {k : Nat} {s r : List UInt8} {ns : List Int} (h : rdTo k s = some (ns, r)) (hc : (Lib.cut r [32]).2.2 = false) : rdTo (k + 1) s = none := by
  rw [rdTo, h]; simp only; rw [if_neg (by rw [hc]; decide)]
theorem rdTo_num {k : Nat} {s r : List UInt8} {ns : List Int} (h : rdTo k s = some (ns, r)) (hn : numOf (Lib.cut r [32]).1 = none) : rdTo (k + 1) s = none := by
  rw [rdTo, h]; simp only
  split
  · rw [hn]
  · rfl
theorem rdTo_len {k : Nat} : ∀ {s r : List UInt8} {ns : List Int}, rdTo k s = some (ns, r) → ns.length = k := by
  induction k with
  | zero => intro s r ns h; simp only [rdTo, Option.some.injEq, Prod.mk.injEq] at h; rw [← h.1]; rfl
  | succ k ih =>
    intro s r ns h
    rw [rdTo] at h
    cases e : rdTo k s with
    | none => rw [e] at h; cases h
    | some q =>
      obtain ⟨ms, t⟩ := q
      rw [e] at h
      simp only at h
      split at h
      · split at h
        · simp only [Option.some.injEq, Prod.mk.injEq] at h
          rw [← h.1, List.length_append, ih e]; rfl
        · cases h
      · cases h
def noteOf (ns : List Int) (l : List (Int × Int)) : Note := ⟨ns.getD 0 0, ns.getD 1 0, ns.getD 2 0, ns.getD 3 0, ns.getD 4 0 == 1, ns.getD 5 0, l⟩
/-- what the numbers and the lock's text are read as -/
def fin (ns : List Int) (t : List UInt8) : Note × Int :=
  if (readAs ⟨t.toArray⟩).2 = 0 then
    (if chkNote (noteOf ns (readAs ⟨t.toArray⟩).1) = 0 then (noteOf ns (readAs ⟨t.toArray⟩).1, 0) else (Note.none, chkNote (noteOf ns (readAs ⟨t.toArray⟩).1)))
  else (Note.none, (readAs ⟨t.toArray⟩).2)
def readNote (s : List UInt8) : Note × Int := match rdTo 6 s with
  | none => (Note.none, 1)
  | some q => match q.2 with
    | [] => (Note.none, 1)
    | c :: t => if c = 61 ∧ within (q.1.getD 4 0) 0 1 = true then fin q.1 t else (Note.none, 1)

/-! ### words -/
def blank : ByteArray := ⟨#[32]⟩
def wb (s : ByteArray) : List ByteArray := Lib.splitB blank 0 (Lib.countB s blank) s
theorem wb_len (s : ByteArray) : (wb s).length = Lib.countB s blank + 1 := Lib.splitB_all blank (by decide) 0 _ s rfl
theorem countb_le (s : ByteArray) : Lib.countB s blank ≤ s.size := Lib.countB_le blank (by decide) s.size s (Nat.le_refl _)
theorem splitb_le (k : Nat) : ∀ (s x : ByteArray), x ∈ Lib.splitB blank 0 k s → x.size ≤ s.size := by
  induction k with
  | zero => intro s x h; simp [Lib.splitB] at h; rw [h]; exact Nat.le_refl _
  | succ k ih =>
    intro s x h
    unfold Lib.splitB at h
    split at h
    · simp at h; rw [h]; exact Nat.le_refl _
    · rcases List.mem_cons.1 h with h | h
      · rw [h, ByteArray.size_extract]; omega
      · have := ih _ _ h; rw [ByteArray.size_extract] at this; omega
theorem wb_le (s x : ByteArray) (h : x ∈ wb s) : x.size ≤ s.size := splitb_le _ s x h
def splitC : List UInt8 → List (List UInt8)
  | [] => [[]]
  | c :: r => if c = 32 then [] :: splitC r else match splitC r with
    | [] => [[c]]
    | a :: t => (c :: a) :: t
theorem splitC_ne (l : List UInt8) : splitC l ≠ [] := by
  cases l with
  | nil => simp [splitC]
  | cons c r =>
    unfold splitC
    split
    · simp
    · split <;> simp
theorem splitC_not (a : List UInt8) (h : 32 ∉ a) : splitC a = [a] := by
  induction a with
  | nil => rfl
  | cons x t ih =>
    unfold splitC
    rw [if_neg (fun e => h (by simp [e])), ih (fun e => h (by simp [e]))]
theorem splitC_app (a r : List UInt8) (h : 32 ∉ a) : splitC (a ++ 32 :: r) = a :: splitC r := by
  induction a with
  | nil => simp [splitC]
  | cons x t ih =>
    rw [List.cons_append, splitC, if_neg (fun e => h (by simp [e])), ih (fun e => h (by simp [e]))]
theorem blank_cases (l : List UInt8) : 32 ∉ l ∨ ∃ a r, l = a ++ 32 :: r ∧ 32 ∉ a := by
  induction l with
  | nil => exact .inl (by simp)
  | cons c t ih =>
    by_cases hc : c = 32
    · exact .inr ⟨[], t, by simp [hc], by simp⟩
    · rcases ih with ih | ⟨a, r, e, h⟩
      · exact .inl (by simp [ih, Ne.symm hc])
      · exact .inr ⟨c :: a, r, by simp [e], by simp [h, Ne.symm hc]⟩
theorem splitB_C (k : Nat) : ∀ s : ByteArray, Lib.countB s blank = k → (Lib.splitB blank 0 k s).map (·.data.toList) = splitC s.data.toList := by
  induction k with
  | zero =>
    intro s hk
    have hc : Lib.count s.data.toList [32] = 0 := hk
    rw [Lib.count_one] at hc
    have hn : (32 : UInt8) ∉ s.data.toList := List.count_eq_zero.1 hc
    rw [splitC_not _ hn]
    rfl
  | succ k ih =>
    intro s hk
    rcases blank_cases s.data.toList with hn | ⟨a, r, e, hn⟩
    · have hc : Lib.count s.data.toList [32] = k + 1 := hk
      rw [Lib.count_one, List.count_eq_zero.2 hn] at hc
      omega
    · have hix : Lib.indexB s blank = (a.length : Nat) := by
        show Lib.index s.data.toList [32] = _
        rw [Lib.index_one, e]
        exact index_app 32 a r hn
      have h1 : 1 ≤ blank.size := by decide
      have hcnt := Lib.countB_hit s blank a.length h1 hix
      rw [Lib.splitB_hit blank 0 k s a.length hix, List.map_cons]
      have hcs : blank.size = 1 := by decide
      rw [hcs] at hcnt ⊢
      rw [ih _ (by omega), e, splitC_app a r hn]
      have e1 : (s.extract 0 (a.length + 0)).data.toList = a := by rw [Lib.extract_data, e]; simp
      have e2 : (s.extract (a.length + 1) s.size).data.toList = r := by rw [Lib.extract_to_end, e, List.drop_append]; simp
      rw [e1, e2]
theorem wb_C (s : ByteArray) : (wb s).map (·.data.toList) = splitC s.data.toList := splitB_C _ s rfl
theorem wb_at {s : ByteArray} {j : Nat} {x : ByteArray} (h : (wb s)[j]? = some x) : (splitC s.data.toList)[j]? = some x.data.toList := by
  rw [← wb_C, List.getElem?_map, h]; rfl
theorem wb_lenC (s : ByteArray) : (splitC s.data.toList).length = (wb s).length := by rw [← wb_C, List.length_map]
theorem cut_not (s : List UInt8) (h : 32 ∉ s) : Lib.cut s [32] = (s, [], false) := by
  have e : Lib.index s [32] = -1 := (Lib.index_one s 32).trans (index_not 32 s h)
  unfold Lib.cut; rw [e, if_neg (by omega)]
theorem cut_app (a r : List UInt8) (h : 32 ∉ a) : Lib.cut (a ++ 32 :: r) [32] = (a, r, true) := by
  have e : Lib.index (a ++ 32 :: r) [32] = (a.length : Int) := (Lib.index_one _ 32).trans (index_app 32 a r h)
  unfold Lib.cut; rw [e, if_pos (by omega)]; simp
/-- what the numbers are, read from the words -/
def numsOf : List (List UInt8) → Option (List Int)
  | [] => some []
  | s :: r => match numOf s, numsOf r with
    | some p, some l => some (p :: l)
    | _, _ => none
theorem numsOf_snoc (a : List (List UInt8)) (s : List UInt8) (l : List Int) (p : Int) (h : numsOf a = some l) (hp : numOf s = some p) : numsOf (a ++ [s]) = some (l ++ [p]) := by
  induction a generalizing l with
  | nil => simp only [numsOf, Option.some.injEq] at h; subst h; simp [numsOf, hp]
  | cons x r ih =>
    simp only [numsOf] at h
    simp only [List.cons_append, numsOf]
    cases e : numOf x with
    | none => rw [e] at h; simp at h
    | some q =>
      cases e' : numsOf r with
      | none => rw [e, e'] at h; simp at h
      | some m =>
        rw [e, e'] at h
        simp only [Option.some.injEq] at h
        subst h
        rw [ih m e']
        rfl
theorem numsOf_bad (a : List (List UInt8)) (s : List UInt8) (hs : s ∈ a) (h : numOf s = none) : numsOf a = none := by
  induction a with
  | nil => cases hs
  | cons x r ih =>
    simp only [numsOf]
    rcases List.mem_cons.1 hs with rfl | hs
    · rw [h]
    · rw [ih hs]; cases numOf x <;> rfl
theorem rdTo_some {k : Nat} : ∀ {s r : List UInt8} {ns : List Int}, rdTo k s = some (ns, r) → ∃ ws : List (List UInt8), ws.length = k ∧ splitC s = ws ++ splitC r ∧ numsOf ws = some ns ∧ s = (ws.map fun w => w ++ [32]).flatten ++ r := by
  induction k with
  | zero => intro s r ns h; simp only [rdTo, Option.some.injEq, Prod.mk.injEq] at h; exact ⟨[], rfl, by rw [h.2]; rfl, by rw [← h.1]; rfl, by rw [h.2]; rfl⟩
  | succ k ih =>
    intro s r ns h
    rw [rdTo] at h
    cases e : rdTo k s with
    | none => rw [e] at h; cases h
    | some q =>
      obtain ⟨ms, t⟩ := q
      rw [e] at h
      simp only at h
      obtain ⟨ws, w1, w2, w3, w4⟩ := ih e
      rcases blank_cases t with hn | ⟨a, b, rfl, hn⟩
      · rw [cut_not t hn] at h; simp at h
      · rw [cut_app a b hn] at h
        simp only [if_true] at h
        cases en : numOf a with
        | none => rw [en] at h; cases h
        | some n =>
          rw [en] at h
          simp only [Option.some.injEq, Prod.mk.injEq] at h
          obtain ⟨rfl, rfl⟩ := h
          exact ⟨ws ++ [a], by simp [w1], by rw [w2, splitC_app a _ hn]; simp, numsOf_snoc _ _ _ _ w3 en, by rw [w4]; simp⟩
theorem rdTo_nope {k : Nat} : ∀ {s : List UInt8}, rdTo k s = none → (splitC s).length ≤ k ∨ numsOf ((splitC s).take k) = none := by
  induction k with
  | zero => intro s h; cases h
  | succ k ih =>
    intro s h
    rw [rdTo] at h
    cases e : rdTo k s with
    | none =>
      rcases ih e with h1 | h1
      · exact .inl (by omega)
      · by_cases hl : (splitC s).length ≤ k
        · exact .inl (by omega)
        · right
          rw [List.take_add_one]
          cases h2 : numsOf ((splitC s).take k ++ (splitC s)[k]?.toList) with
          | none => rfl
          | some z =>
            exfalso
            have key : ∀ (a b : List (List UInt8)) z, numsOf (a ++ b) = some z → numsOf a ≠ none := by
              intro a
              induction a with
              | nil => intro b z _ h; cases h
              | cons x r ihr =>
                intro b z h hh
                simp only [List.cons_append, numsOf] at h hh
                cases e1 : numOf x with
                | none => rw [e1] at h; simp at h
                | some q =>
                  cases e2 : numsOf (r ++ b) with
                  | none => rw [e1, e2] at h; simp at h
                  | some m =>
                    cases e3 : numsOf r with
                    | none => exact ihr b m e2 e3
                    | some _ => rw [e1, e3] at hh; simp at hh
            exact key _ _ z h2 h1
    | some q =>
      obtain ⟨ms, t⟩ := q
      rw [e] at h
      simp only at h
      obtain ⟨ws, w1, w2, w3, w4⟩ := rdTo_some e
      rcases blank_cases t with hn | ⟨a, b, rfl, hn⟩
      · left; rw [w2, splitC_not t hn]; simp [w1]
      · rw [cut_app a b hn] at h
        simp only [if_true] at h
        right
        rw [w2, splitC_app a b hn, List.take_append]
        refine numsOf_bad _ a (by simp [w1]) ?_
        cases en : numOf a with
        | none => rfl
        | some n => rw [en] at h; cases h

/-! ### the document's way of reading: word by word -/
theorem numsOf_len (a : List (List UInt8)) (l : List Int) (h : numsOf a = some l) : l.length = a.length := by
  induction a generalizing l with
  | nil => simp only [numsOf, Option.some.injEq] at h; subst h; rfl
  | cons x r ih =>
    simp only [numsOf] at h
    cases e : numOf x with
    | none => rw [e] at h; simp at h
    | some q =>
      cases e' : numsOf r with
      | none => rw [e, e'] at h; simp at h
      | some m =>
        rw [e, e'] at h
        simp only [Option.some.injEq] at h
        subst h
        simp [ih m e']
theorem dec_digits (u : Nat) : ∀ b ∈ Lib.decDigits u, 48 ≤ b.toNat ∧ b.toNat ≤ 57 := by
  induction u using Nat.strongRecOn with
  | _ u ih =>
    intro b hb
    by_cases h : u < 10
    · rw [Lib.decDigits, dif_pos h] at hb
      simp only [List.mem_singleton] at hb
      subst hb
      simp; omega
    · rw [Lib.decDigits, dif_neg h] at hb
      rcases List.mem_append.1 hb with hb | hb
      · exact ih (u / 10) (by omega) b hb
      · simp only [List.mem_singleton] at hb
        subst hb
        simp; omega
theorem itoa_bytes (n : Int) : ∀ b ∈ Lib.itoa n, b = 45 ∨ (48 ≤ b.toNat ∧ b.toNat ≤ 57) := by
  intro b hb
  unfold Lib.itoa at hb
  split at hb
  · rcases List.mem_cons.1 hb with h | h
    · exact .inl h
    · exact .inr (dec_digits _ b h)
  · exact .inr (dec_digits _ b hb)
theorem itoa_not {c : UInt8} (h1 : c ≠ 45) (h2 : ¬ (48 ≤ c.toNat ∧ c.toNat ≤ 57)) (n : Int) : c ∉ Lib.itoa n := fun h => by
  rcases itoa_bytes n c h with e | e
  · exact h1 e
  · exact h2 e
theorem numOf_itoa {s : List UInt8} {v : Int} (h : numOf s = some v) : Lib.itoa v = s := by
  unfold numOf at h
  split at h
  · rename_i u _
    by_cases e : Lib.itoa u = s
    · rw [if_pos e] at h; cases h; exact e
    · rw [if_neg e] at h; cases h
  · cases h
theorem num_no32 {s : List UInt8} {v : Int} (h : numOf s = some v) : 32 ∉ s := by
  rw [← numOf_itoa h]; exact itoa_not (by decide) (by decide) v
theorem pinOf_no32 {s : List UInt8} {p : Int × Int} (h : pinOf s = some p) : 32 ∉ s := by
  have hge := Lib.indexByte_ge s 64
  by_cases hix : Lib.indexByte s 64 = -1
  · rw [pinOf_none s hix] at h; cases h
  · obtain ⟨k, hk⟩ : ∃ k : Nat, Lib.indexByte s 64 = k := ⟨(Lib.indexByte s 64).toNat, by omega⟩
    rw [pinOf_at s k hk] at h
    cases e1 : numOf (s.take k) with
    | none => rw [e1] at h; cases h
    | some a =>
      cases e2 : numOf (s.drop (k + 1)) with
      | none => rw [e1, e2] at h; cases h
      | some b =>
        have hk64 := (Lib.indexByte_some hk).1
        obtain ⟨hlt, hv⟩ := List.getElem?_eq_some_iff.1 hk64
        intro hm
        rw [← List.take_append_drop k s, List.drop_eq_getElem_cons hlt, hv] at hm
        rcases List.mem_append.1 hm with hm | hm
        · exact num_no32 e1 hm
        · rcases List.mem_cons.1 hm with hm | hm
          · exact absurd hm (by decide)
          · exact num_no32 e2 hm
theorem pinsOf_no32 (a : List (List UInt8)) (l : List (Int × Int)) (h : pinsOf a = some l) : ∀ x ∈ a, 32 ∉ x := by
  induction a generalizing l with
  | nil => intro x hx; cases hx
  | cons x r ih =>
    simp only [pinsOf] at h
    cases e : pinOf x with
    | none => rw [e] at h; simp at h
    | some q =>
      cases e' : pinsOf r with
      | none => rw [e, e'] at h; simp at h
      | some m =>
        intro y hy
        rcases List.mem_cons.1 hy with rfl | hy
        · exact pinOf_no32 e
        · exact ih m e' y hy
theorem inter_mem (c : UInt8) (hc : c ≠ 44) (a : List (List UInt8)) (h : ∀ x ∈ a, c ∉ x) : c ∉ ([44] : List UInt8).intercalate a := by
  induction a with
  | nil => simp [List.intercalate]
  | cons x r ih =>
    cases r with
    | nil => simp only [List.intercalate, List.intersperse, List.flatten_cons, List.flatten_nil, List.append_nil]; exact h x (by simp)
    | cons y r =>
      rw [inter_cons _ _ (by simp)]
      intro hm
      rcases List.mem_append.1 hm with hm | hm
      · exact h x (by simp) hm
      · rcases List.mem_cons.1 hm with hm | hm
        · exact hc hm
        · exact ih (fun z hz => h z (by simp [hz])) hm
theorem pins_no32 {t : ByteArray} {l : List (Int × Int)} (h : pins t = some l) : 32 ∉ t.data.toList := by
  unfold pins at h
  by_cases h0 : t.size = 0
  · have : t.data.toList = [] := List.length_eq_zero_iff.1 h0
    rw [this]; simp
  · rw [if_neg h0, ws_L] at h
    have := inter_mem 32 (by decide) _ (pinsOf_no32 _ _ h)
    rwa [join_split] at this
theorem readAs_blank {t : List UInt8} (h : 32 ∈ t) : readAs ⟨t.toArray⟩ = ([], 1) := by
  unfold readAs
  cases e : pins ⟨t.toArray⟩ with
  | none => rfl
  | some l => exact absurd (by simpa using h) (pins_no32 e)
theorem fin_blank {t : List UInt8} (ns : List Int) (h : 32 ∈ t) : fin ns t = (Note.none, 1) := by
  unfold fin; rw [readAs_blank h]; rfl
theorem read_len {s : List UInt8} (h : (splitC s).length ≠ 7) : readNote s = (Note.none, 1) := by
  unfold readNote
  cases e : rdTo 6 s with
  | none => rfl
  | some q =>
    obtain ⟨ns, r⟩ := q
    obtain ⟨ws, w1, w2, w3, w4⟩ := rdTo_some e
    simp only
    cases r with
    | nil => rfl
    | cons c t =>
      simp only
      split
      · rename_i hc
        refine fin_blank _ ?_
        by_cases hm : 32 ∈ c :: t
        · rcases List.mem_cons.1 hm with hm | hm
          · rw [hc.1] at hm; exact absurd hm (by decide)
          · exact hm
        · rw [w2, splitC_not _ hm, List.length_append, w1] at h
          exact absurd rfl h
      · rfl
theorem read_num {s : List UInt8} (h : numsOf ((splitC s).take 6) = none) : readNote s = (Note.none, 1) := by
  unfold readNote
  cases e : rdTo 6 s with
  | none => rfl
  | some q =>
    obtain ⟨ns, r⟩ := q
    obtain ⟨ws, w1, w2, w3, w4⟩ := rdTo_some e
    rw [w2, List.take_left' w1, w3] at h
    cases h
theorem read_words {s x : List UInt8} {ns : List Int} (hl : (splitC s).length = 7) (hx : (splitC s)[6]? = some x) (hn : numsOf ((splitC s).take 6) = some ns) : rdTo 6 s = some (ns, x) := by
  cases e : rdTo 6 s with
  | none =>
    rcases rdTo_nope e with h | h
    · omega
    · rw [h] at hn; cases hn
  | some q =>
    obtain ⟨ms, r⟩ := q
    obtain ⟨ws, w1, w2, w3, w4⟩ := rdTo_some e
    rw [w2, List.take_left' w1, w3] at hn
    cases hn
    rw [w2, List.length_append, w1] at hl
    rcases blank_cases r with hm | ⟨a, b, rfl, hm⟩
    · rw [w2, splitC_not r hm, List.getElem?_append_right (by omega), w1] at hx
      simp at hx; rw [hx]
    · rw [splitC_app a b hm] at hl
      have := splitC_ne b
      have h2 : (splitC b).length ≠ 0 := fun e => this (List.length_eq_zero_iff.1 e)
      simp at hl; omega
theorem read_head {s x : List UInt8} (hl : (splitC s).length = 7) (hx : (splitC s)[6]? = some x) (hp : Lib.hasPrefix x [61] = false) : readNote s = (Note.none, 1) := by
  cases e : numsOf ((splitC s).take 6) with
  | none => exact read_num e
  | some ns =>
    unfold readNote
    rw [read_words hl hx e]
    simp only
    cases x with
    | nil => rfl
    | cons c t =>
      simp only
      rw [if_neg]
      intro h
      rw [h.1] at hp
      simp [Lib.hasPrefix] at hp
theorem read_good {s x : List UInt8} {ns : List Int} (hl : (splitC s).length = 7) (hx : (splitC s)[6]? = some x) (hn : numsOf ((splitC s).take 6) = some ns) (hg : within (ns.getD 4 0) 0 1 = false) : readNote s = (Note.none, 1) := by
  unfold readNote
  rw [read_words hl hx hn]
  simp only
  cases x with
  | nil => rfl
  | cons c t =>
    simp only
    rw [if_neg]
    intro h
    rw [h.2] at hg; cases hg
theorem read_fin {s x : List UInt8} {ns : List Int} (hl : (splitC s).length = 7) (hx : (splitC s)[6]? = some x) (hp : Lib.hasPrefix x [61] = true) (hn : numsOf ((splitC s).take 6) = some ns) (hg : within (ns.getD 4 0) 0 1 = true) : readNote s = fin ns (x.drop 1) := by
  unfold readNote
  rw [read_words hl hx hn]
  simp only
  cases x with
  | nil => simp [Lib.hasPrefix] at hp
  | cons c t =>
    simp only
    have hc : c = 61 := by
      have := hp
      simp [Lib.hasPrefix] at this
      exact this.symm
    rw [if_pos ⟨hc, hg⟩]; rfl
end Lk
end Go.Proofs.YtlnbcgjahjjpfacGreatDoor
/- Plain facts on records: what is written is read as it was, what is read is written as it was; unlike records have unlike texts. -/
namespace Go.Proofs.YtlnbcgjahjjpfacGreatDoor
namespace Lk
theorem split_words (ws : List (List UInt8)) (r : List UInt8) (h : ∀ w ∈ ws, 32 ∉ w) : splitC ((ws.map fun w => w ++ [32]).flatten ++ r) = ws ++ splitC r := by
  induction ws with
  | nil => rfl
  | cons w t ih =>
    have e : ((w :: t).map fun w => w ++ [32]).flatten ++ r = w ++ 32 :: ((t.map fun w => w ++ [32]).flatten ++ r) := by simp
    rw [e, splitC_app w _ (h w (by simp)), ih (fun x hx => h x (by simp [hx]))]
    rfl
theorem rdTo_words (ws : List (List UInt8)) (r : List UInt8) (ns : List Int) (h : ∀ w ∈ ws, 32 ∉ w) (hn : numsOf ws = some ns) : rdTo ws.length ((ws.map fun w => w ++ [32]).flatten ++ r) = some (ns, r) := by
  have hs := split_words ws r h
  cases e : rdTo ws.length ((ws.map fun w => w ++ [32]).flatten ++ r) with
  | none =>
    rcases rdTo_nope e with h1 | h1
    · have : (splitC r).length ≠ 0 := fun e => splitC_ne r (List.length_eq_zero_iff.1 e)
      rw [hs, List.length_append] at h1; omega
    · rw [hs, List.take_left, hn] at h1; cases h1
  | some q =>
    obtain ⟨ms, t⟩ := q
    obtain ⟨ws', w1, w2, w3, w4⟩ := rdTo_some e
    rw [hs] at w2
    have e1 : ws = ws' := by
      have := congrArg (List.take ws.length) w2
      rwa [List.take_left, List.take_left' w1] at this
    subst e1
    rw [hn] at w3
    cases w3
    rw [List.append_cancel_left w4]
/-- the digits of a number below 1000 -/
def ddd (n : Nat) : List UInt8 := if n < 100 then dd n else dd (n / 10) ++ [UInt8.ofNat (48 + n % 10)]
theorem ddd_eq {n : Nat} (h : n < 1000) : Lib.decDigits n = ddd n := by
  unfold ddd
  by_cases h1 : n < 100
  · rw [if_pos h1, dd_eq h1]
  · rw [if_neg h1, Lib.decDigits, dif_neg (by omega), dd_eq (by omega)]
theorem ddd_all : ∀ n : Fin 256, Lib.atoiAll (ddd n.1) = .ok (n.1 : Int) := by decide +kernel
theorem num_itoa (v : Int) (h0 : 0 ≤ v) (h1 : v ≤ 200) : numOf (Lib.itoa v) = some v := by
  obtain ⟨n, rfl⟩ := Int.eq_ofNat_of_zero_le h0
  rw [Lib.itoa_nonneg]
  exact numOf_ok (by rw [ddd_eq (by omega)]; exact ddd_all ⟨n, by omega⟩) (Lib.itoa_nonneg n)
theorem numsOf_itoa (ns : List Int) (h : ∀ v ∈ ns, 0 ≤ v ∧ v ≤ 200) : numsOf (ns.map Lib.itoa) = some ns := by
  induction ns with
  | nil => rfl
  | cons v t ih =>
    obtain ⟨h1, h2⟩ := h v (by simp)
    rw [List.map_cons, numsOf, num_itoa v h1 h2, ih (fun x hx => h x (by simp [hx]))]
/-- what a record that is one has -/
theorem note_ok {r : Note} (h : chkNote r = 0) : (∀ v ∈ r.nums, 0 ≤ v ∧ v ≤ 200) ∧ chk r.lock = 0 := by
  obtain ⟨k, a, t, n, g, i, l⟩ := r
  unfold chkNote at h
  split at h
  · cases h
  rename_i h1
  split at h
  · cases h
  rename_i h2
  simp only [Bool.or_eq_true, not_or, Bool.not_eq_true] at h1 h2
  obtain ⟨hk, hu⟩ := h1
  simp only [Bool.not_eq_false'] at hk
  simp only [within, Bool.and_eq_true, decide_eq_true_eq] at hk
  simp only [unused, outside, Bool.or_eq_false_iff, Bool.and_eq_false_iff, Bool.not_eq_false', bne_eq_false_iff_eq, within, Bool.and_eq_true, decide_eq_true_eq, decide_eq_false_iff_not] at hu h2
  obtain ⟨⟨⟨⟨hA, hT⟩, hN⟩, hG⟩, hR⟩ := hu
  obtain ⟨⟨hA2, hT2⟩, hN2⟩ := h2
  have hgn : goodNum g = 0 ∨ goodNum g = 1 := by cases g <;> simp [goodNum]
  have hid : (0 ≤ i ∧ i ≤ 6) ∧ chk l = 0 := by
    by_cases hr : uR k = true
    · simp only at h
      rw [if_pos hr] at h
      unfold chkRel at h
      split at h
      · rename_i hw
        simp only [within, Bool.and_eq_true, decide_eq_true_eq] at hw
        exact ⟨by omega, h⟩
      · cases h
    · rcases hR with hR | hR
      · have : l = [] := List.length_eq_zero_iff.1 (by omega)
        rw [this]
        exact ⟨by omega, by decide⟩
      · exact absurd hR hr
  refine ⟨?_, hid.2⟩
  intro v hv
  simp only [Note.nums, List.mem_cons, List.not_mem_nil, or_false] at hv
  rcases hv with rfl | rfl | rfl | rfl | rfl | rfl
  · omega
  · omega
  · rcases hT with hT | hT
    · omega
    · rcases hT2 with hT2 | hT2
      · rw [hT] at hT2; cases hT2
      · omega
  · rcases hN with hN | hN
    · omega
    · rcases hN2 with hN2 | hN2
      · rw [hN] at hN2; cases hN2
      · omega
  · omega
  · omega
theorem noteOf_nums (r : Note) : noteOf r.nums r.lock = r := by
  obtain ⟨k, a, t, n, g, i, l⟩ := r
  cases g <;> rfl
theorem chk_okP {l : List (Int × Int)} (h : chk l = 0) : ∀ p ∈ l, okP p := by
  unfold chk at h
  split at h
  · cases h
  · have key : ∀ (l : List (Int × Int)) (last : Int), chkFrom last l = 0 → ∀ p ∈ l, okP p := by
      intro l
      induction l with
      | nil => intro _ _ p hp; cases hp
      | cons q r ih =>
        intro last h p hp
        unfold chkFrom at h
        split at h
        · rename_i hq
          split at h
          · cases h
          · rcases List.mem_cons.1 hp with rfl | hp
            · simpa [okPin, okP, and_assoc] using hq
            · exact ih _ h p hp
        · cases h
    exact key l 0 h
theorem readAs_text {l : List (Int × Int)} (h : chk l = 0) : readAs ⟨(text l).toArray⟩ = (l, 0) := by
  unfold readAs
  rw [pins_text l (chk_okP h)]
  simp only
  rw [if_pos h]
theorem note_text (r : Note) : noteText r = ((r.nums.map Lib.itoa).map fun w => w ++ [32]).flatten ++ 61 :: text r.lock := by
  unfold noteText; rw [List.map_map]; rfl
theorem note_back {r : Note} (h : chkNote r = 0) : readNote (noteText r) = (r, 0) := by
  obtain ⟨hn, hl⟩ := note_ok h
  have hw : ∀ w ∈ r.nums.map Lib.itoa, 32 ∉ w := by
    intro w hw
    obtain ⟨v, _, rfl⟩ := List.mem_map.1 hw
    exact itoa_not (by decide) (by decide) v
  have hr := rdTo_words (r.nums.map Lib.itoa) (61 :: text r.lock) r.nums hw (numsOf_itoa _ hn)
  rw [← note_text] at hr
  have h6 : (r.nums.map Lib.itoa).length = 6 := rfl
  rw [h6] at hr
  unfold readNote
  rw [hr]
  simp only
  have hg : within (r.nums.getD 4 0) 0 1 = true := by
    show within (goodNum r.good) 0 1 = true
    cases r.good <;> rfl
  rw [if_pos ⟨trivial, hg⟩]
  unfold fin
  rw [readAs_text hl]
  simp only [if_true]
  rw [noteOf_nums, if_pos h]
theorem note_unlike {r q : Note} (h : chkNote r = 0) (h' : chkNote q = 0) : noteText r = noteText q ↔ r = q := by
  constructor
  · intro e
    have h1 := note_back h
    rw [e, note_back h'] at h1
    exact (Prod.mk.inj h1).1.symm
  · rintro rfl; rfl
theorem nums_of (ns : List Int) (l : List (Int × Int)) (h6 : ns.length = 6) (hg : within (ns.getD 4 0) 0 1 = true) : (noteOf ns l).nums = ns := by
  match ns, h6 with
  | [a, b, c, d, e, f], _ =>
    have he : 0 ≤ e ∧ e ≤ 1 := by simpa [within] using hg
    have : e = 0 ∨ e = 1 := by omega
    rcases this with rfl | rfl <;> rfl
theorem numsOf_words (ws : List (List UInt8)) (ns : List Int) (h : numsOf ws = some ns) : ws = ns.map Lib.itoa := by
  induction ws generalizing ns with
  | nil => simp only [numsOf, Option.some.injEq] at h; subst h; rfl
  | cons x r ih =>
    simp only [numsOf] at h
    cases e : numOf x with
    | none => rw [e] at h; simp at h
    | some q =>
      cases e' : numsOf r with
      | none => rw [e, e'] at h; simp at h
      | some m =>
        rw [e, e'] at h
        simp only [Option.some.injEq] at h
        subst h
        rw [List.map_cons, ← ih m e', numOf_itoa e]
theorem readAs_back {t : List UInt8} (h : (readAs ⟨t.toArray⟩).2 = 0) : text (readAs ⟨t.toArray⟩).1 = t := by
  unfold readAs at h ⊢
  cases e : pins ⟨t.toArray⟩ with
  | none => rw [e] at h; cases h
  | some l =>
    rw [e] at h
    simp only at h ⊢
    by_cases hc : chk l = 0
    · rw [if_pos hc]
      have := text_back _ l e (chk_okP hc)
      simpa using this
    · rw [if_neg hc] at h
      exact absurd h hc
theorem fin_back {ns : List Int} {t : List UInt8} (h : (fin ns t).2 = 0) : ∃ l, fin ns t = (noteOf ns l, 0) ∧ chkNote (noteOf ns l) = 0 ∧ text l = t := by
  unfold fin at h ⊢
  by_cases h1 : (readAs ⟨t.toArray⟩).2 = 0
  · rw [if_pos h1] at h ⊢
    by_cases h2 : chkNote (noteOf ns (readAs ⟨t.toArray⟩).1) = 0
    · rw [if_pos h2]
      exact ⟨_, rfl, h2, readAs_back h1⟩
    · rw [if_neg h2] at h; exact absurd h h2
  · rw [if_neg h1] at h; exact absurd h h1
/-- what is read is a record, and is written as it was -/
theorem read_back {s : List UInt8} (h : (readNote s).2 = 0) : chkNote (readNote s).1 = 0 ∧ noteText (readNote s).1 = s := by
  unfold readNote at h ⊢
  cases e : rdTo 6 s with
  | none => rw [e] at h; cases h
  | some q =>
    obtain ⟨ns, r⟩ := q
    rw [e] at h
    simp only at h ⊢
    cases r with
    | nil => cases h
    | cons c t =>
      simp only at h ⊢
      split at h
      · rename_i hc
        rw [if_pos hc]
        obtain ⟨l, e1, e2, e3⟩ := fin_back h
        rw [e1]
        refine ⟨e2, ?_⟩
        obtain ⟨ws, w1, w2, w3, w4⟩ := rdTo_some e
        rw [note_text, nums_of ns l (rdTo_len e) hc.2, ← numsOf_words ws ns w3]
        show _ ++ 61 :: text l = s
        rw [e3, w4, hc.1]
      · cases h
theorem read_none {s : List UInt8} (h : ¬ (readNote s).2 = 0) : (readNote s).1 = Note.none := by
  unfold readNote at h ⊢
  cases e : rdTo 6 s with
  | none => rfl
  | some q =>
    obtain ⟨ns, r⟩ := q
    rw [e] at h
    simp only at h ⊢
    cases r with
    | nil => rfl
    | cons c t =>
      simp only at h ⊢
      split
      · rename_i hc
        rw [if_pos hc] at h
        unfold fin at h ⊢
        by_cases h1 : (readAs ⟨t.toArray⟩).2 = 0
        · rw [if_pos h1] at h ⊢
          by_cases h2 : chkNote (noteOf ns (readAs ⟨t.toArray⟩).1) = 0
          · rw [if_pos h2] at h; exact absurd rfl h
          · rw [if_neg h2]
        · rw [if_neg h1]
      · rfl
end Lk
end Go.Proofs.YtlnbcgjahjjpfacGreatDoor
/- Plain functions on disks: lines of records, what a disk says, puts, syncs, recovers; what is kept. Nothing of the program is named here. -/
namespace Go.Proofs.YtlnbcgjahjjpfacGreatDoor
namespace Lk
/-- pieces between line feeds; the last one is what is behind the last one -/
def splitN : List UInt8 → List (List UInt8)
  | [] => [[]]
  | c :: r => if c = 10 then [] :: splitN r else match splitN r with
    | [] => [[c]]
    | a :: t => (c :: a) :: t
theorem splitN_ne (l : List UInt8) : splitN l ≠ [] := by
  cases l with
  | nil => simp [splitN]
  | cons c r =>
    unfold splitN
    split
    · simp
    · split <;> simp
theorem splitN_not (a : List UInt8) (h : 10 ∉ a) : splitN a = [a] := by
  induction a with
  | nil => rfl
  | cons x t ih =>
    unfold splitN
    rw [if_neg (fun e => h (by simp [e])), ih (fun e => h (by simp [e]))]
theorem splitN_app (a r : List UInt8) (h : 10 ∉ a) : splitN (a ++ 10 :: r) = a :: splitN r := by
  induction a with
  | nil => simp [splitN]
  | cons x t ih =>
    rw [List.cons_append, splitN, if_neg (fun e => h (by simp [e])), ih (fun e => h (by simp [e]))]
theorem lf_cases (l : List UInt8) : 10 ∉ l ∨ ∃ a r, l = a ++ 10 :: r ∧ 10 ∉ a := by
  induction l with
  | nil => exact .inl (by simp)
  | cons c t ih =>
    by_cases hc : c = 10
    · exact .inr ⟨[], t, by simp [hc], by simp⟩
    · rcases ih with ih | ⟨a, r, e, h⟩
      · exact .inl (by simp [ih, Ne.symm hc])
      · exact .inr ⟨c :: a, r, by simp [e], by simp [h, Ne.symm hc]⟩
/-- records as far as they are whole; how many bytes these have; what is wrong with the next one -/
def walkL (most : Nat) (acc : List Note) (n : Nat) : List (List UInt8) → List Note × Nat × Int
  | [] => (acc, n, 0)
  | [t] => if t = [] then (acc, n, 0) else (acc, n, 9)
  | t :: u :: r => if (readNote t).2 = 0 then (if most ≤ acc.length then (acc, n, 2) else walkL most (acc ++ [(readNote t).1]) (n + t.length + 1) (u :: r)) else (acc, n, (readNote t).2)
def linesOf (s : List UInt8) (most : Nat) : List Note × Nat × Int := walkL most [] 0 (splitN s)
structure Disk where
  safe : List UInt8
  wait : List UInt8
def Disk.none : Disk := ⟨[], []⟩
def tooMany (d : Disk) : Bool := decide (60000 < d.safe.length) || decide (60000 - d.safe.length < d.wait.length)
def chkDisk (d : Disk) : Int := if tooMany d = true then 2 else (linesOf d.safe 200).2.2
def recov (d : Disk) : Disk × List Note :=
  (⟨d.safe ++ d.wait.take (linesOf d.wait (200 - (linesOf d.safe 200).1.length)).2.1, []⟩, (linesOf d.safe 200).1 ++ (linesOf d.wait (200 - (linesOf d.safe 200).1.length)).1)
def putOn (d : Disk) (r : Note) : Disk × Int :=
  if chkNote r = 0 then (if 60000 < d.safe.length + d.wait.length + (noteText r).length + 1 then (Disk.none, 2) else (⟨d.safe, d.wait ++ (noteText r ++ [10])⟩, 0))
  else (Disk.none, chkNote r)
def synced (d : Disk) : Disk × Int := if chkDisk ⟨d.safe ++ d.wait, []⟩ = 0 then (⟨d.safe ++ d.wait, []⟩, 0) else (Disk.none, chkDisk ⟨d.safe ++ d.wait, []⟩)
def sameDisk (a b : Disk) : Bool := decide (a.safe = b.safe) && decide (a.wait = b.wait)

/-! ### step by step: for the walks -/
theorem walk_step {most n : Nat} {acc : List Note} {t : List UInt8} {r : List (List UInt8)} (hr : r ≠ []) (h : (readNote t).2 = 0) (hm : acc.length < most) : walkL most acc n (t :: r) = walkL most (acc ++ [(readNote t).1]) (n + t.length + 1) r := by
  cases r with
  | nil => exact absurd rfl hr
  | cons u r => rw [walkL, if_pos h, if_neg (by omega)]
theorem walk_many {most n : Nat} {acc : List Note} {t : List UInt8} {r : List (List UInt8)} (hr : r ≠ []) (h : (readNote t).2 = 0) (hm : most ≤ acc.length) : walkL most acc n (t :: r) = (acc, n, 2) := by
  cases r with
  | nil => exact absurd rfl hr
  | cons u r => rw [walkL, if_pos h, if_pos hm]
theorem walk_bad {most n : Nat} {acc : List Note} {t : List UInt8} {r : List (List UInt8)} (hr : r ≠ []) (h : ¬ (readNote t).2 = 0) : walkL most acc n (t :: r) = (acc, n, (readNote t).2) := by
  cases r with
  | nil => exact absurd rfl hr
  | cons u r => rw [walkL, if_neg h]
theorem walk_end (most n : Nat) (acc : List Note) : walkL most acc n [[]] = (acc, n, 0) := by rw [walkL, if_pos rfl]
theorem walk_torn {most n : Nat} {acc : List Note} {t : List UInt8} (h : t ≠ []) : walkL most acc n [t] = (acc, n, 9) := by rw [walkL, if_neg h]
/-- from a place on: for a loop that eats its text -/
def linesFrom (most : Nat) (acc : List Note) (n : Nat) (s : List UInt8) : List Note × Nat × Int := walkL most acc n (splitN s)
theorem from_nil (most n : Nat) (acc : List Note) : linesFrom most acc n [] = (acc, n, 0) := walk_end most n acc
theorem from_torn {most n : Nat} {acc : List Note} {s : List UInt8} (h : s ≠ []) (hn : 10 ∉ s) : linesFrom most acc n s = (acc, n, 9) := by
  unfold linesFrom; rw [splitN_not s hn, walk_torn h]
theorem from_step {most n : Nat} {acc : List Note} {t s : List UInt8} (hn : 10 ∉ t) (h : (readNote t).2 = 0) (hm : acc.length < most) : linesFrom most acc n (t ++ 10 :: s) = linesFrom most (acc ++ [(readNote t).1]) (n + t.length + 1) s := by
  unfold linesFrom; rw [splitN_app t s hn, walk_step (splitN_ne s) h hm]
theorem from_many {most n : Nat} {acc : List Note} {t s : List UInt8} (hn : 10 ∉ t) (h : (readNote t).2 = 0) (hm : most ≤ acc.length) : linesFrom most acc n (t ++ 10 :: s) = (acc, n, 2) := by
  unfold linesFrom; rw [splitN_app t s hn, walk_many (splitN_ne s) h hm]
theorem from_bad {most n : Nat} {acc : List Note} {t s : List UInt8} (hn : 10 ∉ t) (h : ¬ (readNote t).2 = 0) : linesFrom most acc n (t ++ 10 :: s) = (acc, n, (readNote t).2) := by
  unfold linesFrom; rw [splitN_app t s hn, walk_bad (splitN_ne s) h]

/-! ### what the program does: Check first -/
theorem tooMany_iff (d : Disk) : tooMany d = decide (60000 < d.safe.length + d.wait.length) := by
  unfold tooMany
  by_cases h : 60000 < d.safe.length + d.wait.length
  · rw [decide_eq_true h, Bool.or_eq_true, decide_eq_true_eq, decide_eq_true_eq]; omega
  · rw [decide_eq_false h, Bool.or_eq_false_iff, decide_eq_false_iff_not, decide_eq_false_iff_not]; omega
def putP (d : Disk) (r : Note) : Disk × Int := if chkDisk d = 0 then putOn d r else (Disk.none, chkDisk d)
def syncP (d : Disk) : Disk × Int := if chkDisk d = 0 then synced d else (Disk.none, chkDisk d)
def crashP (d : Disk) (n : Int) : Disk × Int := if chkDisk d = 0 then (if 0 ≤ n ∧ n ≤ d.wait.length then (⟨d.safe, d.wait.take n.toNat⟩, 0) else (Disk.none, 3)) else (Disk.none, chkDisk d)
def recovP (d : Disk) : Disk × List Note × Int := if chkDisk d = 0 then ((recov d).1, (recov d).2, 0) else (Disk.none, [], chkDisk d)
/-- safeRecs: all records, or what is wrong -/
def safeP (d : Disk) : List Note × Int := if chkDisk d = 0 then ((linesOf d.safe 200).1, 0) else ([], chkDisk d)
theorem from_full {most n : Nat} {acc : List Note} (s : List UInt8) (h : most ≤ acc.length) : ∃ e, linesFrom most acc n s = (acc, n, e) := by
  rcases lf_cases s with hn | ⟨t, r, e, hn⟩
  · by_cases h0 : s = []
    · subst h0; exact ⟨_, from_nil _ _ _⟩
    · exact ⟨_, from_torn h0 hn⟩
  · subst e
    by_cases hr : (readNote t).2 = 0
    · exact ⟨_, from_many hn hr h⟩
    · exact ⟨_, from_bad hn hr⟩
theorem from_none {most n : Nat} {acc : List Note} {s : List UInt8} (hn : 10 ∉ s) : ∃ e, linesFrom most acc n s = (acc, n, e) := by
  by_cases h0 : s = []
  · subst h0; exact ⟨_, from_nil _ _ _⟩
  · exact ⟨_, from_torn h0 hn⟩
theorem from_grows (k : Nat) : ∀ (s : List UInt8), s.length ≤ k → ∀ (most n : Nat) (acc : List Note), n ≤ (linesFrom most acc n s).2.1 ∧ (linesFrom most acc n s).2.1 ≤ n + s.length ∧ acc.length ≤ (linesFrom most acc n s).1.length ∧ (acc.length ≤ most → (linesFrom most acc n s).1.length ≤ most) := by
  induction k with
  | zero =>
    intro s hs most n acc
    have : s = [] := List.length_eq_zero_iff.1 (by omega)
    subst this
    rw [from_nil]; simp
  | succ k ih =>
    intro s hs most n acc
    rcases lf_cases s with hn | ⟨t, r, e, hn⟩
    · obtain ⟨e, he⟩ := from_none (most := most) (n := n) (acc := acc) hn
      rw [he]; simp
    · subst e
      by_cases hr : (readNote t).2 = 0
      · by_cases hm : acc.length < most
        · rw [from_step hn hr hm]
          have := ih r (by simp at hs; omega) most (n + t.length + 1) (acc ++ [(readNote t).1])
          simp only [List.length_append, List.length_cons, List.length_nil] at this ⊢
          exact ⟨by omega, by omega, by omega, fun _ => this.2.2.2 (by omega)⟩
        · rw [from_many hn hr (by omega)]; simp
      · rw [from_bad hn hr]; simp
theorem lines_len (s : List UInt8) (most : Nat) : (linesOf s most).2.1 ≤ s.length ∧ (linesOf s most).1.length ≤ most := by
  have := from_grows s.length s (Nat.le_refl _) most 0 []
  exact ⟨by have h := this.2.1; rw [Nat.zero_add] at h; exact h, this.2.2.2 (Nat.zero_le _)⟩

/-! ### what is kept -/
def texts (l : List Note) : List UInt8 := (l.map fun r => noteText r ++ [10]).flatten
def allOk (l : List Note) : Prop := ∀ r ∈ l, chkNote r = 0
theorem texts_nil : texts [] = [] := rfl
theorem texts_cons (r : Note) (l : List Note) : texts (r :: l) = noteText r ++ 10 :: texts l := by simp [texts]
theorem texts_app (a b : List Note) : texts (a ++ b) = texts a ++ texts b := by simp [texts]
theorem itoa_no10 (n : Int) : 10 ∉ Lib.itoa n := itoa_not (by decide) (by decide) n
theorem dec_no10 (u : Nat) : 10 ∉ Lib.decDigits u := fun h => by
  have := dec_digits u 10 h
  simp at this
theorem pinText_no10 (p : Int × Int) : 10 ∉ pinText p := by
  unfold pinText
  intro h
  rcases List.mem_append.1 h with h | h
  · exact dec_no10 _ h
  · rcases List.mem_cons.1 h with h | h
    · exact absurd h (by decide)
    · exact dec_no10 _ h
theorem text_no10 (l : List (Int × Int)) : 10 ∉ text l := by
  unfold text Lib.join
  refine inter_mem 10 (by decide) _ (fun x hx => ?_)
  obtain ⟨p, _, rfl⟩ := List.mem_map.1 hx
  exact pinText_no10 p
theorem note_no10 (r : Note) : 10 ∉ noteText r := by
  unfold noteText
  intro h
  rcases List.mem_append.1 h with h | h
  · obtain ⟨x, hx, h10⟩ := List.mem_flatten.1 h
    obtain ⟨n, _, rfl⟩ := List.mem_map.1 hx
    rcases List.mem_append.1 h10 with h10 | h10
    · exact itoa_no10 n h10
    · simp at h10
  · rcases List.mem_cons.1 h with h | h
    · exact absurd h (by decide)
    · exact text_no10 _ h
/-- what was written is read, record by record -/
theorem from_texts (b : List Note) : ∀ (most : Nat) (acc : List Note) (n : Nat), allOk b → acc.length + b.length ≤ most → ∀ s, linesFrom most acc n (texts b ++ s) = linesFrom most (acc ++ b) (n + (texts b).length) s := by
  induction b with
  | nil => intro most acc n _ _ s; simp [texts]
  | cons r b ih =>
    intro most acc n hok hm s
    have hr : chkNote r = 0 := hok r (by simp)
    have hrd := note_back hr
    rw [texts_cons, List.append_assoc, List.cons_append, from_step (note_no10 r) (by rw [hrd]) (by simp at hm; omega), hrd, ih most (acc ++ [r]) _ (fun q hq => hok q (by simp [hq])) (by simp at hm ⊢; omega) s]
    simp only [List.append_assoc, List.cons_append, List.nil_append, List.length_append, List.length_cons]
    congr 1
    omega
/-- of a beginning of what was written whole records are read, and no more -/
theorem from_cut (b : List Note) : ∀ (most : Nat) (acc : List Note) (n k : Nat), allOk b → acc.length + b.length ≤ most → ∃ j e, j ≤ b.length ∧ (texts (b.take j)).length ≤ k ∧ linesFrom most acc n ((texts b).take k) = (acc ++ b.take j, n + (texts (b.take j)).length, e) := by
  induction b with
  | nil => intro most acc n k _ _; exact ⟨0, 0, by simp, by simp [texts], by simp [texts, from_nil]⟩
  | cons r b ih =>
    intro most acc n k hok hm
    have hr : chkNote r = 0 := hok r (by simp)
    have hrd := note_back hr
    by_cases hk : (noteText r).length + 1 ≤ k
    · obtain ⟨j, e, h1, h2, h3⟩ := ih most (acc ++ [r]) (n + (noteText r).length + 1) (k - ((noteText r).length + 1)) (fun q hq => hok q (by simp [hq])) (by simp at hm ⊢; omega)
      refine ⟨j + 1, e, by simp; omega, ?_, ?_⟩
      · rw [List.take_succ_cons, texts_cons]; simp; omega
      · have ht : (texts (r :: b)).take k = noteText r ++ 10 :: (texts b).take (k - ((noteText r).length + 1)) := by
          rw [texts_cons, List.take_append]
          rw [List.take_of_length_le (by omega), show k - (noteText r).length = (k - ((noteText r).length + 1)) + 1 from by omega, List.take_succ_cons]
        rw [ht, from_step (note_no10 r) (by rw [hrd]) (by simp at hm; omega), hrd, h3, List.take_succ_cons, texts_cons]
        simp only [List.append_assoc, List.cons_append, List.nil_append, List.length_append, List.length_cons]
        congr 2
        omega
    · have ht : (texts (r :: b)).take k = (noteText r).take k := by
        rw [texts_cons, List.take_append, show k - (noteText r).length = 0 from by omega, List.take_zero, List.append_nil]
      have hn : 10 ∉ (noteText r).take k := fun h => note_no10 r (List.mem_of_mem_take h)
      rw [ht]
      by_cases h0 : (noteText r).take k = []
      · exact ⟨0, 0, by simp, by simp [texts], by rw [h0, from_nil]; simp [texts]⟩
      · exact ⟨0, 9, by simp, by simp [texts], by rw [from_torn h0 hn]; simp [texts]⟩
theorem lines_texts {a : List Note} {most : Nat} (h : allOk a) (hm : a.length ≤ most) : linesOf (texts a) most = (a, (texts a).length, 0) := by
  have := from_texts a most [] 0 h (by simpa using hm) []
  rw [List.append_nil, from_nil] at this
  show linesFrom most [] 0 (texts a) = _
  rw [this]; simp
theorem lines_cut {b : List Note} {most : Nat} (k : Nat) (h : allOk b) (hm : b.length ≤ most) : ∃ j e, j ≤ b.length ∧ (texts (b.take j)).length ≤ k ∧ linesOf ((texts b).take k) most = (b.take j, (texts (b.take j)).length, e) := by
  obtain ⟨j, e, h1, h2, h3⟩ := from_cut b most [] 0 k h (by simpa using hm)
  exact ⟨j, e, h1, h2, by show linesFrom most [] 0 _ = _; rw [h3]; simp⟩
theorem take_texts (b : List Note) (j k : Nat) (h : (texts (b.take j)).length ≤ k) : ((texts b).take k).take (texts (b.take j)).length = texts (b.take j) := by
  have e : texts b = texts (b.take j) ++ texts (b.drop j) := by rw [← texts_app, List.take_append_drop]
  rw [List.take_take, Nat.min_eq_left h, e, List.take_left]
theorem allOk_take {b : List Note} (h : allOk b) (j : Nat) : allOk (b.take j) := fun r hr => h r (List.mem_of_mem_take hr)
theorem allOk_app {a b : List Note} (h : allOk a) (h' : allOk b) : allOk (a ++ b) := fun r hr => by
  rcases List.mem_append.1 hr with hr | hr
  · exact h r hr
  · exact h' r hr
/-- recovering: all that was synced is there, and of the rest a beginning; recovered again it is the same -/
theorem recov_keeps {a b : List Note} (ha : allOk a) (hb : allOk b) (hm : a.length + b.length ≤ 200) (k : Nat) :
    ∃ j, j ≤ b.length ∧ recov ⟨texts a, (texts b).take k⟩ = (⟨texts (a ++ b.take j), []⟩, a ++ b.take j) ∧ recov ⟨texts (a ++ b.take j), []⟩ = (⟨texts (a ++ b.take j), []⟩, a ++ b.take j) := by
  obtain ⟨j, e, h1, h2, h3⟩ := lines_cut (b := b) (most := 200 - a.length) k hb (by omega)
  refine ⟨j, h1, ?_, ?_⟩
  · unfold recov
    simp only [lines_texts ha (show a.length ≤ 200 by omega), h3, take_texts b j k h2, texts_app]
  · have hl := lines_texts (a := a ++ b.take j) (most := 200) (allOk_app ha (allOk_take hb j)) (by simp; omega)
    have hz : ∀ m, linesOf [] m = ([], 0, 0) := fun m => from_nil m 0 []
    unfold recov
    simp only [hl, hz, List.take_zero, List.append_nil]
theorem chk_texts {a : List Note} {w : List UInt8} (ha : allOk a) (hm : a.length ≤ 200) (hs : (texts a).length + w.length ≤ 60000) : chkDisk ⟨texts a, w⟩ = 0 := by
  unfold chkDisk
  have : tooMany ⟨texts a, w⟩ = false := by
    simp only [tooMany, Bool.or_eq_false_iff, decide_eq_false_iff_not]; omega
  rw [this]
  simp only [Bool.false_eq_true, if_false, lines_texts ha hm]
theorem put_texts {a b : List Note} {r : Note} (h : (putOn ⟨texts a, texts b⟩ r).2 = 0) : chkNote r = 0 ∧ putOn ⟨texts a, texts b⟩ r = (⟨texts a, texts (b ++ [r])⟩, 0) ∧ (texts a).length + (texts (b ++ [r])).length ≤ 60000 := by
  unfold putOn at h ⊢
  by_cases hc : chkNote r = 0
  · rw [if_pos hc] at h ⊢
    by_cases hl : 60000 < (texts a).length + (texts b).length + (noteText r).length + 1
    · rw [if_pos hl] at h; cases h
    · rw [if_neg hl]
      refine ⟨hc, ?_, ?_⟩
      · simp [texts]
      · have : (texts (b ++ [r])).length = (texts b).length + ((noteText r).length + 1) := by
          rw [texts_app, List.length_append, texts_cons, texts_nil, List.length_append, List.length_cons, List.length_nil]
        omega
  · rw [if_neg hc] at h; exact absurd h hc
theorem sync_texts {b : List Note} (hb : allOk b) (hm : b.length ≤ 200) (hs : (texts b).length ≤ 60000) : synced ⟨texts [], texts b⟩ = (⟨texts b, []⟩, 0) := by
  unfold synced
  have : chkDisk ⟨texts b, []⟩ = 0 := chk_texts hb hm (by simpa using hs)
  simp only [texts_nil, List.nil_append, this, if_true]
end Lk
end Go.Proofs.YtlnbcgjahjjpfacGreatDoor
