/- Plain facts on the words of a text, and on reading them one by one. -/
import Derived.Lib.SplitLaws
import Derived.Lib.IndexBytes
import Derived.Test.YtbnaaookeagjgaaText
namespace Go.Proofs.Ytbnaaookeagjgaa
namespace Lk
def comma : ByteArray := ⟨#[44]⟩
def ws (s : ByteArray) : List ByteArray := Lib.splitB comma 0 (Lib.countB s comma) s
def pins (s : ByteArray) : Option (List (Int × Int)) := if s.size = 0 then some [] else pinsOf ((ws s).map (·.data.toList))
/-- what a text of few enough bytes is read as -/
def readAs (s : ByteArray) : List (Int × Int) × Int := match pins s with
  | none => ([], 1)
  | some l => if chk l = 0 then (l, 0) else ([], chk l)

theorem ws_len (s : ByteArray) : (ws s).length = Lib.countB s comma + 1 := Lib.splitB_all comma (by decide) 0 _ s rfl
theorem count_le (s : ByteArray) : Lib.countB s comma ≤ s.size := Lib.countB_le comma (by decide) s.size s (Nat.le_refl _)
theorem split_le (k : Nat) : ∀ (s x : ByteArray), x ∈ Lib.splitB comma 0 k s → x.size ≤ s.size := by
  induction k with
  | zero => intro s x h; simp [Lib.splitB] at h; rw [h]; exact Nat.le_refl _
  | succ k ih =>
    intro s x h
    unfold Lib.splitB at h
    split at h
    · simp at h; rw [h]; exact Nat.le_refl _
    · rcases List.mem_cons.1 h with h | h
      · rw [h, ByteArray.size_extract]; omega
      · have := ih _ _ h; rw [ByteArray.size_extract] at this; omega
theorem ws_le (s x : ByteArray) (h : x ∈ ws s) : x.size ≤ s.size := split_le _ s x h

theorem pinsOf_snoc (a : List (List UInt8)) (s : List UInt8) (l : List (Int × Int)) (p : Int × Int) (h : pinsOf a = some l) (hp : pinOf s = some p) : pinsOf (a ++ [s]) = some (l ++ [p]) := by
  induction a generalizing l with
  | nil => simp only [pinsOf, Option.some.injEq] at h; subst h; simp [pinsOf, hp]
  | cons x r ih =>
    simp only [pinsOf] at h
    simp only [List.cons_append, pinsOf]
    cases e : pinOf x with
    | none => rw [e] at h; simp at h
    | some q =>
      cases e' : pinsOf r with
      | none => rw [e, e'] at h; simp at h
      | some m =>
        rw [e, e'] at h
        simp only [Option.some.injEq] at h
        subst h
        rw [ih m e']
        rfl
theorem pinsOf_bad (a : List (List UInt8)) (s : List UInt8) (hs : s ∈ a) (h : pinOf s = none) : pinsOf a = none := by
  induction a with
  | nil => cases hs
  | cons x r ih =>
    simp only [pinsOf]
    rcases List.mem_cons.1 hs with rfl | hs
    · rw [h]
    · rw [ih hs]; cases pinOf x <;> rfl
theorem pinsOf_len (a : List (List UInt8)) (l : List (Int × Int)) (h : pinsOf a = some l) : l.length = a.length := by
  induction a generalizing l with
  | nil => simp only [pinsOf, Option.some.injEq] at h; subst h; rfl
  | cons x r ih =>
    simp only [pinsOf] at h
    cases e : pinOf x with
    | none => rw [e] at h; simp at h
    | some q =>
      cases e' : pinsOf r with
      | none => rw [e, e'] at h; simp at h
      | some m =>
        rw [e, e'] at h
        simp only [Option.some.injEq] at h
        subst h
        simp [ih m e']
/-- the first k words are read -/
def readTo (s : ByteArray) (k : Nat) (l : List (Int × Int)) : Prop := pinsOf (((ws s).take k).map (·.data.toList)) = some l
theorem readTo_zero (s : ByteArray) : readTo s 0 [] := rfl
theorem readTo_len {s : ByteArray} {k : Nat} {l : List (Int × Int)} (h : readTo s k l) (hk : k ≤ (ws s).length) : l.length = k := by
  rw [pinsOf_len _ _ h]; simp; omega
theorem readTo_next {s : ByteArray} {k : Nat} {l : List (Int × Int)} {x : ByteArray} {p : Int × Int} (h : readTo s k l) (hx : (ws s)[k]? = some x) (hp : pinOf x.data.toList = some p) : readTo s (k + 1) (l ++ [p]) := by
  unfold readTo
  rw [List.take_add_one, hx, List.map_append]
  exact pinsOf_snoc _ _ _ _ h hp
theorem readTo_bad {s : ByteArray} {k : Nat} {x : ByteArray} (h0 : s.size ≠ 0) (hx : (ws s)[k]? = some x) (hp : pinOf x.data.toList = none) : pins s = none := by
  unfold pins
  rw [if_neg h0]
  exact pinsOf_bad _ _ (List.mem_map_of_mem (List.mem_of_getElem? hx)) hp
theorem readTo_all {s : ByteArray} {l : List (Int × Int)} (h0 : s.size ≠ 0) (h : readTo s (ws s).length l) : pins s = some l := by
  unfold pins
  rw [if_neg h0]
  unfold readTo at h
  rwa [List.take_length] at h
theorem pins_nil {s : ByteArray} (h0 : s.size = 0) : pins s = some [] := if_pos h0

/-- a word by the place of its @ -/
theorem pinOf_at (s : List UInt8) (k : Nat) (h : Lib.indexByte s 64 = k) : pinOf s = match numOf (s.take k), numOf (s.drop (k + 1)) with
    | some a, some b => some (a, b)
    | _, _ => none := by
  have e : Lib.index s [64] = k := (Lib.index_one s 64).trans h
  have hc : Lib.cut s [64] = (s.take k, s.drop (k + 1), true) := by
    unfold Lib.cut; rw [e, if_pos (by omega)]; simp
  unfold pinOf
  rw [hc]
  rfl
theorem pinOf_none (s : List UInt8) (h : Lib.indexByte s 64 = -1) : pinOf s = none := by
  have e : Lib.index s [64] = -1 := (Lib.index_one s 64).trans h
  have hc : Lib.cut s [64] = (s, [], false) := by
    unfold Lib.cut; rw [e, if_neg (by omega)]
  unfold pinOf
  rw [hc]
  rfl
theorem pinOf_at_no (s : List UInt8) (k : Nat) (h : Lib.indexByte s 64 = k) (h' : (numOf (s.take k)).isSome = false ∨ (numOf (s.drop (k + 1))).isSome = false) : pinOf s = none := by
  rw [pinOf_at s k h]
  rcases h' with h' | h'
  · cases e : numOf (s.take k) with
    | none => rfl
    | some v => rw [e] at h'; simp at h'
  · cases e : numOf (s.drop (k + 1)) with
    | none => cases numOf (s.take k) <;> rfl
    | some v => rw [e] at h'; simp at h'
theorem pinOf_at_yes (s : List UInt8) (k : Nat) (x y : Int) (h : Lib.indexByte s 64 = k) (h1 : (numOf (s.take k)).isSome = true) (h2 : (numOf (s.drop (k + 1))).isSome = true)
    (hx : ∀ v, numOf (s.take k) = some v → x = v) (hy : ∀ v, numOf (s.drop (k + 1)) = some v → y = v) : pinOf s = some (x, y) := by
  rw [pinOf_at s k h]
  cases e : numOf (s.take k) with
  | none => rw [e] at h1; simp at h1
  | some u =>
    cases e' : numOf (s.drop (k + 1)) with
    | none => rw [e'] at h2; simp at h2
    | some v => rw [hx u e, hy v e']
end Lk
end Go.Proofs.Ytbnaaookeagjgaa
