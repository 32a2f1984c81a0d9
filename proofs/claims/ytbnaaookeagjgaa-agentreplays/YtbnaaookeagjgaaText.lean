/- Plain functions on texts: how a number, a pin and a lock are written and read. -/
import Derived.Lib.AtoiAll
import Derived.Lib.ItoaNum
import Derived.Lib.IndexMore
import Derived.Lib.Join
import Derived.Test.YtbnaaookeagjgaaSpec
namespace Go.Proofs.Ytbnaaookeagjgaa
namespace Lk

/-- a number, written as it is printed -/
def numOf (s : List UInt8) : Option Int := match Lib.atoiAll s with
  | .ok v => if Lib.itoa v = s then some v else none
  | _ => none

/-- a word: name, @, version -/
def pinOf (s : List UInt8) : Option (Int × Int) :=
  if (Lib.cut s [64]).2.2 = true then
    (match numOf (Lib.cut s [64]).1, numOf (Lib.cut s [64]).2.1 with
      | some a, some b => some (a, b)
      | _, _ => none)
  else none

def pinsOf : List (List UInt8) → Option (List (Int × Int))
  | [] => some []
  | s :: r => match pinOf s, pinsOf r with
    | some p, some l => some (p :: l)
    | _, _ => none

def pinText (p : Int × Int) : List UInt8 := Lib.decDigits p.1.toNat ++ 64 :: Lib.decDigits p.2.toNat
def text (l : List (Int × Int)) : List UInt8 := Lib.join (l.map pinText) [44]

theorem numOf_ok {s : List UInt8} {v : Int} (h : Lib.atoiAll s = .ok v) (e : Lib.itoa v = s) : numOf s = some v := by
  unfold numOf; rw [h]; exact if_pos e
theorem numOf_no {s : List UInt8} {v : Int} (h : Lib.atoiAll s = .ok v) (e : ¬ Lib.itoa v = s) : numOf s = none := by
  unfold numOf; rw [h]; exact if_neg e
theorem numOf_bad {s : List UInt8} (h : ∀ v, Lib.atoiAll s ≠ .ok v) : numOf s = none := by
  unfold numOf
  split
  · rename_i v e; exact absurd e (h v)
  · rfl
end Lk
end Go.Proofs.Ytbnaaookeagjgaa
