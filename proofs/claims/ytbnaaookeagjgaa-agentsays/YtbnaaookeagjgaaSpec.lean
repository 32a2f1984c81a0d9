/- Plain functions on lists: what the functions of package lock, and of the document's own answers, come to. Nothing of the program is named here. -/
namespace Go.Proofs.Ytbnaaookeagjgaa
namespace Lk

/-- one pin's numbers are within the bounds -/
def okPin (p : Int × Int) : Bool := decide (1 ≤ p.1) && decide (p.1 ≤ 20) && (decide (1 ≤ p.2) && decide (p.2 ≤ 99))

def chkFrom (last : Int) : List (Int × Int) → Int
  | [] => 0
  | p :: r => if okPin p = true then (if p.1 ≤ last then 6 else chkFrom p.1 r) else 3

def chk (l : List (Int × Int)) : Int := if 12 < l.length then 2 else chkFrom 0 l

def find (name : Int) : List (Int × Int) → Int
  | [] => 0
  | p :: r => if p.1 = name then p.2 else find name r

def same (l m : List (Int × Int)) : Bool := decide (l = m)

theorem same_of {l m : List (Int × Int)} (hn : l.length = m.length) (h : ∀ j, j < l.length → l.getD j (0, 0) = m.getD j (0, 0)) : same l m = true := by
  refine decide_eq_true (List.ext_getElem hn fun j h1 h2 => ?_)
  have := h j h1
  rwa [List.getD_eq_getElem?_getD, List.getD_eq_getElem?_getD, List.getElem?_eq_getElem h1, List.getElem?_eq_getElem h2] at this
theorem same_not {l m : List (Int × Int)} {j : Nat} (h : l.getD j (0, 0) ≠ m.getD j (0, 0)) : same l m = false :=
  decide_eq_false fun e => h (by rw [e])
theorem same_len {l m : List (Int × Int)} (h : l.length ≠ m.length) : same l m = false :=
  decide_eq_false fun e => h (by rw [e])

end Lk
end Go.Proofs.Ytbnaaookeagjgaa
