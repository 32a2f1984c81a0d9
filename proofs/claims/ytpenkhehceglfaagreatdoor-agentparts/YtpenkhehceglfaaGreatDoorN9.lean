/- The contract of the document's RecText. -/
import Derived.Test.YtpenkhehceglfaaGreatDoorMB
import Derived.Test.YtpenkhehceglfaaGreatDoorMA
import Derived.Test.YtpenkhehceglfaaGreatDoorW10
import Derived.Lib.ItoaLen
namespace Go.Proofs.YtpenkhehceglfaaGreatDoor
open Go.RowKit Go.Maps
theorem keyedB : Keyed Tryz.prog 4 := bool_keyed Tryz.underlying4
def goodD : DataW Unit := DataW.put (.map []) (.bool true) (.lit (.int .i64 1))
def numText (ns : List Int) (k : Nat) : List UInt8 := ((ns.take k).map fun n => Lib.itoa n ++ [32]).flatten
theorem numText_zero (ns : List Int) : numText ns 0 = [] := by simp [numText]
theorem numText_next (ns : List Int) (k : Nat) (h : k < ns.length) : numText ns (k + 1) = numText ns k ++ (Lib.itoa (ns.getD k 0) ++ [32]) := by
  unfold numText
  rw [List.take_add_one, List.getElem?_eq_getElem h, List.getD_eq_getElem?_getD, List.getElem?_eq_getElem h, List.map_append, List.flatten_append]
  simp
theorem numText_all (ns : List Int) : numText ns ns.length = (ns.map fun n => Lib.itoa n ++ [32]).flatten := by simp [numText]
theorem str_num (t : List UInt8) (n : Int) : (⟨t.toArray⟩ : ByteArray) ++ (⟨(Lib.itoa n).toArray⟩ ++ ⟨#[32]⟩) = ⟨(t ++ (Lib.itoa n ++ [32])).toArray⟩ := by
  apply WideShapes.bytes_inj; simp
theorem str_end (t u : List UInt8) : (⟨t.toArray⟩ : ByteArray) ++ ⟨#[61]⟩ ++ ⟨u.toArray⟩ = ⟨(t ++ 61 :: u).toArray⟩ := by
  apply WideShapes.bytes_inj; simp
end Go.Proofs.YtpenkhehceglfaaGreatDoor
