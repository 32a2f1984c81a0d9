/-
  No cell of these rows narrows 'for every input' (looked for: loops, veiled, ifaces, maps, wideKeys, modest, calm, conditions, laid).
  DERIVED. THE GIVEN ROWS OF THIS SEAT. 4 by the template 'for every input the law returns true; each argument reads behind the call as it read before'; 0 by the template 'total and deterministic' (their statements: YtjedjanlmjolkaaTotals.lean).
  GIVEN WITH THE SEED: the statements are not yours to turn. If you find one false, say at which input.
  Laid BY PROGRAM, IN A SANDBOX (cutbox-rows.mjs): the forced cells as the released guide's own fill.sh prints them over the translation 9415a3d9c33daa5b… (all of the seat's roots in one cut). By AI agents, Wed Nov 11 2026. No macro, syntax, notation, axiom, sorry.
-/
import Derived.Test.YtjedjanlmjolkaaChecked
import GoSem.Claim
import GoSem.ClaimJoined
import GoSem.ClaimMapViews
import Derived.JoinedTies
import Derived.KernelRfl
namespace Go.Proofs.Ytjedjanlmjolkaa
/- THE CELL 'sum', in the pinned program and in every row, IS THE sha256 OF THE DUMP (.gsa) THAT YtjedjanlmjolkaaProg.lean LOADS. Nothing in Lean hashes anything: it is a label: what it is worth is what the hold of that sum in a sandbox is worth. -/
noncomputable def Try.pinned : Pinned := { name := "ytjedjanlmjolkaa", sum := "9415a3d9c33daa5b29b35e8c3e8dfde3ac6a1d329b7522778b6f9b6382423827", checked := Try.checked }
namespace Rows
def none {H : Type} : Left H := { results := [], args := [] }

/-- 'vanguardlaw.Names': WHATEVER THE INPUT: true; the input reads as it did. -/
def namesSpec : ChangeSpec := { name := "names", fn := fun _ => fun
  | [] => { results := [.lit (.bool true)], args := [] }
  | _ => none }
def namesRow : OpenClaim := { program := "ytjedjanlmjolkaa", sum := "9415a3d9c33daa5b29b35e8c3e8dfde3ac6a1d329b7522778b6f9b6382423827", func := "vanguard/vanguardlaw.Names", spec := "names", apart := false }
def NamesSaid : Prop := namesRow.holds Try.pinned (OpenSpec.ofChange namesSpec)

/-- ITS FALSE NEIGHBOUR: 'it returns false'. Refute it at one input. -/
def namesWrong : ChangeSpec := { name := "names", fn := fun _ => fun
  | [] => { results := [.lit (.bool false)], args := [] }
  | _ => none }
def NamesWrongFalsely : Prop := namesRow.holds Try.pinned (OpenSpec.ofChange namesWrong)

/-- 'vanguardlaw.DiffSays': WHATEVER THE INPUT: true; the input reads as it did. -/
def diffSaysSpec : ChangeSpec := { name := "diffSays", fn := fun _ => fun
  | [d1, d2, d3, d4] => { results := [.lit (.bool true)], args := [d1, d2, d3, d4] }
  | _ => none }
def diffSaysRow : OpenClaim := { program := "ytjedjanlmjolkaa", sum := "9415a3d9c33daa5b29b35e8c3e8dfde3ac6a1d329b7522778b6f9b6382423827", func := "vanguard/vanguardlaw.DiffSays", spec := "diffSays", unfollowed := true, recurses := true, apart := false }
def DiffSaysSaid : Prop := diffSaysRow.holds Try.pinned (OpenSpec.ofChange diffSaysSpec)

/-- ITS FALSE NEIGHBOUR: 'it returns false'. Refute it at one input. -/
def diffSaysWrong : ChangeSpec := { name := "diffSays", fn := fun _ => fun
  | [d1, d2, d3, d4] => { results := [.lit (.bool false)], args := [d1, d2, d3, d4] }
  | _ => none }
def DiffSaysWrongFalsely : Prop := diffSaysRow.holds Try.pinned (OpenSpec.ofChange diffSaysWrong)

/-- 'vanguardlaw.DiffComes': WHATEVER THE INPUT: true; the input reads as it did. -/
def diffComesSpec : ChangeSpec := { name := "diffComes", fn := fun _ => fun
  | [d1, d2] => { results := [.lit (.bool true)], args := [d1, d2] }
  | _ => none }
def diffComesRow : OpenClaim := { program := "ytjedjanlmjolkaa", sum := "9415a3d9c33daa5b29b35e8c3e8dfde3ac6a1d329b7522778b6f9b6382423827", func := "vanguard/vanguardlaw.DiffComes", spec := "diffComes", unfollowed := true, recurses := true, apart := false }
def DiffComesSaid : Prop := diffComesRow.holds Try.pinned (OpenSpec.ofChange diffComesSpec)

/-- ITS FALSE NEIGHBOUR: 'it returns false'. Refute it at one input. -/
def diffComesWrong : ChangeSpec := { name := "diffComes", fn := fun _ => fun
  | [d1, d2] => { results := [.lit (.bool false)], args := [d1, d2] }
  | _ => none }
def DiffComesWrongFalsely : Prop := diffComesRow.holds Try.pinned (OpenSpec.ofChange diffComesWrong)

/-- 'vanguardlaw.DiffUndone': WHATEVER THE INPUT: true; the input reads as it did. -/
def diffUndoneSpec : ChangeSpec := { name := "diffUndone", fn := fun _ => fun
  | [d1, d2, d3] => { results := [.lit (.bool true)], args := [d1, d2, d3] }
  | _ => none }
def diffUndoneRow : OpenClaim := { program := "ytjedjanlmjolkaa", sum := "9415a3d9c33daa5b29b35e8c3e8dfde3ac6a1d329b7522778b6f9b6382423827", func := "vanguard/vanguardlaw.DiffUndone", spec := "diffUndone", unfollowed := true, recurses := true, apart := false }
def DiffUndoneSaid : Prop := diffUndoneRow.holds Try.pinned (OpenSpec.ofChange diffUndoneSpec)

/-- ITS FALSE NEIGHBOUR: 'it returns false'. Refute it at one input. -/
def diffUndoneWrong : ChangeSpec := { name := "diffUndone", fn := fun _ => fun
  | [d1, d2, d3] => { results := [.lit (.bool false)], args := [d1, d2, d3] }
  | _ => none }
def DiffUndoneWrongFalsely : Prop := diffUndoneRow.holds Try.pinned (OpenSpec.ofChange diffUndoneWrong)

/- THE SECOND FORM. 'bulk': how many values and letters a reading holds, each counted each time it is reached (what is shared counts as often as it is met; a slice's spare places count too). A statement '..UptoSaid' is the law's where the arguments, and the package variables that the reading takes, are together of bulk at most 1048576: NARROWER than '..Said'. Prove '..Said' where nothing that the law and all that it calls make is longer than what came in: it says more and counts as full. Else prove '..UptoSaid'. A law counts once. -/
mutual
def uptoBulk {H : Type} : DataW H → Nat
  | .lit (.string bytes) => bytes.length + 1
  | .lit _ => 1
  | .nil => 1
  | .ptr d => uptoBulk d + 1
  | .slice elems spare => uptoBulkAll elems + uptoBulkAll spare + 1
  | .agg parts => uptoBulkAll parts + 1
  | .iface _ d => uptoBulk d + 1
  | .map entries => uptoBulkEntries entries + 1
  | .held _ => 1
def uptoBulkAll {H : Type} : List (DataW H) → Nat
  | [] => 0
  | d :: r => uptoBulk d + uptoBulkAll r
def uptoBulkEntries {H : Type} : List (Lit × DataW H) → Nat
  | [] => 0
  | x :: r => uptoBulkEntry x + uptoBulkEntries r
def uptoBulkEntry {H : Type} : Lit × DataW H → Nat
  | (.string bytes, d) => bytes.length + uptoBulk d + 1
  | (_, d) => uptoBulk d + 1
 end
def uptoSmall : (H : Type) → List (DataW H) → Bool := fun _ ds => decide (uptoBulkAll ds ≤ 1048576)
def OpenSpec.upto (s : _root_.Go.ChangeSpec) : _root_.Go.OpenSpec := { _root_.Go.OpenSpec.ofChange s with cond := some uptoSmall }

/-- 'vanguardlaw.Names', WHERE WHAT IT READS IS OF BULK AT MOST 1048576: true; the input reads as it did. -/
def namesUptoRow : OpenClaim := { program := "ytjedjanlmjolkaa", sum := "9415a3d9c33daa5b29b35e8c3e8dfde3ac6a1d329b7522778b6f9b6382423827", func := "vanguard/vanguardlaw.Names", spec := "names", apart := false, narrowed := true }
def NamesUptoSaid : Prop := namesUptoRow.holds Try.pinned (OpenSpec.upto namesSpec)

/-- 'vanguardlaw.DiffSays', WHERE WHAT IT READS IS OF BULK AT MOST 1048576: true; the input reads as it did. -/
def diffSaysUptoRow : OpenClaim := { program := "ytjedjanlmjolkaa", sum := "9415a3d9c33daa5b29b35e8c3e8dfde3ac6a1d329b7522778b6f9b6382423827", func := "vanguard/vanguardlaw.DiffSays", spec := "diffSays", unfollowed := true, recurses := true, apart := false, narrowed := true }
def DiffSaysUptoSaid : Prop := diffSaysUptoRow.holds Try.pinned (OpenSpec.upto diffSaysSpec)

/-- 'vanguardlaw.DiffComes', WHERE WHAT IT READS IS OF BULK AT MOST 1048576: true; the input reads as it did. -/
def diffComesUptoRow : OpenClaim := { program := "ytjedjanlmjolkaa", sum := "9415a3d9c33daa5b29b35e8c3e8dfde3ac6a1d329b7522778b6f9b6382423827", func := "vanguard/vanguardlaw.DiffComes", spec := "diffComes", unfollowed := true, recurses := true, apart := false, narrowed := true }
def DiffComesUptoSaid : Prop := diffComesUptoRow.holds Try.pinned (OpenSpec.upto diffComesSpec)

/-- 'vanguardlaw.DiffUndone', WHERE WHAT IT READS IS OF BULK AT MOST 1048576: true; the input reads as it did. -/
def diffUndoneUptoRow : OpenClaim := { program := "ytjedjanlmjolkaa", sum := "9415a3d9c33daa5b29b35e8c3e8dfde3ac6a1d329b7522778b6f9b6382423827", func := "vanguard/vanguardlaw.DiffUndone", spec := "diffUndone", unfollowed := true, recurses := true, apart := false, narrowed := true }
def DiffUndoneUptoSaid : Prop := diffUndoneUptoRow.holds Try.pinned (OpenSpec.upto diffUndoneSpec)

end Rows
end Go.Proofs.Ytjedjanlmjolkaa
