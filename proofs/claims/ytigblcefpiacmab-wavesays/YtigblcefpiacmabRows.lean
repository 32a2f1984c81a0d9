/-
  No cell of these rows narrows 'for every input' (looked for: loops, veiled, ifaces, maps, wideKeys, modest, calm, conditions, laid).
  DERIVED. THE GIVEN ROWS OF THIS SEAT. 5 by the template 'for every input the law returns true; each argument reads behind the call as it read before'; 0 by the template 'total and deterministic' (their statements: YtigblcefpiacmabTotals.lean).
  GIVEN WITH THE SEED: the statements are not yours to turn. If you find one false, say at which input.
  Laid BY PROGRAM, IN A SANDBOX (cutbox-rows.mjs): the forced cells as the released guide's own fill.sh prints them over the translation 2fd49349cbc3a73a… (all of the seat's roots in one cut). By AI agents, Wed Nov 11 2026. No macro, syntax, notation, axiom, sorry.
-/
import Derived.Test.YtigblcefpiacmabChecked
import GoSem.Claim
import GoSem.ClaimJoined
import GoSem.ClaimMapViews
import Derived.JoinedTies
import Derived.KernelRfl
namespace Go.Proofs.Ytigblcefpiacmab
/- THE CELL 'sum', in the pinned program and in every row, IS THE sha256 OF THE DUMP (.gsa) THAT YtigblcefpiacmabProg.lean LOADS. Nothing in Lean hashes anything: it is a label: what it is worth is what the hold of that sum in a sandbox is worth. -/
noncomputable def Try.pinned : Pinned := { name := "ytigblcefpiacmab", sum := "2fd49349cbc3a73a4e35ff724ce4577adf6a51aaa411cb3ed5f5d32669fdc40f", checked := Try.checked }
namespace Rows
def none {H : Type} : Left H := { results := [], args := [] }

/-- 'vanguardlaw.RuleSays': WHATEVER THE INPUT: true; the input reads as it did. -/
def ruleSaysSpec : ChangeSpec := { name := "ruleSays", fn := fun _ => fun
  | [d1, d2] => { results := [.lit (.bool true)], args := [d1, d2] }
  | _ => none }
def ruleSaysRow : OpenClaim := { program := "ytigblcefpiacmab", sum := "2fd49349cbc3a73a4e35ff724ce4577adf6a51aaa411cb3ed5f5d32669fdc40f", func := "vanguard/vanguardlaw.RuleSays", spec := "ruleSays", unfollowed := true, recurses := true, apart := false }
def RuleSaysSaid : Prop := ruleSaysRow.holds Try.pinned (OpenSpec.ofChange ruleSaysSpec)

/-- ITS FALSE NEIGHBOUR: 'it returns false'. Refute it at one input. -/
def ruleSaysWrong : ChangeSpec := { name := "ruleSays", fn := fun _ => fun
  | [d1, d2] => { results := [.lit (.bool false)], args := [d1, d2] }
  | _ => none }
def RuleSaysWrongFalsely : Prop := ruleSaysRow.holds Try.pinned (OpenSpec.ofChange ruleSaysWrong)

/-- 'vanguardlaw.RuleMends': WHATEVER THE INPUT: true; the input reads as it did. -/
def ruleMendsSpec : ChangeSpec := { name := "ruleMends", fn := fun _ => fun
  | [d1, d2, d3] => { results := [.lit (.bool true)], args := [d1, d2, d3] }
  | _ => none }
def ruleMendsRow : OpenClaim := { program := "ytigblcefpiacmab", sum := "2fd49349cbc3a73a4e35ff724ce4577adf6a51aaa411cb3ed5f5d32669fdc40f", func := "vanguard/vanguardlaw.RuleMends", spec := "ruleMends", unfollowed := true, recurses := true, apart := false }
def RuleMendsSaid : Prop := ruleMendsRow.holds Try.pinned (OpenSpec.ofChange ruleMendsSpec)

/-- ITS FALSE NEIGHBOUR: 'it returns false'. Refute it at one input. -/
def ruleMendsWrong : ChangeSpec := { name := "ruleMends", fn := fun _ => fun
  | [d1, d2, d3] => { results := [.lit (.bool false)], args := [d1, d2, d3] }
  | _ => none }
def RuleMendsWrongFalsely : Prop := ruleMendsRow.holds Try.pinned (OpenSpec.ofChange ruleMendsWrong)

/-- 'vanguardlaw.RuleFewer': WHATEVER THE INPUT: true; the input reads as it did. -/
def ruleFewerSpec : ChangeSpec := { name := "ruleFewer", fn := fun _ => fun
  | [d1, d2, d3] => { results := [.lit (.bool true)], args := [d1, d2, d3] }
  | _ => none }
def ruleFewerRow : OpenClaim := { program := "ytigblcefpiacmab", sum := "2fd49349cbc3a73a4e35ff724ce4577adf6a51aaa411cb3ed5f5d32669fdc40f", func := "vanguard/vanguardlaw.RuleFewer", spec := "ruleFewer", unfollowed := true, recurses := true, apart := false }
def RuleFewerSaid : Prop := ruleFewerRow.holds Try.pinned (OpenSpec.ofChange ruleFewerSpec)

/-- ITS FALSE NEIGHBOUR: 'it returns false'. Refute it at one input. -/
def ruleFewerWrong : ChangeSpec := { name := "ruleFewer", fn := fun _ => fun
  | [d1, d2, d3] => { results := [.lit (.bool false)], args := [d1, d2, d3] }
  | _ => none }
def RuleFewerWrongFalsely : Prop := ruleFewerRow.holds Try.pinned (OpenSpec.ofChange ruleFewerWrong)

/-- 'vanguardlaw.WaveSays': WHATEVER THE INPUT: true; the input reads as it did. -/
def waveSaysSpec : ChangeSpec := { name := "waveSays", fn := fun _ => fun
  | [d1, d2, d3, d4] => { results := [.lit (.bool true)], args := [d1, d2, d3, d4] }
  | _ => none }
def waveSaysRow : OpenClaim := { program := "ytigblcefpiacmab", sum := "2fd49349cbc3a73a4e35ff724ce4577adf6a51aaa411cb3ed5f5d32669fdc40f", func := "vanguard/vanguardlaw.WaveSays", spec := "waveSays", unfollowed := true, recurses := true, apart := false }
def WaveSaysSaid : Prop := waveSaysRow.holds Try.pinned (OpenSpec.ofChange waveSaysSpec)

/-- ITS FALSE NEIGHBOUR: 'it returns false'. Refute it at one input. -/
def waveSaysWrong : ChangeSpec := { name := "waveSays", fn := fun _ => fun
  | [d1, d2, d3, d4] => { results := [.lit (.bool false)], args := [d1, d2, d3, d4] }
  | _ => none }
def WaveSaysWrongFalsely : Prop := waveSaysRow.holds Try.pinned (OpenSpec.ofChange waveSaysWrong)

/-- 'vanguardlaw.WaveOn': WHATEVER THE INPUT: true; the input reads as it did. -/
def waveOnSpec : ChangeSpec := { name := "waveOn", fn := fun _ => fun
  | [d1, d2, d3] => { results := [.lit (.bool true)], args := [d1, d2, d3] }
  | _ => none }
def waveOnRow : OpenClaim := { program := "ytigblcefpiacmab", sum := "2fd49349cbc3a73a4e35ff724ce4577adf6a51aaa411cb3ed5f5d32669fdc40f", func := "vanguard/vanguardlaw.WaveOn", spec := "waveOn", unfollowed := true, recurses := true, apart := false }
def WaveOnSaid : Prop := waveOnRow.holds Try.pinned (OpenSpec.ofChange waveOnSpec)

/-- ITS FALSE NEIGHBOUR: 'it returns false'. Refute it at one input. -/
def waveOnWrong : ChangeSpec := { name := "waveOn", fn := fun _ => fun
  | [d1, d2, d3] => { results := [.lit (.bool false)], args := [d1, d2, d3] }
  | _ => none }
def WaveOnWrongFalsely : Prop := waveOnRow.holds Try.pinned (OpenSpec.ofChange waveOnWrong)

/- THE SECOND FORM. 'bulk': how many values and letters a reading holds, each counted each time it is reached (what is shared counts as often as it is met; a slice's spare places count too). A statement '..UptoSaid' is the law's where the arguments, and the package variables that the reading takes, are together of bulk at most 1048576: NARROWER than '..Said'. Prove '..Said' where nothing that the law and all that it calls make is longer than what came in: it says more and counts as full. Else prove '..UptoSaid'. A law counts once. -/
mutual
def uptoBulk {H : Type} : DataW H → Nat
  | .lit (.string bytes) => bytes.length + 1
  | .lit _ => 1
  | .nil => 1
  | .ptr d => uptoBulk d + 1
  | .slice elems spare => uptoBulkAll elems + uptoBulkAll spare + 1
  | .agg parts => uptoBulkAll parts + 1
  | .iface _ d => uptoBulk d + 1
  | .map entries => uptoBulkEntries entries + 1
  | .held _ => 1
def uptoBulkAll {H : Type} : List (DataW H) → Nat
  | [] => 0
  | d :: r => uptoBulk d + uptoBulkAll r
def uptoBulkEntries {H : Type} : List (Lit × DataW H) → Nat
  | [] => 0
  | x :: r => uptoBulkEntry x + uptoBulkEntries r
def uptoBulkEntry {H : Type} : Lit × DataW H → Nat
  | (.string bytes, d) => bytes.length + uptoBulk d + 1
  | (_, d) => uptoBulk d + 1
 end
def uptoSmall : (H : Type) → List (DataW H) → Bool := fun _ ds => decide (uptoBulkAll ds ≤ 1048576)
def OpenSpec.upto (s : _root_.Go.ChangeSpec) : _root_.Go.OpenSpec := { _root_.Go.OpenSpec.ofChange s with cond := some uptoSmall }

/-- 'vanguardlaw.RuleSays', WHERE WHAT IT READS IS OF BULK AT MOST 1048576: true; the input reads as it did. -/
def ruleSaysUptoRow : OpenClaim := { program := "ytigblcefpiacmab", sum := "2fd49349cbc3a73a4e35ff724ce4577adf6a51aaa411cb3ed5f5d32669fdc40f", func := "vanguard/vanguardlaw.RuleSays", spec := "ruleSays", unfollowed := true, recurses := true, apart := false, narrowed := true }
def RuleSaysUptoSaid : Prop := ruleSaysUptoRow.holds Try.pinned (OpenSpec.upto ruleSaysSpec)

/-- 'vanguardlaw.RuleMends', WHERE WHAT IT READS IS OF BULK AT MOST 1048576: true; the input reads as it did. -/
def ruleMendsUptoRow : OpenClaim := { program := "ytigblcefpiacmab", sum := "2fd49349cbc3a73a4e35ff724ce4577adf6a51aaa411cb3ed5f5d32669fdc40f", func := "vanguard/vanguardlaw.RuleMends", spec := "ruleMends", unfollowed := true, recurses := true, apart := false, narrowed := true }
def RuleMendsUptoSaid : Prop := ruleMendsUptoRow.holds Try.pinned (OpenSpec.upto ruleMendsSpec)

/-- 'vanguardlaw.RuleFewer', WHERE WHAT IT READS IS OF BULK AT MOST 1048576: true; the input reads as it did. -/
def ruleFewerUptoRow : OpenClaim := { program := "ytigblcefpiacmab", sum := "2fd49349cbc3a73a4e35ff724ce4577adf6a51aaa411cb3ed5f5d32669fdc40f", func := "vanguard/vanguardlaw.RuleFewer", spec := "ruleFewer", unfollowed := true, recurses := true, apart := false, narrowed := true }
def RuleFewerUptoSaid : Prop := ruleFewerUptoRow.holds Try.pinned (OpenSpec.upto ruleFewerSpec)

/-- 'vanguardlaw.WaveSays', WHERE WHAT IT READS IS OF BULK AT MOST 1048576: true; the input reads as it did. -/
def waveSaysUptoRow : OpenClaim := { program := "ytigblcefpiacmab", sum := "2fd49349cbc3a73a4e35ff724ce4577adf6a51aaa411cb3ed5f5d32669fdc40f", func := "vanguard/vanguardlaw.WaveSays", spec := "waveSays", unfollowed := true, recurses := true, apart := false, narrowed := true }
def WaveSaysUptoSaid : Prop := waveSaysUptoRow.holds Try.pinned (OpenSpec.upto waveSaysSpec)

/-- 'vanguardlaw.WaveOn', WHERE WHAT IT READS IS OF BULK AT MOST 1048576: true; the input reads as it did. -/
def waveOnUptoRow : OpenClaim := { program := "ytigblcefpiacmab", sum := "2fd49349cbc3a73a4e35ff724ce4577adf6a51aaa411cb3ed5f5d32669fdc40f", func := "vanguard/vanguardlaw.WaveOn", spec := "waveOn", unfollowed := true, recurses := true, apart := false, narrowed := true }
def WaveOnUptoSaid : Prop := waveOnUptoRow.holds Try.pinned (OpenSpec.upto waveOnSpec)

end Rows
end Go.Proofs.Ytigblcefpiacmab
