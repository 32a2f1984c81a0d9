/-
  DERIVED. GIVEN WITH THE SEED: THE CARDS: each row of YtpmhajdljghfcabGreatDoorRows.lean that lists a variable, with what it lists TIED to the program's text (the seventh form; the later family's looks); each row that meets fmt, with fmt's text TOLD by the authors' own Lean function (tested against real Go, not proved from fmt's source: count such statements apart). THE CARD IS WHAT COUNTS. Prove the row's statement (the work); the ties are given (YtpmhajdljghfcabGreatDoorTie.lean); close each card by the builder's one call (the guide's Derived/Test/ToyasCard.lean, 'card_holds'). Laid BY PROGRAM, IN A SANDBOX (cutbox-door.mjs). By AI agents, Wed Nov 11 2026. No macro, syntax, notation, axiom, sorry.
-/
import Derived.Test.YtpmhajdljghfcabGreatDoorRows
import GoSem.ClaimSeven
namespace Go.Proofs.YtpmhajdljghfcabGreatDoor
namespace Rows

/-- THE TIED CARD OF 'vanguardlaw.NoteSays'. -/
def noteSaysCard : Claim7 := { stood := { row := noteSaysRow, standIns := [], harness := (true, "0a33fcebf19b3066afa26e2a63ac57eb9c962b8550146e3b9be23037fc1e3d80"), looks := true }, kinds := [], alts := [], laidByText := true, laidKinds := [.data, .data, .data, .data, .sentinel, .sentinel, .pinned], laidTests := true, laidLooks := .later }
def NoteSaysCardSaid : Prop := Claim7.holds Tryz.pinned (.plain (OpenSpec.ofChange noteSaysSpec)) noteSaysCard

/-- THE SECOND FORM's CARD OF 'vanguardlaw.NoteSays'. -/
def noteSaysUptoCard : Claim7 := { stood := { row := noteSaysUptoRow, standIns := [], harness := (true, "0a33fcebf19b3066afa26e2a63ac57eb9c962b8550146e3b9be23037fc1e3d80"), looks := true }, kinds := [], alts := [], laidByText := true, laidKinds := [.data, .data, .data, .data, .sentinel, .sentinel, .pinned], laidTests := true, laidLooks := .later }
def NoteSaysUptoCardSaid : Prop := Claim7.holds Tryz.pinned (.plain (OpenSpec.upto noteSaysSpec)) noteSaysUptoCard
end Rows
end Go.Proofs.YtpmhajdljghfcabGreatDoor
