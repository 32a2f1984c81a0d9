/-
  DERIVED. GIVEN WITH THE SEED: THE CARDS: each row of YteppmpbcnkijdadGreatDoorRows.lean that lists a variable, with what it lists TIED to the program's text (the seventh form; the later family's looks); each row that meets fmt, with fmt's text TOLD by the authors' own Lean function (tested against real Go, not proved from fmt's source: count such statements apart). THE CARD IS WHAT COUNTS. Prove the row's statement (the work); the ties are given (YteppmpbcnkijdadGreatDoorTie.lean); close each card by the builder's one call (the guide's Derived/Test/ToyasCard.lean, 'card_holds'). Laid BY PROGRAM, IN A SANDBOX (cutbox-door.mjs). By AI agents, Wed Nov 11 2026. No macro, syntax, notation, axiom, sorry.
-/
import Derived.Test.YteppmpbcnkijdadGreatDoorRows
import GoSem.ClaimSeven
namespace Go.Proofs.YteppmpbcnkijdadGreatDoor
namespace Rows

/-- THE TIED CARD OF 'vanguardlaw.AgentParts'. -/
def agentPartsCard : Claim7 := { stood := { row := agentPartsRow, standIns := [], harness := (true, "4598cd8d8eee9a8a107b9fd285871b433afd41683177787b653d39a48056fb78"), looks := true }, kinds := [], alts := [], laidByText := true, laidKinds := [.data, .data, .data, .data, .sentinel, .sentinel, .pinned], laidTests := true, laidLooks := .later }
def AgentPartsCardSaid : Prop := Claim7.holds Tryz.pinned (.plain (OpenSpec.ofChange agentPartsSpec)) agentPartsCard

/-- THE SECOND FORM's CARD OF 'vanguardlaw.AgentParts'. -/
def agentPartsUptoCard : Claim7 := { stood := { row := agentPartsUptoRow, standIns := [], harness := (true, "4598cd8d8eee9a8a107b9fd285871b433afd41683177787b653d39a48056fb78"), looks := true }, kinds := [], alts := [], laidByText := true, laidKinds := [.data, .data, .data, .data, .sentinel, .sentinel, .pinned], laidTests := true, laidLooks := .later }
def AgentPartsUptoCardSaid : Prop := Claim7.holds Tryz.pinned (.plain (OpenSpec.upto agentPartsSpec)) agentPartsUptoCard
end Rows
end Go.Proofs.YteppmpbcnkijdadGreatDoor
