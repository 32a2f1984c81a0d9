/-
  DERIVED. GIVEN WITH THE SEED: THE CARDS: each row of YtpmhajdljghfcaaDoorRows.lean that lists a variable, with what it lists TIED to the program's text (the seventh form; the later family's looks); each row that meets fmt, with fmt's text TOLD by the authors' own Lean function (tested against real Go, not proved from fmt's source: count such statements apart). THE CARD IS WHAT COUNTS. Prove the row's statement (the work); the ties are given (YtpmhajdljghfcaaDoorTie.lean); close each card by the builder's one call (the guide's Derived/Test/ToyasCard.lean, 'card_holds'). Laid BY PROGRAM, IN A SANDBOX (cutbox-door.mjs). By AI agents, Wed Nov 11 2026. No macro, syntax, notation, axiom, sorry.
-/
import Derived.Test.YtpmhajdljghfcaaDoorRows
import GoSem.ClaimSeven
namespace Go.Proofs.YtpmhajdljghfcaaDoor
namespace Rows

/-- THE TIED CARD OF 'vanguardlaw.LockSays'. -/
def lockSaysCard : Claim7 := { stood := { row := lockSaysRow, standIns := [], harness := (true, "1d4b61798358d938f02b5601ebaa2b3e8d8005399a5f6a394b34251aad69164d"), looks := true }, kinds := [], alts := [], laidByText := true, laidKinds := [.data, .data, .data, .data, .sentinel, .sentinel, .pinned], laidTests := true, laidLooks := .later }
def LockSaysCardSaid : Prop := Claim7.holds Tryd.pinned (.plain (OpenSpec.ofChange lockSaysSpec)) lockSaysCard

/-- THE TIED CARD OF 'vanguardlaw.LockBack'. -/
def lockBackCard : Claim7 := { stood := { row := lockBackRow, standIns := [], harness := (true, "1d4b61798358d938f02b5601ebaa2b3e8d8005399a5f6a394b34251aad69164d"), looks := true }, kinds := [], alts := [], laidByText := true, laidKinds := [.data, .data, .data, .data, .sentinel, .sentinel, .pinned], laidTests := true, laidLooks := .later }
def LockBackCardSaid : Prop := Claim7.holds Tryd.pinned (.plain (OpenSpec.ofChange lockBackSpec)) lockBackCard

/-- THE SECOND FORM's CARD OF 'vanguardlaw.LockSays'. -/
def lockSaysUptoCard : Claim7 := { stood := { row := lockSaysUptoRow, standIns := [], harness := (true, "1d4b61798358d938f02b5601ebaa2b3e8d8005399a5f6a394b34251aad69164d"), looks := true }, kinds := [], alts := [], laidByText := true, laidKinds := [.data, .data, .data, .data, .sentinel, .sentinel, .pinned], laidTests := true, laidLooks := .later }
def LockSaysUptoCardSaid : Prop := Claim7.holds Tryd.pinned (.plain (OpenSpec.upto lockSaysSpec)) lockSaysUptoCard

/-- THE SECOND FORM's CARD OF 'vanguardlaw.LockBack'. -/
def lockBackUptoCard : Claim7 := { stood := { row := lockBackUptoRow, standIns := [], harness := (true, "1d4b61798358d938f02b5601ebaa2b3e8d8005399a5f6a394b34251aad69164d"), looks := true }, kinds := [], alts := [], laidByText := true, laidKinds := [.data, .data, .data, .data, .sentinel, .sentinel, .pinned], laidTests := true, laidLooks := .later }
def LockBackUptoCardSaid : Prop := Claim7.holds Tryd.pinned (.plain (OpenSpec.upto lockBackSpec)) lockBackUptoCard
end Rows
end Go.Proofs.YtpmhajdljghfcaaDoor
