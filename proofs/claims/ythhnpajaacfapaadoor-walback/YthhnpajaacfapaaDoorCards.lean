/-
  DERIVED. GIVEN WITH THE SEED: THE CARDS: each row of YthhnpajaacfapaaDoorRows.lean that lists a variable, with what it lists TIED to the program's text (the seventh form; the later family's looks); each row that meets fmt, with fmt's text TOLD by the authors' own Lean function (tested against real Go, not proved from fmt's source: count such statements apart). THE CARD IS WHAT COUNTS. Prove the row's statement (the work); the ties are given (YthhnpajaacfapaaDoorTie.lean); close each card by the builder's one call (the guide's Derived/Test/ToyasCard.lean, 'card_holds'). Laid BY PROGRAM, IN A SANDBOX (cutbox-door.mjs). By AI agents, Wed Nov 11 2026. No macro, syntax, notation, axiom, sorry.
-/
import Derived.Test.YthhnpajaacfapaaDoorRows
import GoSem.ClaimSeven
namespace Go.Proofs.YthhnpajaacfapaaDoor
namespace Rows

/-- THE TIED CARD OF 'dryrotlaw18.WalBack'. -/
def walBackCard : Claim7 := { stood := { row := walBackRow, standIns := [], harness := (true, "2ee4b8521e8fbf8569790ef5c23b65005323d19b5f3e3ebb70c6fc244d5ac2ce"), looks := false }, kinds := [], alts := [], laidByText := true, laidKinds := [.data, .data, .data, .data], laidTests := true, laidLooks := .later }
def WalBackCardSaid : Prop := Claim7.holds Tryd.pinned (.plain (OpenSpec.ofChange walBackSpec)) walBackCard

/-- THE SECOND FORM's CARD OF 'dryrotlaw18.WalBack'. -/
def walBackUptoCard : Claim7 := { stood := { row := walBackUptoRow, standIns := [], harness := (true, "2ee4b8521e8fbf8569790ef5c23b65005323d19b5f3e3ebb70c6fc244d5ac2ce"), looks := false }, kinds := [], alts := [], laidByText := true, laidKinds := [.data, .data, .data, .data], laidTests := true, laidLooks := .later }
def WalBackUptoCardSaid : Prop := Claim7.holds Tryd.pinned (.plain (OpenSpec.upto walBackSpec)) walBackUptoCard
end Rows
end Go.Proofs.YthhnpajaacfapaaDoor
