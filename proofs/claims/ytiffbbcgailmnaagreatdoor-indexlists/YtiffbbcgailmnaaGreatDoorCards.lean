/-
  DERIVED. GIVEN WITH THE SEED: THE CARDS: each row of YtiffbbcgailmnaaGreatDoorRows.lean that lists a variable, with what it lists TIED to the program's text (the seventh form; the later family's looks); each row that meets fmt, with fmt's text TOLD by the authors' own Lean function (tested against real Go, not proved from fmt's source: count such statements apart). THE CARD IS WHAT COUNTS. Prove the row's statement (the work); the ties are given (YtiffbbcgailmnaaGreatDoorTie.lean); close each card by the builder's one call (the guide's Derived/Test/ToyasCard.lean, 'card_holds'). Laid BY PROGRAM, IN A SANDBOX (cutbox-door.mjs). By AI agents, Wed Nov 11 2026. No macro, syntax, notation, axiom, sorry.
-/
import Derived.Test.YtiffbbcgailmnaaGreatDoorRows
import GoSem.ClaimSeven
namespace Go.Proofs.YtiffbbcgailmnaaGreatDoor
namespace Rows

/-- THE TIED CARD OF 'dryrotlaw13.IndexLists'. -/
def indexListsCard : Claim7 := { stood := { row := indexListsRow, standIns := [], harness := (true, "bbcf9a64e2717c0d4c5733917da284a6890eea57cc3afe801844bc884bf46d48"), looks := false }, kinds := [], alts := [], laidByText := true, laidKinds := [.data, .data], laidTests := true, laidLooks := .later }
def IndexListsCardSaid : Prop := Claim7.holds Tryz.pinned (.plain (OpenSpec.ofChange indexListsSpec)) indexListsCard

/-- THE SECOND FORM's CARD OF 'dryrotlaw13.IndexLists'. -/
def indexListsUptoCard : Claim7 := { stood := { row := indexListsUptoRow, standIns := [], harness := (true, "bbcf9a64e2717c0d4c5733917da284a6890eea57cc3afe801844bc884bf46d48"), looks := false }, kinds := [], alts := [], laidByText := true, laidKinds := [.data, .data], laidTests := true, laidLooks := .later }
def IndexListsUptoCardSaid : Prop := Claim7.holds Tryz.pinned (.plain (OpenSpec.upto indexListsSpec)) indexListsUptoCard
end Rows
end Go.Proofs.YtiffbbcgailmnaaGreatDoor
