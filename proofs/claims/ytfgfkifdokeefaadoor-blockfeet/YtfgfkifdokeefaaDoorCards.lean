/-
  DERIVED. GIVEN WITH THE SEED: THE CARDS: each row of YtfgfkifdokeefaaDoorRows.lean that lists a variable, with what it lists TIED to the program's text (the seventh form; the later family's looks); each row that meets fmt, with fmt's text TOLD by the authors' own Lean function (tested against real Go, not proved from fmt's source: count such statements apart). THE CARD IS WHAT COUNTS. Prove the row's statement (the work); the ties are given (YtfgfkifdokeefaaDoorTie.lean); close each card by the builder's one call (the guide's Derived/Test/ToyasCard.lean, 'card_holds'). Laid BY PROGRAM, IN A SANDBOX (cutbox-door.mjs). By AI agents, Wed Nov 11 2026. No macro, syntax, notation, axiom, sorry.
-/
import Derived.Test.YtfgfkifdokeefaaDoorRows
import GoSem.ClaimSeven
namespace Go.Proofs.YtfgfkifdokeefaaDoor
namespace Rows

/-- THE TIED CARD OF 'dryrotlaw19.BlockFeet'. -/
def blockFeetCard : Claim7 := { stood := { row := blockFeetRow, standIns := [], harness := (true, "c3ded93d71eebe5c395602aa931d2c587f68aebfd70dc2a4458b5b1ba964235e"), looks := false }, kinds := [], alts := [], laidByText := true, laidKinds := [.data, .data], laidTests := true, laidLooks := .later }
def BlockFeetCardSaid : Prop := Claim7.holds Tryd.pinned (.plain (OpenSpec.ofChange blockFeetSpec)) blockFeetCard

/-- THE SECOND FORM's CARD OF 'dryrotlaw19.BlockFeet'. -/
def blockFeetUptoCard : Claim7 := { stood := { row := blockFeetUptoRow, standIns := [], harness := (true, "c3ded93d71eebe5c395602aa931d2c587f68aebfd70dc2a4458b5b1ba964235e"), looks := false }, kinds := [], alts := [], laidByText := true, laidKinds := [.data, .data], laidTests := true, laidLooks := .later }
def BlockFeetUptoCardSaid : Prop := Claim7.holds Tryd.pinned (.plain (OpenSpec.upto blockFeetSpec)) blockFeetUptoCard
end Rows
end Go.Proofs.YtfgfkifdokeefaaDoor
