/-
  DERIVED. GIVEN WITH THE SEED: THE CARDS: each row of YtmoeoffjlicdjadDoorRows.lean that lists a variable, with what it lists TIED to the program's text (the seventh form; the later family's looks); each row that meets fmt, with fmt's text TOLD by the authors' own Lean function (tested against real Go, not proved from fmt's source: count such statements apart). THE CARD IS WHAT COUNTS. Prove the row's statement (the work); the ties are given (YtmoeoffjlicdjadDoorTie.lean); close each card by the builder's one call (the guide's Derived/Test/ToyasCard.lean, 'card_holds'). Laid BY PROGRAM, IN A SANDBOX (cutbox-door.mjs). By AI agents, Wed Nov 11 2026. No macro, syntax, notation, axiom, sorry.
-/
import Derived.Test.YtmoeoffjlicdjadDoorRows
import GoSem.ClaimSeven
namespace Go.Proofs.YtmoeoffjlicdjadDoor
namespace Rows

/-- THE TIED CARD OF 'dryrotlaw06.StripeTwo'. -/
def stripeTwoCard : Claim7 := { stood := { row := stripeTwoRow, standIns := [], harness := (true, "eebf8cd4c43e8d69e734558bd741a4a3234844590d1954af3e2f95abfbd7063f"), looks := false }, kinds := [], alts := [], laidByText := true, laidKinds := [.data], laidTests := true, laidLooks := .later }
def StripeTwoCardSaid : Prop := Claim7.holds Tryd.pinned (.plain (OpenSpec.ofChange stripeTwoSpec)) stripeTwoCard

/-- THE TIED CARD OF 'dryrotlaw06.StripeNobody'. -/
def stripeNobodyCard : Claim7 := { stood := { row := stripeNobodyRow, standIns := [], harness := (true, "eebf8cd4c43e8d69e734558bd741a4a3234844590d1954af3e2f95abfbd7063f"), looks := false }, kinds := [], alts := [], laidByText := true, laidKinds := [.data], laidTests := true, laidLooks := .later }
def StripeNobodyCardSaid : Prop := Claim7.holds Tryd.pinned (.plain (OpenSpec.ofChange stripeNobodySpec)) stripeNobodyCard

/-- THE SECOND FORM's CARD OF 'dryrotlaw06.StripeTwo'. -/
def stripeTwoUptoCard : Claim7 := { stood := { row := stripeTwoUptoRow, standIns := [], harness := (true, "eebf8cd4c43e8d69e734558bd741a4a3234844590d1954af3e2f95abfbd7063f"), looks := false }, kinds := [], alts := [], laidByText := true, laidKinds := [.data], laidTests := true, laidLooks := .later }
def StripeTwoUptoCardSaid : Prop := Claim7.holds Tryd.pinned (.plain (OpenSpec.upto stripeTwoSpec)) stripeTwoUptoCard

/-- THE SECOND FORM's CARD OF 'dryrotlaw06.StripeNobody'. -/
def stripeNobodyUptoCard : Claim7 := { stood := { row := stripeNobodyUptoRow, standIns := [], harness := (true, "eebf8cd4c43e8d69e734558bd741a4a3234844590d1954af3e2f95abfbd7063f"), looks := false }, kinds := [], alts := [], laidByText := true, laidKinds := [.data], laidTests := true, laidLooks := .later }
def StripeNobodyUptoCardSaid : Prop := Claim7.holds Tryd.pinned (.plain (OpenSpec.upto stripeNobodySpec)) stripeNobodyUptoCard
end Rows
end Go.Proofs.YtmoeoffjlicdjadDoor
