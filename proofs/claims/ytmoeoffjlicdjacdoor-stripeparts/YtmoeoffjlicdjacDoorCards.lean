/-
  DERIVED. GIVEN WITH THE SEED: THE CARDS: each row of YtmoeoffjlicdjacDoorRows.lean that lists a variable, with what it lists TIED to the program's text (the seventh form; the later family's looks); each row that meets fmt, with fmt's text TOLD by the authors' own Lean function (tested against real Go, not proved from fmt's source: count such statements apart). THE CARD IS WHAT COUNTS. Prove the row's statement (the work); the ties are given (YtmoeoffjlicdjacDoorTie.lean); close each card by the builder's one call (the guide's Derived/Test/ToyasCard.lean, 'card_holds'). Laid BY PROGRAM, IN A SANDBOX (cutbox-door.mjs). By AI agents, Wed Nov 11 2026. No macro, syntax, notation, axiom, sorry.
-/
import Derived.Test.YtmoeoffjlicdjacDoorRows
import GoSem.ClaimSeven
namespace Go.Proofs.YtmoeoffjlicdjacDoor
namespace Rows

/-- THE TIED CARD OF 'dryrotlaw05.PairLost'. -/
def pairLostCard : Claim7 := { stood := { row := pairLostRow, standIns := [], harness := (true, "d20bac9971c217877e901dc6e74a3217725e0a096660e92cdfa03023106dbd84"), looks := false }, kinds := [], alts := [], laidByText := true, laidKinds := [.data], laidTests := true, laidLooks := .later }
def PairLostCardSaid : Prop := Claim7.holds Tryd.pinned (.plain (OpenSpec.ofChange pairLostSpec)) pairLostCard

/-- THE TIED CARD OF 'dryrotlaw05.PairNobody'. -/
def pairNobodyCard : Claim7 := { stood := { row := pairNobodyRow, standIns := [], harness := (true, "d20bac9971c217877e901dc6e74a3217725e0a096660e92cdfa03023106dbd84"), looks := false }, kinds := [], alts := [], laidByText := true, laidKinds := [.data], laidTests := true, laidLooks := .later }
def PairNobodyCardSaid : Prop := Claim7.holds Tryd.pinned (.plain (OpenSpec.ofChange pairNobodySpec)) pairNobodyCard

/-- THE TIED CARD OF 'dryrotlaw06.StripeNeeds'. -/
def stripeNeedsCard : Claim7 := { stood := { row := stripeNeedsRow, standIns := [], harness := (true, "d20bac9971c217877e901dc6e74a3217725e0a096660e92cdfa03023106dbd84"), looks := false }, kinds := [], alts := [], laidByText := true, laidKinds := [.data], laidTests := true, laidLooks := .later }
def StripeNeedsCardSaid : Prop := Claim7.holds Tryd.pinned (.plain (OpenSpec.ofChange stripeNeedsSpec)) stripeNeedsCard

/-- THE TIED CARD OF 'dryrotlaw06.StripeParts'. -/
def stripePartsCard : Claim7 := { stood := { row := stripePartsRow, standIns := [], harness := (true, "d20bac9971c217877e901dc6e74a3217725e0a096660e92cdfa03023106dbd84"), looks := false }, kinds := [], alts := [], laidByText := true, laidKinds := [.data], laidTests := true, laidLooks := .later }
def StripePartsCardSaid : Prop := Claim7.holds Tryd.pinned (.plain (OpenSpec.ofChange stripePartsSpec)) stripePartsCard

/-- THE TIED CARD OF 'dryrotlaw06.StripeOne'. -/
def stripeOneCard : Claim7 := { stood := { row := stripeOneRow, standIns := [], harness := (true, "d20bac9971c217877e901dc6e74a3217725e0a096660e92cdfa03023106dbd84"), looks := false }, kinds := [], alts := [], laidByText := true, laidKinds := [.data], laidTests := true, laidLooks := .later }
def StripeOneCardSaid : Prop := Claim7.holds Tryd.pinned (.plain (OpenSpec.ofChange stripeOneSpec)) stripeOneCard

/-- THE SECOND FORM's CARD OF 'dryrotlaw05.PairLost'. -/
def pairLostUptoCard : Claim7 := { stood := { row := pairLostUptoRow, standIns := [], harness := (true, "d20bac9971c217877e901dc6e74a3217725e0a096660e92cdfa03023106dbd84"), looks := false }, kinds := [], alts := [], laidByText := true, laidKinds := [.data], laidTests := true, laidLooks := .later }
def PairLostUptoCardSaid : Prop := Claim7.holds Tryd.pinned (.plain (OpenSpec.upto pairLostSpec)) pairLostUptoCard

/-- THE SECOND FORM's CARD OF 'dryrotlaw05.PairNobody'. -/
def pairNobodyUptoCard : Claim7 := { stood := { row := pairNobodyUptoRow, standIns := [], harness := (true, "d20bac9971c217877e901dc6e74a3217725e0a096660e92cdfa03023106dbd84"), looks := false }, kinds := [], alts := [], laidByText := true, laidKinds := [.data], laidTests := true, laidLooks := .later }
def PairNobodyUptoCardSaid : Prop := Claim7.holds Tryd.pinned (.plain (OpenSpec.upto pairNobodySpec)) pairNobodyUptoCard

/-- THE SECOND FORM's CARD OF 'dryrotlaw06.StripeNeeds'. -/
def stripeNeedsUptoCard : Claim7 := { stood := { row := stripeNeedsUptoRow, standIns := [], harness := (true, "d20bac9971c217877e901dc6e74a3217725e0a096660e92cdfa03023106dbd84"), looks := false }, kinds := [], alts := [], laidByText := true, laidKinds := [.data], laidTests := true, laidLooks := .later }
def StripeNeedsUptoCardSaid : Prop := Claim7.holds Tryd.pinned (.plain (OpenSpec.upto stripeNeedsSpec)) stripeNeedsUptoCard

/-- THE SECOND FORM's CARD OF 'dryrotlaw06.StripeParts'. -/
def stripePartsUptoCard : Claim7 := { stood := { row := stripePartsUptoRow, standIns := [], harness := (true, "d20bac9971c217877e901dc6e74a3217725e0a096660e92cdfa03023106dbd84"), looks := false }, kinds := [], alts := [], laidByText := true, laidKinds := [.data], laidTests := true, laidLooks := .later }
def StripePartsUptoCardSaid : Prop := Claim7.holds Tryd.pinned (.plain (OpenSpec.upto stripePartsSpec)) stripePartsUptoCard

/-- THE SECOND FORM's CARD OF 'dryrotlaw06.StripeOne'. -/
def stripeOneUptoCard : Claim7 := { stood := { row := stripeOneUptoRow, standIns := [], harness := (true, "d20bac9971c217877e901dc6e74a3217725e0a096660e92cdfa03023106dbd84"), looks := false }, kinds := [], alts := [], laidByText := true, laidKinds := [.data], laidTests := true, laidLooks := .later }
def StripeOneUptoCardSaid : Prop := Claim7.holds Tryd.pinned (.plain (OpenSpec.upto stripeOneSpec)) stripeOneUptoCard
end Rows
end Go.Proofs.YtmoeoffjlicdjacDoor
