/-
  DERIVED. GIVEN WITH THE SEED: THE CARDS: each row of YthnnpgleljfgjaaDoorRows.lean that lists a variable, with what it lists TIED to the program's text (the seventh form; the later family's looks); each row that meets fmt, with fmt's text TOLD by the authors' own Lean function (tested against real Go, not proved from fmt's source: count such statements apart). THE CARD IS WHAT COUNTS. Prove the row's statement (the work); the ties are given (YthnnpgleljfgjaaDoorTie.lean); close each card by the builder's one call (the guide's Derived/Test/ToyasCard.lean, 'card_holds'). Laid BY PROGRAM, IN A SANDBOX (cutbox-door.mjs). By AI agents, Wed Nov 11 2026. No macro, syntax, notation, axiom, sorry.
-/
import Derived.Test.YthnnpgleljfgjaaDoorRows
import GoSem.ClaimSeven
namespace Go.Proofs.YthnnpgleljfgjaaDoor
namespace Rows

/-- THE TIED CARD OF 'dryrotlaw05.PairNobody'. -/
def pairNobodyCard : Claim7 := { stood := { row := pairNobodyRow, standIns := [], harness := (true, "769141cf89239172f0d9f95d220dadb02c28fb7a302728ca5a14771a3cb5bf75"), looks := false }, kinds := [], alts := [], laidByText := true, laidKinds := [.data], laidTests := true, laidLooks := .later }
def PairNobodyCardSaid : Prop := Claim7.holds Tryd.pinned (.plain (OpenSpec.ofChange pairNobodySpec)) pairNobodyCard

/-- THE TIED CARD OF 'dryrotlaw06.StripeNobody'. -/
def stripeNobodyCard : Claim7 := { stood := { row := stripeNobodyRow, standIns := [], harness := (true, "769141cf89239172f0d9f95d220dadb02c28fb7a302728ca5a14771a3cb5bf75"), looks := false }, kinds := [], alts := [], laidByText := true, laidKinds := [.data], laidTests := true, laidLooks := .later }
def StripeNobodyCardSaid : Prop := Claim7.holds Tryd.pinned (.plain (OpenSpec.ofChange stripeNobodySpec)) stripeNobodyCard

/-- THE SECOND FORM's CARD OF 'dryrotlaw05.PairNobody'. -/
def pairNobodyUptoCard : Claim7 := { stood := { row := pairNobodyUptoRow, standIns := [], harness := (true, "769141cf89239172f0d9f95d220dadb02c28fb7a302728ca5a14771a3cb5bf75"), looks := false }, kinds := [], alts := [], laidByText := true, laidKinds := [.data], laidTests := true, laidLooks := .later }
def PairNobodyUptoCardSaid : Prop := Claim7.holds Tryd.pinned (.plain (OpenSpec.upto pairNobodySpec)) pairNobodyUptoCard

/-- THE SECOND FORM's CARD OF 'dryrotlaw06.StripeNobody'. -/
def stripeNobodyUptoCard : Claim7 := { stood := { row := stripeNobodyUptoRow, standIns := [], harness := (true, "769141cf89239172f0d9f95d220dadb02c28fb7a302728ca5a14771a3cb5bf75"), looks := false }, kinds := [], alts := [], laidByText := true, laidKinds := [.data], laidTests := true, laidLooks := .later }
def StripeNobodyUptoCardSaid : Prop := Claim7.holds Tryd.pinned (.plain (OpenSpec.upto stripeNobodySpec)) stripeNobodyUptoCard
end Rows
end Go.Proofs.YthnnpgleljfgjaaDoor
