/-
  DERIVED. GIVEN WITH THE SEED: THE CARDS: each row of YtdbogbiklabmkaaDoorRows.lean that lists a variable, with what it lists TIED to the program's text (the seventh form; the later family's looks); each row that meets fmt, with fmt's text TOLD by the authors' own Lean function (tested against real Go, not proved from fmt's source: count such statements apart). THE CARD IS WHAT COUNTS. Prove the row's statement (the work); the ties are given (YtdbogbiklabmkaaDoorTie.lean); close each card by the builder's one call (the guide's Derived/Test/ToyasCard.lean, 'card_holds'). Laid BY PROGRAM, IN A SANDBOX (cutbox-door.mjs). By AI agents, Wed Nov 11 2026. No macro, syntax, notation, axiom, sorry.
-/
import Derived.Test.YtdbogbiklabmkaaDoorRows
import GoSem.ClaimSeven
namespace Go.Proofs.YtdbogbiklabmkaaDoor
namespace Rows

/-- THE TIED CARD OF 'dryrotlaw06.StripeOne'. -/
def stripeOneCard : Claim7 := { stood := { row := stripeOneRow, standIns := [], harness := (true, "55007829eaee1a8410e49f8ff302a65cdd7f30cc1615832e137db09ba11c61b8"), looks := false }, kinds := [], alts := [], laidByText := true, laidKinds := [.data], laidTests := true, laidLooks := .later }
def StripeOneCardSaid : Prop := Claim7.holds Tryd.pinned (.plain (OpenSpec.ofChange stripeOneSpec)) stripeOneCard

/-- THE SECOND FORM's CARD OF 'dryrotlaw06.StripeOne'. -/
def stripeOneUptoCard : Claim7 := { stood := { row := stripeOneUptoRow, standIns := [], harness := (true, "55007829eaee1a8410e49f8ff302a65cdd7f30cc1615832e137db09ba11c61b8"), looks := false }, kinds := [], alts := [], laidByText := true, laidKinds := [.data], laidTests := true, laidLooks := .later }
def StripeOneUptoCardSaid : Prop := Claim7.holds Tryd.pinned (.plain (OpenSpec.upto stripeOneSpec)) stripeOneUptoCard
end Rows
end Go.Proofs.YtdbogbiklabmkaaDoor
