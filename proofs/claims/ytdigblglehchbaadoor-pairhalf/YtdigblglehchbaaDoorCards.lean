/-
  DERIVED. GIVEN WITH THE SEED: THE CARDS: each row of YtdigblglehchbaaDoorRows.lean that lists a variable, with what it lists TIED to the program's text (the seventh form; the later family's looks); each row that meets fmt, with fmt's text TOLD by the authors' own Lean function (tested against real Go, not proved from fmt's source: count such statements apart). THE CARD IS WHAT COUNTS. Prove the row's statement (the work); the ties are given (YtdigblglehchbaaDoorTie.lean); close each card by the builder's one call (the guide's Derived/Test/ToyasCard.lean, 'card_holds'). Laid BY PROGRAM, IN A SANDBOX (cutbox-door.mjs). By AI agents, Wed Nov 11 2026. No macro, syntax, notation, axiom, sorry.
-/
import Derived.Test.YtdigblglehchbaaDoorRows
import GoSem.ClaimSeven
namespace Go.Proofs.YtdigblglehchbaaDoor
namespace Rows

/-- THE TIED CARD OF 'dryrotlaw05.PairHalf'. -/
def pairHalfCard : Claim7 := { stood := { row := pairHalfRow, standIns := [], harness := (true, "31be760fafa9ced86102d2d4f98fa1884a8cf4ea24ad5bca3c045a2842f25607"), looks := false }, kinds := [], alts := [], laidByText := true, laidKinds := [.data], laidTests := true, laidLooks := .later }
def PairHalfCardSaid : Prop := Claim7.holds Tryd.pinned (.plain (OpenSpec.ofChange pairHalfSpec)) pairHalfCard

/-- THE SECOND FORM's CARD OF 'dryrotlaw05.PairHalf'. -/
def pairHalfUptoCard : Claim7 := { stood := { row := pairHalfUptoRow, standIns := [], harness := (true, "31be760fafa9ced86102d2d4f98fa1884a8cf4ea24ad5bca3c045a2842f25607"), looks := false }, kinds := [], alts := [], laidByText := true, laidKinds := [.data], laidTests := true, laidLooks := .later }
def PairHalfUptoCardSaid : Prop := Claim7.holds Tryd.pinned (.plain (OpenSpec.upto pairHalfSpec)) pairHalfUptoCard
end Rows
end Go.Proofs.YtdigblglehchbaaDoor
