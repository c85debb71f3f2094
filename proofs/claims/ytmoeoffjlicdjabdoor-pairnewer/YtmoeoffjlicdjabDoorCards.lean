/-
  DERIVED. GIVEN WITH THE SEED: THE CARDS: each row of YtmoeoffjlicdjabDoorRows.lean that lists a variable, with what it lists TIED to the program's text (the seventh form; the later family's looks); each row that meets fmt, with fmt's text TOLD by the authors' own Lean function (tested against real Go, not proved from fmt's source: count such statements apart). THE CARD IS WHAT COUNTS. Prove the row's statement (the work); the ties are given (YtmoeoffjlicdjabDoorTie.lean); close each card by the builder's one call (the guide's Derived/Test/ToyasCard.lean, 'card_holds'). Laid BY PROGRAM, IN A SANDBOX (cutbox-door.mjs). By AI agents, Wed Nov 11 2026. No macro, syntax, notation, axiom, sorry.
-/
import Derived.Test.YtmoeoffjlicdjabDoorRows
import GoSem.ClaimSeven
namespace Go.Proofs.YtmoeoffjlicdjabDoor
namespace Rows

/-- THE TIED CARD OF 'dryrotlaw05.PairNeeds'. -/
def pairNeedsCard : Claim7 := { stood := { row := pairNeedsRow, standIns := [], harness := (true, "7ba15252653ee3edb42374bc4d44953611180bcf350eae7fd59db20ca00c4134"), looks := false }, kinds := [], alts := [], laidByText := true, laidKinds := [.data], laidTests := true, laidLooks := .later }
def PairNeedsCardSaid : Prop := Claim7.holds Tryd.pinned (.plain (OpenSpec.ofChange pairNeedsSpec)) pairNeedsCard

/-- THE TIED CARD OF 'dryrotlaw05.PairHalf'. -/
def pairHalfCard : Claim7 := { stood := { row := pairHalfRow, standIns := [], harness := (true, "7ba15252653ee3edb42374bc4d44953611180bcf350eae7fd59db20ca00c4134"), looks := false }, kinds := [], alts := [], laidByText := true, laidKinds := [.data], laidTests := true, laidLooks := .later }
def PairHalfCardSaid : Prop := Claim7.holds Tryd.pinned (.plain (OpenSpec.ofChange pairHalfSpec)) pairHalfCard

/-- THE TIED CARD OF 'dryrotlaw05.PairNewer'. -/
def pairNewerCard : Claim7 := { stood := { row := pairNewerRow, standIns := [], harness := (true, "7ba15252653ee3edb42374bc4d44953611180bcf350eae7fd59db20ca00c4134"), looks := false }, kinds := [], alts := [], laidByText := true, laidKinds := [.data], laidTests := true, laidLooks := .later }
def PairNewerCardSaid : Prop := Claim7.holds Tryd.pinned (.plain (OpenSpec.ofChange pairNewerSpec)) pairNewerCard

/-- THE SECOND FORM's CARD OF 'dryrotlaw05.PairNeeds'. -/
def pairNeedsUptoCard : Claim7 := { stood := { row := pairNeedsUptoRow, standIns := [], harness := (true, "7ba15252653ee3edb42374bc4d44953611180bcf350eae7fd59db20ca00c4134"), looks := false }, kinds := [], alts := [], laidByText := true, laidKinds := [.data], laidTests := true, laidLooks := .later }
def PairNeedsUptoCardSaid : Prop := Claim7.holds Tryd.pinned (.plain (OpenSpec.upto pairNeedsSpec)) pairNeedsUptoCard

/-- THE SECOND FORM's CARD OF 'dryrotlaw05.PairHalf'. -/
def pairHalfUptoCard : Claim7 := { stood := { row := pairHalfUptoRow, standIns := [], harness := (true, "7ba15252653ee3edb42374bc4d44953611180bcf350eae7fd59db20ca00c4134"), looks := false }, kinds := [], alts := [], laidByText := true, laidKinds := [.data], laidTests := true, laidLooks := .later }
def PairHalfUptoCardSaid : Prop := Claim7.holds Tryd.pinned (.plain (OpenSpec.upto pairHalfSpec)) pairHalfUptoCard

/-- THE SECOND FORM's CARD OF 'dryrotlaw05.PairNewer'. -/
def pairNewerUptoCard : Claim7 := { stood := { row := pairNewerUptoRow, standIns := [], harness := (true, "7ba15252653ee3edb42374bc4d44953611180bcf350eae7fd59db20ca00c4134"), looks := false }, kinds := [], alts := [], laidByText := true, laidKinds := [.data], laidTests := true, laidLooks := .later }
def PairNewerUptoCardSaid : Prop := Claim7.holds Tryd.pinned (.plain (OpenSpec.upto pairNewerSpec)) pairNewerUptoCard
end Rows
end Go.Proofs.YtmoeoffjlicdjabDoor
