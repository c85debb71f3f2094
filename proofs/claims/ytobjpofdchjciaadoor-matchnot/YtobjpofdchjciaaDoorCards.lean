/-
  DERIVED. GIVEN WITH THE SEED: THE CARDS: each row of YtobjpofdchjciaaDoorRows.lean that lists a variable, with what it lists TIED to the program's text (the seventh form; the later family's looks); each row that meets fmt, with fmt's text TOLD by the authors' own Lean function (tested against real Go, not proved from fmt's source: count such statements apart). THE CARD IS WHAT COUNTS. Prove the row's statement (the work); the ties are given (YtobjpofdchjciaaDoorTie.lean); close each card by the builder's one call (the guide's Derived/Test/ToyasCard.lean, 'card_holds'). Laid BY PROGRAM, IN A SANDBOX (cutbox-door.mjs). By AI agents, Wed Nov 11 2026. No macro, syntax, notation, axiom, sorry.
-/
import Derived.Test.YtobjpofdchjciaaDoorRows
import GoSem.ClaimSeven
namespace Go.Proofs.YtobjpofdchjciaaDoor
namespace Rows

/-- THE TIED CARD OF 'dryrotlaw09.MatchNot'. -/
def matchNotCard : Claim7 := { stood := { row := matchNotRow, standIns := [], harness := (true, "1156e5a80ecca3eb84e24f734bd767688eec4ffb7d563362a0227df8dbc08f8b"), looks := false }, kinds := [], alts := [], laidByText := true, laidKinds := [.data], laidTests := true, laidLooks := .later }
def MatchNotCardSaid : Prop := Claim7.holds Tryd.pinned (.plain (OpenSpec.ofChange matchNotSpec)) matchNotCard

/-- THE TIED CARD OF 'dryrotlaw09.MatchOwn'. -/
def matchOwnCard : Claim7 := { stood := { row := matchOwnRow, standIns := [], harness := (true, "1156e5a80ecca3eb84e24f734bd767688eec4ffb7d563362a0227df8dbc08f8b"), looks := false }, kinds := [], alts := [], laidByText := true, laidKinds := [.data], laidTests := true, laidLooks := .later }
def MatchOwnCardSaid : Prop := Claim7.holds Tryd.pinned (.plain (OpenSpec.ofChange matchOwnSpec)) matchOwnCard

/-- THE TIED CARD OF 'dryrotlaw09.MatchEmpty'. -/
def matchEmptyCard : Claim7 := { stood := { row := matchEmptyRow, standIns := [], harness := (true, "1156e5a80ecca3eb84e24f734bd767688eec4ffb7d563362a0227df8dbc08f8b"), looks := false }, kinds := [], alts := [], laidByText := true, laidKinds := [.data], laidTests := true, laidLooks := .later }
def MatchEmptyCardSaid : Prop := Claim7.holds Tryd.pinned (.plain (OpenSpec.ofChange matchEmptySpec)) matchEmptyCard

/-- THE SECOND FORM's CARD OF 'dryrotlaw09.MatchNot'. -/
def matchNotUptoCard : Claim7 := { stood := { row := matchNotUptoRow, standIns := [], harness := (true, "1156e5a80ecca3eb84e24f734bd767688eec4ffb7d563362a0227df8dbc08f8b"), looks := false }, kinds := [], alts := [], laidByText := true, laidKinds := [.data], laidTests := true, laidLooks := .later }
def MatchNotUptoCardSaid : Prop := Claim7.holds Tryd.pinned (.plain (OpenSpec.upto matchNotSpec)) matchNotUptoCard

/-- THE SECOND FORM's CARD OF 'dryrotlaw09.MatchOwn'. -/
def matchOwnUptoCard : Claim7 := { stood := { row := matchOwnUptoRow, standIns := [], harness := (true, "1156e5a80ecca3eb84e24f734bd767688eec4ffb7d563362a0227df8dbc08f8b"), looks := false }, kinds := [], alts := [], laidByText := true, laidKinds := [.data], laidTests := true, laidLooks := .later }
def MatchOwnUptoCardSaid : Prop := Claim7.holds Tryd.pinned (.plain (OpenSpec.upto matchOwnSpec)) matchOwnUptoCard

/-- THE SECOND FORM's CARD OF 'dryrotlaw09.MatchEmpty'. -/
def matchEmptyUptoCard : Claim7 := { stood := { row := matchEmptyUptoRow, standIns := [], harness := (true, "1156e5a80ecca3eb84e24f734bd767688eec4ffb7d563362a0227df8dbc08f8b"), looks := false }, kinds := [], alts := [], laidByText := true, laidKinds := [.data], laidTests := true, laidLooks := .later }
def MatchEmptyUptoCardSaid : Prop := Claim7.holds Tryd.pinned (.plain (OpenSpec.upto matchEmptySpec)) matchEmptyUptoCard
end Rows
end Go.Proofs.YtobjpofdchjciaaDoor
