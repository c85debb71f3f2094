/-
  DERIVED. GIVEN WITH THE SEED: THE CARDS: each row of YtnpnldibhcncaabDoorRows.lean that lists a variable, with what it lists TIED to the program's text (the seventh form; the later family's looks); each row that meets fmt, with fmt's text TOLD by the authors' own Lean function (tested against real Go, not proved from fmt's source: count such statements apart). THE CARD IS WHAT COUNTS. Prove the row's statement (the work); the ties are given (YtnpnldibhcncaabDoorTie.lean); close each card by the builder's one call (the guide's Derived/Test/ToyasCard.lean, 'card_holds'). Laid BY PROGRAM, IN A SANDBOX (cutbox-door.mjs). By AI agents, Wed Nov 11 2026. No macro, syntax, notation, axiom, sorry.
-/
import Derived.Test.YtnpnldibhcncaabDoorRows
import GoSem.ClaimSeven
namespace Go.Proofs.YtnpnldibhcncaabDoor
namespace Rows

/-- THE TIED CARD OF 'dryrotlaw04.ExtentFrames'. -/
def extentFramesCard : Claim7 := { stood := { row := extentFramesRow, standIns := [], harness := (true, "c15d93af4bfd57f48bcd33f7233b7db5264a792e92e8b668e3bae9f4b33ac0cf"), looks := false }, kinds := [], alts := [], laidByText := true, laidKinds := [.data], laidTests := true, laidLooks := .later }
def ExtentFramesCardSaid : Prop := Claim7.holds Tryd.pinned (.plain (OpenSpec.ofChange extentFramesSpec)) extentFramesCard

/-- THE TIED CARD OF 'dryrotlaw04.ExtentOpens'. -/
def extentOpensCard : Claim7 := { stood := { row := extentOpensRow, standIns := [], harness := (true, "c15d93af4bfd57f48bcd33f7233b7db5264a792e92e8b668e3bae9f4b33ac0cf"), looks := false }, kinds := [], alts := [], laidByText := true, laidKinds := [.data], laidTests := true, laidLooks := .later }
def ExtentOpensCardSaid : Prop := Claim7.holds Tryd.pinned (.plain (OpenSpec.ofChange extentOpensSpec)) extentOpensCard

/-- THE TIED CARD OF 'dryrotlaw04.ExtentBack'. -/
def extentBackCard : Claim7 := { stood := { row := extentBackRow, standIns := [], harness := (true, "c15d93af4bfd57f48bcd33f7233b7db5264a792e92e8b668e3bae9f4b33ac0cf"), looks := false }, kinds := [], alts := [], laidByText := true, laidKinds := [.data], laidTests := true, laidLooks := .later }
def ExtentBackCardSaid : Prop := Claim7.holds Tryd.pinned (.plain (OpenSpec.ofChange extentBackSpec)) extentBackCard

/-- THE TIED CARD OF 'dryrotlaw04.ExtentTurned'. -/
def extentTurnedCard : Claim7 := { stood := { row := extentTurnedRow, standIns := [], harness := (true, "c15d93af4bfd57f48bcd33f7233b7db5264a792e92e8b668e3bae9f4b33ac0cf"), looks := false }, kinds := [], alts := [], laidByText := true, laidKinds := [.data], laidTests := true, laidLooks := .later }
def ExtentTurnedCardSaid : Prop := Claim7.holds Tryd.pinned (.plain (OpenSpec.ofChange extentTurnedSpec)) extentTurnedCard

/-- THE SECOND FORM's CARD OF 'dryrotlaw04.ExtentFrames'. -/
def extentFramesUptoCard : Claim7 := { stood := { row := extentFramesUptoRow, standIns := [], harness := (true, "c15d93af4bfd57f48bcd33f7233b7db5264a792e92e8b668e3bae9f4b33ac0cf"), looks := false }, kinds := [], alts := [], laidByText := true, laidKinds := [.data], laidTests := true, laidLooks := .later }
def ExtentFramesUptoCardSaid : Prop := Claim7.holds Tryd.pinned (.plain (OpenSpec.upto extentFramesSpec)) extentFramesUptoCard

/-- THE SECOND FORM's CARD OF 'dryrotlaw04.ExtentOpens'. -/
def extentOpensUptoCard : Claim7 := { stood := { row := extentOpensUptoRow, standIns := [], harness := (true, "c15d93af4bfd57f48bcd33f7233b7db5264a792e92e8b668e3bae9f4b33ac0cf"), looks := false }, kinds := [], alts := [], laidByText := true, laidKinds := [.data], laidTests := true, laidLooks := .later }
def ExtentOpensUptoCardSaid : Prop := Claim7.holds Tryd.pinned (.plain (OpenSpec.upto extentOpensSpec)) extentOpensUptoCard

/-- THE SECOND FORM's CARD OF 'dryrotlaw04.ExtentBack'. -/
def extentBackUptoCard : Claim7 := { stood := { row := extentBackUptoRow, standIns := [], harness := (true, "c15d93af4bfd57f48bcd33f7233b7db5264a792e92e8b668e3bae9f4b33ac0cf"), looks := false }, kinds := [], alts := [], laidByText := true, laidKinds := [.data], laidTests := true, laidLooks := .later }
def ExtentBackUptoCardSaid : Prop := Claim7.holds Tryd.pinned (.plain (OpenSpec.upto extentBackSpec)) extentBackUptoCard

/-- THE SECOND FORM's CARD OF 'dryrotlaw04.ExtentTurned'. -/
def extentTurnedUptoCard : Claim7 := { stood := { row := extentTurnedUptoRow, standIns := [], harness := (true, "c15d93af4bfd57f48bcd33f7233b7db5264a792e92e8b668e3bae9f4b33ac0cf"), looks := false }, kinds := [], alts := [], laidByText := true, laidKinds := [.data], laidTests := true, laidLooks := .later }
def ExtentTurnedUptoCardSaid : Prop := Claim7.holds Tryd.pinned (.plain (OpenSpec.upto extentTurnedSpec)) extentTurnedUptoCard
end Rows
end Go.Proofs.YtnpnldibhcncaabDoor
