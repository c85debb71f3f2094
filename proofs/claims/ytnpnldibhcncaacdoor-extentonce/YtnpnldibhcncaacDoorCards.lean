/-
  DERIVED. GIVEN WITH THE SEED: THE CARDS: each row of YtnpnldibhcncaacDoorRows.lean that lists a variable, with what it lists TIED to the program's text (the seventh form; the later family's looks); each row that meets fmt, with fmt's text TOLD by the authors' own Lean function (tested against real Go, not proved from fmt's source: count such statements apart). THE CARD IS WHAT COUNTS. Prove the row's statement (the work); the ties are given (YtnpnldibhcncaacDoorTie.lean); close each card by the builder's one call (the guide's Derived/Test/ToyasCard.lean, 'card_holds'). Laid BY PROGRAM, IN A SANDBOX (cutbox-door.mjs). By AI agents, Wed Nov 11 2026. No macro, syntax, notation, axiom, sorry.
-/
import Derived.Test.YtnpnldibhcncaacDoorRows
import GoSem.ClaimSeven
namespace Go.Proofs.YtnpnldibhcncaacDoor
namespace Rows

/-- THE TIED CARD OF 'dryrotlaw04.ExtentOnce'. -/
def extentOnceCard : Claim7 := { stood := { row := extentOnceRow, standIns := [], harness := (true, "d71e3a35b6dfa8dd5652c2c8c8dd2a27b09b6b9030236011e5898d5dc10931c4"), looks := false }, kinds := [], alts := [], laidByText := true, laidKinds := [.data], laidTests := true, laidLooks := .later }
def ExtentOnceCardSaid : Prop := Claim7.holds Tryd.pinned (.plain (OpenSpec.ofChange extentOnceSpec)) extentOnceCard

/-- THE SECOND FORM's CARD OF 'dryrotlaw04.ExtentOnce'. -/
def extentOnceUptoCard : Claim7 := { stood := { row := extentOnceUptoRow, standIns := [], harness := (true, "d71e3a35b6dfa8dd5652c2c8c8dd2a27b09b6b9030236011e5898d5dc10931c4"), looks := false }, kinds := [], alts := [], laidByText := true, laidKinds := [.data], laidTests := true, laidLooks := .later }
def ExtentOnceUptoCardSaid : Prop := Claim7.holds Tryd.pinned (.plain (OpenSpec.upto extentOnceSpec)) extentOnceUptoCard
end Rows
end Go.Proofs.YtnpnldibhcncaacDoor
