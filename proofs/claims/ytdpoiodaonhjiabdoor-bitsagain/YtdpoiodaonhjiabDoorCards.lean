/-
  DERIVED. GIVEN WITH THE SEED: THE CARDS: each row of YtdpoiodaonhjiabDoorRows.lean that lists a variable, with what it lists TIED to the program's text (the seventh form; the later family's looks); each row that meets fmt, with fmt's text TOLD by the authors' own Lean function (tested against real Go, not proved from fmt's source: count such statements apart). THE CARD IS WHAT COUNTS. Prove the row's statement (the work); the ties are given (YtdpoiodaonhjiabDoorTie.lean); close each card by the builder's one call (the guide's Derived/Test/ToyasCard.lean, 'card_holds'). Laid BY PROGRAM, IN A SANDBOX (cutbox-door.mjs). By AI agents, Wed Nov 11 2026. No macro, syntax, notation, axiom, sorry.
-/
import Derived.Test.YtdpoiodaonhjiabDoorRows
import GoSem.ClaimSeven
namespace Go.Proofs.YtdpoiodaonhjiabDoor
namespace Rows

/-- THE TIED CARD OF 'dryrotlaw02.BitsTake'. -/
def bitsTakeCard : Claim7 := { stood := { row := bitsTakeRow, standIns := [], harness := (true, "f4d75ce09f579c4618d4f30ef0de060362007b986af4f3cba12ee3c7fbcb0e6d"), looks := false }, kinds := [], alts := [], laidByText := true, laidKinds := [.data], laidTests := true, laidLooks := .later }
def BitsTakeCardSaid : Prop := Claim7.holds Tryd.pinned (.plain (OpenSpec.ofChange bitsTakeSpec)) bitsTakeCard

/-- THE TIED CARD OF 'dryrotlaw02.BitsInts'. -/
def bitsIntsCard : Claim7 := { stood := { row := bitsIntsRow, standIns := [], harness := (true, "f4d75ce09f579c4618d4f30ef0de060362007b986af4f3cba12ee3c7fbcb0e6d"), looks := false }, kinds := [], alts := [], laidByText := true, laidKinds := [.data], laidTests := true, laidLooks := .later }
def BitsIntsCardSaid : Prop := Claim7.holds Tryd.pinned (.plain (OpenSpec.ofChange bitsIntsSpec)) bitsIntsCard

/-- THE TIED CARD OF 'dryrotlaw02.BitsBack'. -/
def bitsBackCard : Claim7 := { stood := { row := bitsBackRow, standIns := [], harness := (true, "f4d75ce09f579c4618d4f30ef0de060362007b986af4f3cba12ee3c7fbcb0e6d"), looks := false }, kinds := [], alts := [], laidByText := true, laidKinds := [.data], laidTests := true, laidLooks := .later }
def BitsBackCardSaid : Prop := Claim7.holds Tryd.pinned (.plain (OpenSpec.ofChange bitsBackSpec)) bitsBackCard

/-- THE TIED CARD OF 'dryrotlaw02.BitsAgain'. -/
def bitsAgainCard : Claim7 := { stood := { row := bitsAgainRow, standIns := [], harness := (true, "f4d75ce09f579c4618d4f30ef0de060362007b986af4f3cba12ee3c7fbcb0e6d"), looks := false }, kinds := [], alts := [], laidByText := true, laidKinds := [.data], laidTests := true, laidLooks := .later }
def BitsAgainCardSaid : Prop := Claim7.holds Tryd.pinned (.plain (OpenSpec.ofChange bitsAgainSpec)) bitsAgainCard

/-- THE SECOND FORM's CARD OF 'dryrotlaw02.BitsTake'. -/
def bitsTakeUptoCard : Claim7 := { stood := { row := bitsTakeUptoRow, standIns := [], harness := (true, "f4d75ce09f579c4618d4f30ef0de060362007b986af4f3cba12ee3c7fbcb0e6d"), looks := false }, kinds := [], alts := [], laidByText := true, laidKinds := [.data], laidTests := true, laidLooks := .later }
def BitsTakeUptoCardSaid : Prop := Claim7.holds Tryd.pinned (.plain (OpenSpec.upto bitsTakeSpec)) bitsTakeUptoCard

/-- THE SECOND FORM's CARD OF 'dryrotlaw02.BitsInts'. -/
def bitsIntsUptoCard : Claim7 := { stood := { row := bitsIntsUptoRow, standIns := [], harness := (true, "f4d75ce09f579c4618d4f30ef0de060362007b986af4f3cba12ee3c7fbcb0e6d"), looks := false }, kinds := [], alts := [], laidByText := true, laidKinds := [.data], laidTests := true, laidLooks := .later }
def BitsIntsUptoCardSaid : Prop := Claim7.holds Tryd.pinned (.plain (OpenSpec.upto bitsIntsSpec)) bitsIntsUptoCard

/-- THE SECOND FORM's CARD OF 'dryrotlaw02.BitsBack'. -/
def bitsBackUptoCard : Claim7 := { stood := { row := bitsBackUptoRow, standIns := [], harness := (true, "f4d75ce09f579c4618d4f30ef0de060362007b986af4f3cba12ee3c7fbcb0e6d"), looks := false }, kinds := [], alts := [], laidByText := true, laidKinds := [.data], laidTests := true, laidLooks := .later }
def BitsBackUptoCardSaid : Prop := Claim7.holds Tryd.pinned (.plain (OpenSpec.upto bitsBackSpec)) bitsBackUptoCard

/-- THE SECOND FORM's CARD OF 'dryrotlaw02.BitsAgain'. -/
def bitsAgainUptoCard : Claim7 := { stood := { row := bitsAgainUptoRow, standIns := [], harness := (true, "f4d75ce09f579c4618d4f30ef0de060362007b986af4f3cba12ee3c7fbcb0e6d"), looks := false }, kinds := [], alts := [], laidByText := true, laidKinds := [.data], laidTests := true, laidLooks := .later }
def BitsAgainUptoCardSaid : Prop := Claim7.holds Tryd.pinned (.plain (OpenSpec.upto bitsAgainSpec)) bitsAgainUptoCard
end Rows
end Go.Proofs.YtdpoiodaonhjiabDoor
