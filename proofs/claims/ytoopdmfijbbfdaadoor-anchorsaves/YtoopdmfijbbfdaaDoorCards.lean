/-
  DERIVED. GIVEN WITH THE SEED: THE CARDS: each row of YtoopdmfijbbfdaaDoorRows.lean that lists a variable, with what it lists TIED to the program's text (the seventh form; the later family's looks); each row that meets fmt, with fmt's text TOLD by the authors' own Lean function (tested against real Go, not proved from fmt's source: count such statements apart). THE CARD IS WHAT COUNTS. Prove the row's statement (the work); the ties are given (YtoopdmfijbbfdaaDoorTie.lean); close each card by the builder's one call (the guide's Derived/Test/ToyasCard.lean, 'card_holds'). Laid BY PROGRAM, IN A SANDBOX (cutbox-door.mjs). By AI agents, Wed Nov 11 2026. No macro, syntax, notation, axiom, sorry.
-/
import Derived.Test.YtoopdmfijbbfdaaDoorRows
import GoSem.ClaimSeven
namespace Go.Proofs.YtoopdmfijbbfdaaDoor
namespace Rows

/-- THE TIED CARD OF 'dryrotlaw17.AnchorBytes'. -/
def anchorBytesCard : Claim7 := { stood := { row := anchorBytesRow, standIns := [], harness := (true, "6093cba2828c9755b0df9cde6731b73b96a66bab8d736d01e0a2ab47af9e710d"), looks := false }, kinds := [], alts := [], laidByText := true, laidKinds := [.data], laidTests := true, laidLooks := .later }
def AnchorBytesCardSaid : Prop := Claim7.holds Tryd.pinned (.plain (OpenSpec.ofChange anchorBytesSpec)) anchorBytesCard

/-- THE TIED CARD OF 'dryrotlaw17.AnchorBack'. -/
def anchorBackCard : Claim7 := { stood := { row := anchorBackRow, standIns := [], harness := (true, "6093cba2828c9755b0df9cde6731b73b96a66bab8d736d01e0a2ab47af9e710d"), looks := false }, kinds := [], alts := [], laidByText := true, laidKinds := [.data], laidTests := true, laidLooks := .later }
def AnchorBackCardSaid : Prop := Claim7.holds Tryd.pinned (.plain (OpenSpec.ofChange anchorBackSpec)) anchorBackCard

/-- THE TIED CARD OF 'dryrotlaw17.AnchorNames'. -/
def anchorNamesCard : Claim7 := { stood := { row := anchorNamesRow, standIns := [], harness := (true, "6093cba2828c9755b0df9cde6731b73b96a66bab8d736d01e0a2ab47af9e710d"), looks := false }, kinds := [], alts := [], laidByText := true, laidKinds := [.data, .data, .data, .data], laidTests := true, laidLooks := .later }
def AnchorNamesCardSaid : Prop := Claim7.holds Tryd.pinned (.plain (OpenSpec.ofChange anchorNamesSpec)) anchorNamesCard

/-- THE TIED CARD OF 'dryrotlaw17.AnchorSaves'. -/
def anchorSavesCard : Claim7 := { stood := { row := anchorSavesRow, standIns := [], harness := (true, "6093cba2828c9755b0df9cde6731b73b96a66bab8d736d01e0a2ab47af9e710d"), looks := false }, kinds := [], alts := [], laidByText := true, laidKinds := [.data], laidTests := true, laidLooks := .later }
def AnchorSavesCardSaid : Prop := Claim7.holds Tryd.pinned (.plain (OpenSpec.ofChange anchorSavesSpec)) anchorSavesCard

/-- THE TIED CARD OF 'dryrotlaw17.AnchorNobody'. -/
def anchorNobodyCard : Claim7 := { stood := { row := anchorNobodyRow, standIns := [], harness := (true, "6093cba2828c9755b0df9cde6731b73b96a66bab8d736d01e0a2ab47af9e710d"), looks := false }, kinds := [], alts := [], laidByText := true, laidKinds := [.data], laidTests := true, laidLooks := .later }
def AnchorNobodyCardSaid : Prop := Claim7.holds Tryd.pinned (.plain (OpenSpec.ofChange anchorNobodySpec)) anchorNobodyCard

/-- THE SECOND FORM's CARD OF 'dryrotlaw17.AnchorBytes'. -/
def anchorBytesUptoCard : Claim7 := { stood := { row := anchorBytesUptoRow, standIns := [], harness := (true, "6093cba2828c9755b0df9cde6731b73b96a66bab8d736d01e0a2ab47af9e710d"), looks := false }, kinds := [], alts := [], laidByText := true, laidKinds := [.data], laidTests := true, laidLooks := .later }
def AnchorBytesUptoCardSaid : Prop := Claim7.holds Tryd.pinned (.plain (OpenSpec.upto anchorBytesSpec)) anchorBytesUptoCard

/-- THE SECOND FORM's CARD OF 'dryrotlaw17.AnchorBack'. -/
def anchorBackUptoCard : Claim7 := { stood := { row := anchorBackUptoRow, standIns := [], harness := (true, "6093cba2828c9755b0df9cde6731b73b96a66bab8d736d01e0a2ab47af9e710d"), looks := false }, kinds := [], alts := [], laidByText := true, laidKinds := [.data], laidTests := true, laidLooks := .later }
def AnchorBackUptoCardSaid : Prop := Claim7.holds Tryd.pinned (.plain (OpenSpec.upto anchorBackSpec)) anchorBackUptoCard

/-- THE SECOND FORM's CARD OF 'dryrotlaw17.AnchorNames'. -/
def anchorNamesUptoCard : Claim7 := { stood := { row := anchorNamesUptoRow, standIns := [], harness := (true, "6093cba2828c9755b0df9cde6731b73b96a66bab8d736d01e0a2ab47af9e710d"), looks := false }, kinds := [], alts := [], laidByText := true, laidKinds := [.data, .data, .data, .data], laidTests := true, laidLooks := .later }
def AnchorNamesUptoCardSaid : Prop := Claim7.holds Tryd.pinned (.plain (OpenSpec.upto anchorNamesSpec)) anchorNamesUptoCard

/-- THE SECOND FORM's CARD OF 'dryrotlaw17.AnchorSaves'. -/
def anchorSavesUptoCard : Claim7 := { stood := { row := anchorSavesUptoRow, standIns := [], harness := (true, "6093cba2828c9755b0df9cde6731b73b96a66bab8d736d01e0a2ab47af9e710d"), looks := false }, kinds := [], alts := [], laidByText := true, laidKinds := [.data], laidTests := true, laidLooks := .later }
def AnchorSavesUptoCardSaid : Prop := Claim7.holds Tryd.pinned (.plain (OpenSpec.upto anchorSavesSpec)) anchorSavesUptoCard

/-- THE SECOND FORM's CARD OF 'dryrotlaw17.AnchorNobody'. -/
def anchorNobodyUptoCard : Claim7 := { stood := { row := anchorNobodyUptoRow, standIns := [], harness := (true, "6093cba2828c9755b0df9cde6731b73b96a66bab8d736d01e0a2ab47af9e710d"), looks := false }, kinds := [], alts := [], laidByText := true, laidKinds := [.data], laidTests := true, laidLooks := .later }
def AnchorNobodyUptoCardSaid : Prop := Claim7.holds Tryd.pinned (.plain (OpenSpec.upto anchorNobodySpec)) anchorNobodyUptoCard
end Rows
end Go.Proofs.YtoopdmfijbbfdaaDoor
