/-
  DERIVED. GIVEN WITH THE SEED: THE CARDS: each row of YtplielcjfmomlaaDoorRows.lean that lists a variable, with what it lists TIED to the program's text (the seventh form; the later family's looks); each row that meets fmt, with fmt's text TOLD by the authors' own Lean function (tested against real Go, not proved from fmt's source: count such statements apart). THE CARD IS WHAT COUNTS. Prove the row's statement (the work); the ties are given (YtplielcjfmomlaaDoorTie.lean); close each card by the builder's one call (the guide's Derived/Test/ToyasCard.lean, 'card_holds'). Laid BY PROGRAM, IN A SANDBOX (cutbox-door.mjs). By AI agents, Wed Nov 11 2026. No macro, syntax, notation, axiom, sorry.
-/
import Derived.Test.YtplielcjfmomlaaDoorRows
import GoSem.ClaimSeven
namespace Go.Proofs.YtplielcjfmomlaaDoor
namespace Rows

/-- THE TIED CARD OF 'dryrotlaw18.WalNeeds'. -/
def walNeedsCard : Claim7 := { stood := { row := walNeedsRow, standIns := [], harness := (true, "3553181d551702a647d8548f03f372d2045ac42d374f8431210b1658ea48f287"), looks := false }, kinds := [], alts := [], laidByText := true, laidKinds := [.data, .data, .data, .data], laidTests := true, laidLooks := .later }
def WalNeedsCardSaid : Prop := Claim7.holds Tryd.pinned (.plain (OpenSpec.ofChange walNeedsSpec)) walNeedsCard

/-- THE TIED CARD OF 'dryrotlaw18.WalBack'. -/
def walBackCard : Claim7 := { stood := { row := walBackRow, standIns := [], harness := (true, "3553181d551702a647d8548f03f372d2045ac42d374f8431210b1658ea48f287"), looks := false }, kinds := [], alts := [], laidByText := true, laidKinds := [.data, .data, .data, .data], laidTests := true, laidLooks := .later }
def WalBackCardSaid : Prop := Claim7.holds Tryd.pinned (.plain (OpenSpec.ofChange walBackSpec)) walBackCard

/-- THE TIED CARD OF 'dryrotlaw18.WalStays'. -/
def walStaysCard : Claim7 := { stood := { row := walStaysRow, standIns := [], harness := (true, "3553181d551702a647d8548f03f372d2045ac42d374f8431210b1658ea48f287"), looks := false }, kinds := [], alts := [], laidByText := true, laidKinds := [.data, .data, .data, .data], laidTests := true, laidLooks := .later }
def WalStaysCardSaid : Prop := Claim7.holds Tryd.pinned (.plain (OpenSpec.ofChange walStaysSpec)) walStaysCard

/-- THE TIED CARD OF 'dryrotlaw18.WalCuts'. -/
def walCutsCard : Claim7 := { stood := { row := walCutsRow, standIns := [], harness := (true, "3553181d551702a647d8548f03f372d2045ac42d374f8431210b1658ea48f287"), looks := false }, kinds := [], alts := [], laidByText := true, laidKinds := [.data, .data, .data, .data], laidTests := true, laidLooks := .later }
def WalCutsCardSaid : Prop := Claim7.holds Tryd.pinned (.plain (OpenSpec.ofChange walCutsSpec)) walCutsCard

/-- THE TIED CARD OF 'dryrotlaw18.WalNobody'. -/
def walNobodyCard : Claim7 := { stood := { row := walNobodyRow, standIns := [], harness := (true, "3553181d551702a647d8548f03f372d2045ac42d374f8431210b1658ea48f287"), looks := false }, kinds := [], alts := [], laidByText := true, laidKinds := [.data, .data, .data, .data], laidTests := true, laidLooks := .later }
def WalNobodyCardSaid : Prop := Claim7.holds Tryd.pinned (.plain (OpenSpec.ofChange walNobodySpec)) walNobodyCard

/-- THE SECOND FORM's CARD OF 'dryrotlaw18.WalNeeds'. -/
def walNeedsUptoCard : Claim7 := { stood := { row := walNeedsUptoRow, standIns := [], harness := (true, "3553181d551702a647d8548f03f372d2045ac42d374f8431210b1658ea48f287"), looks := false }, kinds := [], alts := [], laidByText := true, laidKinds := [.data, .data, .data, .data], laidTests := true, laidLooks := .later }
def WalNeedsUptoCardSaid : Prop := Claim7.holds Tryd.pinned (.plain (OpenSpec.upto walNeedsSpec)) walNeedsUptoCard

/-- THE SECOND FORM's CARD OF 'dryrotlaw18.WalBack'. -/
def walBackUptoCard : Claim7 := { stood := { row := walBackUptoRow, standIns := [], harness := (true, "3553181d551702a647d8548f03f372d2045ac42d374f8431210b1658ea48f287"), looks := false }, kinds := [], alts := [], laidByText := true, laidKinds := [.data, .data, .data, .data], laidTests := true, laidLooks := .later }
def WalBackUptoCardSaid : Prop := Claim7.holds Tryd.pinned (.plain (OpenSpec.upto walBackSpec)) walBackUptoCard

/-- THE SECOND FORM's CARD OF 'dryrotlaw18.WalStays'. -/
def walStaysUptoCard : Claim7 := { stood := { row := walStaysUptoRow, standIns := [], harness := (true, "3553181d551702a647d8548f03f372d2045ac42d374f8431210b1658ea48f287"), looks := false }, kinds := [], alts := [], laidByText := true, laidKinds := [.data, .data, .data, .data], laidTests := true, laidLooks := .later }
def WalStaysUptoCardSaid : Prop := Claim7.holds Tryd.pinned (.plain (OpenSpec.upto walStaysSpec)) walStaysUptoCard

/-- THE SECOND FORM's CARD OF 'dryrotlaw18.WalCuts'. -/
def walCutsUptoCard : Claim7 := { stood := { row := walCutsUptoRow, standIns := [], harness := (true, "3553181d551702a647d8548f03f372d2045ac42d374f8431210b1658ea48f287"), looks := false }, kinds := [], alts := [], laidByText := true, laidKinds := [.data, .data, .data, .data], laidTests := true, laidLooks := .later }
def WalCutsUptoCardSaid : Prop := Claim7.holds Tryd.pinned (.plain (OpenSpec.upto walCutsSpec)) walCutsUptoCard

/-- THE SECOND FORM's CARD OF 'dryrotlaw18.WalNobody'. -/
def walNobodyUptoCard : Claim7 := { stood := { row := walNobodyUptoRow, standIns := [], harness := (true, "3553181d551702a647d8548f03f372d2045ac42d374f8431210b1658ea48f287"), looks := false }, kinds := [], alts := [], laidByText := true, laidKinds := [.data, .data, .data, .data], laidTests := true, laidLooks := .later }
def WalNobodyUptoCardSaid : Prop := Claim7.holds Tryd.pinned (.plain (OpenSpec.upto walNobodySpec)) walNobodyUptoCard
end Rows
end Go.Proofs.YtplielcjfmomlaaDoor
