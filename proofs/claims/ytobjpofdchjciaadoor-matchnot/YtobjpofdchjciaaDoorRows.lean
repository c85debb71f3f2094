/-
  NARROWER THAN 'FOR EVERY INPUT', by the rows' own cells (each row's printed sentence says how): MatchNot: laid · MatchOwn: laid · MatchEmpty: laid.
  DERIVED. THE GIVEN ROWS OF THIS SEAT. 3 by the template 'for every input the law returns true; each argument reads behind the call as it read before'; 0 by the template 'total and deterministic' (their statements: YtobjpofdchjciaaDoorTotals.lean).
  GIVEN WITH THE SEED: the statements are not yours to turn. If you find one false, say at which input.
  Laid BY PROGRAM, IN A SANDBOX (cutbox-rows.mjs): the forced cells as the released guide's own fill.sh prints them over the translation 1786ba137eb362e1… (all of the seat's roots in one cut). By AI agents, Wed Nov 11 2026. No macro, syntax, notation, axiom, sorry.
-/
import Derived.Test.YtobjpofdchjciaaDoorChecked
import GoSem.Claim
import GoSem.ClaimJoined
import GoSem.ClaimMapViews
import Derived.JoinedTies
import Derived.KernelRfl
namespace Go.Proofs.YtobjpofdchjciaaDoor
/- THE CELL 'sum', in the pinned program and in every row, IS THE sha256 OF THE DUMP (.gsa) THAT YtobjpofdchjciaaDoorProg.lean LOADS. Nothing in Lean hashes anything: it is a label: what it is worth is what the hold of that sum in a sandbox is worth. -/
noncomputable def Tryd.pinned : Pinned := { name := "ytobjpofdchjciaadoor", sum := "1786ba137eb362e1ae1462d3d77a17df9d067bdcd5a76553f9cd406674505ae4", checked := Tryd.checked }
namespace Rows
def none {H : Type} : Left H := { results := [], args := [] }

/- WHAT THE LISTED PACKAGE-LEVEL VARIABLES READ AS WHEN THE CALL BEGINS. Each datum BY PROGRAM (the guide's laid-datum.mjs) off the statement by which the dump's own 'gosem.cut.vars' lays the variable. In a bare row this is a premise. The card (YtobjpofdchjciaaDoorCards.lean) ties it to the program's text. -/
def laid_dryrot_match_signs {H : Type} : DataW H := .agg [.lit (.string []), .lit (.string [61]), .lit (.string [33, 61]), .lit (.string [61, 126]), .lit (.string [33, 126])]

/-- 'dryrotlaw09.MatchNot': WHATEVER THE INPUT: true; the input reads as it did. -/
def matchNotSpec : ChangeSpec := { name := "matchNot", fn := fun _ => fun
  | [d1, d2, d3, d4] => { results := [.lit (.bool true)], args := [d1, d2, d3, d4] }
  | _ => none }
def matchNotRow : OpenClaim := { program := "ytobjpofdchjciaadoor", sum := "1786ba137eb362e1ae1462d3d77a17df9d067bdcd5a76553f9cd406674505ae4", func := "dryrot/dryrotlaw09.MatchNot", spec := "matchNot", inPlace := ["internal/bytealg.IndexByteString", "internal/bytealg.IndexString", "internal/abi.NoEscape"], recurses := true, named := ["dryrot/match.signs", "internal/bytealg.MaxLen"], apart := false, laid := [("dryrot/match.signs", laid_dryrot_match_signs)] }
def MatchNotSaid : Prop := matchNotRow.holds Tryd.pinned (OpenSpec.ofChange matchNotSpec)

/-- ITS FALSE NEIGHBOUR: 'it returns false'. Refute it at one input. -/
def matchNotWrong : ChangeSpec := { name := "matchNot", fn := fun _ => fun
  | [d1, d2, d3, d4] => { results := [.lit (.bool false)], args := [d1, d2, d3, d4] }
  | _ => none }
def MatchNotWrongFalsely : Prop := matchNotRow.holds Tryd.pinned (OpenSpec.ofChange matchNotWrong)

/-- 'dryrotlaw09.MatchOwn': WHATEVER THE INPUT: true; the input reads as it did. -/
def matchOwnSpec : ChangeSpec := { name := "matchOwn", fn := fun _ => fun
  | [d1, d2] => { results := [.lit (.bool true)], args := [d1, d2] }
  | _ => none }
def matchOwnRow : OpenClaim := { program := "ytobjpofdchjciaadoor", sum := "1786ba137eb362e1ae1462d3d77a17df9d067bdcd5a76553f9cd406674505ae4", func := "dryrot/dryrotlaw09.MatchOwn", spec := "matchOwn", inPlace := ["internal/bytealg.IndexByteString", "internal/bytealg.IndexString", "internal/abi.NoEscape"], recurses := true, named := ["dryrot/match.signs", "internal/bytealg.MaxLen"], apart := false, laid := [("dryrot/match.signs", laid_dryrot_match_signs)] }
def MatchOwnSaid : Prop := matchOwnRow.holds Tryd.pinned (OpenSpec.ofChange matchOwnSpec)

/-- ITS FALSE NEIGHBOUR: 'it returns false'. Refute it at one input. -/
def matchOwnWrong : ChangeSpec := { name := "matchOwn", fn := fun _ => fun
  | [d1, d2] => { results := [.lit (.bool false)], args := [d1, d2] }
  | _ => none }
def MatchOwnWrongFalsely : Prop := matchOwnRow.holds Tryd.pinned (OpenSpec.ofChange matchOwnWrong)

/-- 'dryrotlaw09.MatchEmpty': WHATEVER THE INPUT: true; the input reads as it did. -/
def matchEmptySpec : ChangeSpec := { name := "matchEmpty", fn := fun _ => fun
  | [d1, d2] => { results := [.lit (.bool true)], args := [d1, d2] }
  | _ => none }
def matchEmptyRow : OpenClaim := { program := "ytobjpofdchjciaadoor", sum := "1786ba137eb362e1ae1462d3d77a17df9d067bdcd5a76553f9cd406674505ae4", func := "dryrot/dryrotlaw09.MatchEmpty", spec := "matchEmpty", inPlace := ["internal/bytealg.IndexByteString", "internal/bytealg.IndexString", "internal/abi.NoEscape"], recurses := true, named := ["dryrot/match.signs", "internal/bytealg.MaxLen"], apart := false, laid := [("dryrot/match.signs", laid_dryrot_match_signs)] }
def MatchEmptySaid : Prop := matchEmptyRow.holds Tryd.pinned (OpenSpec.ofChange matchEmptySpec)

/-- ITS FALSE NEIGHBOUR: 'it returns false'. Refute it at one input. -/
def matchEmptyWrong : ChangeSpec := { name := "matchEmpty", fn := fun _ => fun
  | [d1, d2] => { results := [.lit (.bool false)], args := [d1, d2] }
  | _ => none }
def MatchEmptyWrongFalsely : Prop := matchEmptyRow.holds Tryd.pinned (OpenSpec.ofChange matchEmptyWrong)

/- THE SECOND FORM. 'bulk': how many values and letters a reading holds, each counted each time it is reached (what is shared counts as often as it is met; a slice's spare places count too). A statement '..UptoSaid' is the law's where the arguments, and the package variables that the reading takes, are together of bulk at most 1048576: NARROWER than '..Said'. Prove '..Said' where nothing that the law and all that it calls make is longer than what came in: it says more and counts as full. Else prove '..UptoSaid'. A law counts once. -/
mutual
def uptoBulk {H : Type} : DataW H → Nat
  | .lit (.string bytes) => bytes.length + 1
  | .lit _ => 1
  | .nil => 1
  | .ptr d => uptoBulk d + 1
  | .slice elems spare => uptoBulkAll elems + uptoBulkAll spare + 1
  | .agg parts => uptoBulkAll parts + 1
  | .iface _ d => uptoBulk d + 1
  | .map entries => uptoBulkEntries entries + 1
  | .held _ => 1
def uptoBulkAll {H : Type} : List (DataW H) → Nat
  | [] => 0
  | d :: r => uptoBulk d + uptoBulkAll r
def uptoBulkEntries {H : Type} : List (Lit × DataW H) → Nat
  | [] => 0
  | x :: r => uptoBulkEntry x + uptoBulkEntries r
def uptoBulkEntry {H : Type} : Lit × DataW H → Nat
  | (.string bytes, d) => bytes.length + uptoBulk d + 1
  | (_, d) => uptoBulk d + 1
 end
def uptoSmall : (H : Type) → List (DataW H) → Bool := fun _ ds => decide (uptoBulkAll ds ≤ 1048576)
def OpenSpec.upto (s : _root_.Go.ChangeSpec) : _root_.Go.OpenSpec := { _root_.Go.OpenSpec.ofChange s with cond := some uptoSmall }

/-- 'dryrotlaw09.MatchNot', WHERE WHAT IT READS IS OF BULK AT MOST 1048576: true; the input reads as it did. -/
def matchNotUptoRow : OpenClaim := { program := "ytobjpofdchjciaadoor", sum := "1786ba137eb362e1ae1462d3d77a17df9d067bdcd5a76553f9cd406674505ae4", func := "dryrot/dryrotlaw09.MatchNot", spec := "matchNot", inPlace := ["internal/bytealg.IndexByteString", "internal/bytealg.IndexString", "internal/abi.NoEscape"], recurses := true, named := ["dryrot/match.signs", "internal/bytealg.MaxLen"], apart := false, laid := [("dryrot/match.signs", laid_dryrot_match_signs)], narrowed := true }
def MatchNotUptoSaid : Prop := matchNotUptoRow.holds Tryd.pinned (OpenSpec.upto matchNotSpec)

/-- 'dryrotlaw09.MatchOwn', WHERE WHAT IT READS IS OF BULK AT MOST 1048576: true; the input reads as it did. -/
def matchOwnUptoRow : OpenClaim := { program := "ytobjpofdchjciaadoor", sum := "1786ba137eb362e1ae1462d3d77a17df9d067bdcd5a76553f9cd406674505ae4", func := "dryrot/dryrotlaw09.MatchOwn", spec := "matchOwn", inPlace := ["internal/bytealg.IndexByteString", "internal/bytealg.IndexString", "internal/abi.NoEscape"], recurses := true, named := ["dryrot/match.signs", "internal/bytealg.MaxLen"], apart := false, laid := [("dryrot/match.signs", laid_dryrot_match_signs)], narrowed := true }
def MatchOwnUptoSaid : Prop := matchOwnUptoRow.holds Tryd.pinned (OpenSpec.upto matchOwnSpec)

/-- 'dryrotlaw09.MatchEmpty', WHERE WHAT IT READS IS OF BULK AT MOST 1048576: true; the input reads as it did. -/
def matchEmptyUptoRow : OpenClaim := { program := "ytobjpofdchjciaadoor", sum := "1786ba137eb362e1ae1462d3d77a17df9d067bdcd5a76553f9cd406674505ae4", func := "dryrot/dryrotlaw09.MatchEmpty", spec := "matchEmpty", inPlace := ["internal/bytealg.IndexByteString", "internal/bytealg.IndexString", "internal/abi.NoEscape"], recurses := true, named := ["dryrot/match.signs", "internal/bytealg.MaxLen"], apart := false, laid := [("dryrot/match.signs", laid_dryrot_match_signs)], narrowed := true }
def MatchEmptyUptoSaid : Prop := matchEmptyUptoRow.holds Tryd.pinned (OpenSpec.upto matchEmptySpec)

end Rows
end Go.Proofs.YtobjpofdchjciaaDoor
