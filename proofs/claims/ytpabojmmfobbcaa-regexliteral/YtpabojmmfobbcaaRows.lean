/-
  No cell of these rows narrows 'for every input' (looked for: loops, veiled, ifaces, maps, wideKeys, modest, calm, conditions, laid).
  DERIVED. THE GIVEN ROWS OF THIS SEAT. 2 by the template 'for every input the law returns true; each argument reads behind the call as it read before'; 0 by the template 'total and deterministic' (their statements: YtpabojmmfobbcaaTotals.lean).
  GIVEN WITH THE SEED: the statements are not yours to turn. If you find one false, say at which input.
  Laid BY PROGRAM, IN A SANDBOX (cutbox-rows.mjs): the forced cells as the released guide's own fill.sh prints them over the translation ed30a6d7d91a2f95… (all of the seat's roots in one cut). By AI agents, Wed Nov 11 2026. No macro, syntax, notation, axiom, sorry.
-/
import Derived.Test.YtpabojmmfobbcaaChecked
import GoSem.Claim
import GoSem.ClaimJoined
import GoSem.ClaimMapViews
import Derived.JoinedTies
import Derived.KernelRfl
namespace Go.Proofs.Ytpabojmmfobbcaa
/- THE CELL 'sum', in the pinned program and in every row, IS THE sha256 OF THE DUMP (.gsa) THAT YtpabojmmfobbcaaProg.lean LOADS. Nothing in Lean hashes anything: it is a label: what it is worth is what the hold of that sum in a sandbox is worth. -/
noncomputable def Try.pinned : Pinned := { name := "ytpabojmmfobbcaa", sum := "ed30a6d7d91a2f95620664cc21fbe02235ee309c19afa954050714b599c2699a", checked := Try.checked }
namespace Rows
def none {H : Type} : Left H := { results := [], args := [] }

/-- 'dryrotlaw08.RegexLiteral': WHATEVER THE INPUT: true; the input reads as it did. -/
def regexLiteralSpec : ChangeSpec := { name := "regexLiteral", fn := fun _ => fun
  | [d1, d2] => { results := [.lit (.bool true)], args := [d1, d2] }
  | _ => none }
def regexLiteralRow : OpenClaim := { program := "ytpabojmmfobbcaa", sum := "ed30a6d7d91a2f95620664cc21fbe02235ee309c19afa954050714b599c2699a", func := "dryrot/dryrotlaw08.RegexLiteral", spec := "regexLiteral", inPlace := ["internal/bytealg.IndexByteString", "internal/bytealg.IndexString", "internal/abi.NoEscape"], recurses := true, named := ["internal/bytealg.MaxLen"], apart := false }
def RegexLiteralSaid : Prop := regexLiteralRow.holds Try.pinned (OpenSpec.ofChange regexLiteralSpec)

/-- ITS FALSE NEIGHBOUR: 'it returns false'. Refute it at one input. -/
def regexLiteralWrong : ChangeSpec := { name := "regexLiteral", fn := fun _ => fun
  | [d1, d2] => { results := [.lit (.bool false)], args := [d1, d2] }
  | _ => none }
def RegexLiteralWrongFalsely : Prop := regexLiteralRow.holds Try.pinned (OpenSpec.ofChange regexLiteralWrong)

/-- 'dryrotlaw08.RegexEither': WHATEVER THE INPUT: true; the input reads as it did. -/
def regexEitherSpec : ChangeSpec := { name := "regexEither", fn := fun _ => fun
  | [d1, d2, d3] => { results := [.lit (.bool true)], args := [d1, d2, d3] }
  | _ => none }
def regexEitherRow : OpenClaim := { program := "ytpabojmmfobbcaa", sum := "ed30a6d7d91a2f95620664cc21fbe02235ee309c19afa954050714b599c2699a", func := "dryrot/dryrotlaw08.RegexEither", spec := "regexEither", inPlace := ["internal/bytealg.IndexByteString", "internal/bytealg.IndexString"], recurses := true, named := ["internal/bytealg.MaxLen"], apart := false }
def RegexEitherSaid : Prop := regexEitherRow.holds Try.pinned (OpenSpec.ofChange regexEitherSpec)

/-- ITS FALSE NEIGHBOUR: 'it returns false'. Refute it at one input. -/
def regexEitherWrong : ChangeSpec := { name := "regexEither", fn := fun _ => fun
  | [d1, d2, d3] => { results := [.lit (.bool false)], args := [d1, d2, d3] }
  | _ => none }
def RegexEitherWrongFalsely : Prop := regexEitherRow.holds Try.pinned (OpenSpec.ofChange regexEitherWrong)

/- THE SECOND FORM. 'bulk': how many values and letters a reading holds, each counted each time it is reached (what is shared counts as often as it is met; a slice's spare places count too). A statement '..UptoSaid' is the law's where the arguments, and the package variables that the reading takes, are together of bulk at most 1048576: NARROWER than '..Said'. Prove '..Said' where nothing that the law and all that it calls make is longer than what came in: it says more and counts as full. Else prove '..UptoSaid'. A law counts once. -/
mutual
def uptoBulk {H : Type} : DataW H → Nat
  | .lit (.string bytes) => bytes.length + 1
  | .lit _ => 1
  | .nil => 1
  | .ptr d => uptoBulk d + 1
  | .slice elems spare => uptoBulkAll elems + uptoBulkAll spare + 1
  | .agg parts => uptoBulkAll parts + 1
  | .iface _ d => uptoBulk d + 1
  | .map entries => uptoBulkEntries entries + 1
  | .held _ => 1
def uptoBulkAll {H : Type} : List (DataW H) → Nat
  | [] => 0
  | d :: r => uptoBulk d + uptoBulkAll r
def uptoBulkEntries {H : Type} : List (Lit × DataW H) → Nat
  | [] => 0
  | x :: r => uptoBulkEntry x + uptoBulkEntries r
def uptoBulkEntry {H : Type} : Lit × DataW H → Nat
  | (.string bytes, d) => bytes.length + uptoBulk d + 1
  | (_, d) => uptoBulk d + 1
 end
def uptoSmall : (H : Type) → List (DataW H) → Bool := fun _ ds => decide (uptoBulkAll ds ≤ 1048576)
def OpenSpec.upto (s : _root_.Go.ChangeSpec) : _root_.Go.OpenSpec := { _root_.Go.OpenSpec.ofChange s with cond := some uptoSmall }

/-- 'dryrotlaw08.RegexLiteral', WHERE WHAT IT READS IS OF BULK AT MOST 1048576: true; the input reads as it did. -/
def regexLiteralUptoRow : OpenClaim := { program := "ytpabojmmfobbcaa", sum := "ed30a6d7d91a2f95620664cc21fbe02235ee309c19afa954050714b599c2699a", func := "dryrot/dryrotlaw08.RegexLiteral", spec := "regexLiteral", inPlace := ["internal/bytealg.IndexByteString", "internal/bytealg.IndexString", "internal/abi.NoEscape"], recurses := true, named := ["internal/bytealg.MaxLen"], apart := false, narrowed := true }
def RegexLiteralUptoSaid : Prop := regexLiteralUptoRow.holds Try.pinned (OpenSpec.upto regexLiteralSpec)

/-- 'dryrotlaw08.RegexEither', WHERE WHAT IT READS IS OF BULK AT MOST 1048576: true; the input reads as it did. -/
def regexEitherUptoRow : OpenClaim := { program := "ytpabojmmfobbcaa", sum := "ed30a6d7d91a2f95620664cc21fbe02235ee309c19afa954050714b599c2699a", func := "dryrot/dryrotlaw08.RegexEither", spec := "regexEither", inPlace := ["internal/bytealg.IndexByteString", "internal/bytealg.IndexString"], recurses := true, named := ["internal/bytealg.MaxLen"], apart := false, narrowed := true }
def RegexEitherUptoSaid : Prop := regexEitherUptoRow.holds Try.pinned (OpenSpec.upto regexEitherSpec)

end Rows
end Go.Proofs.Ytpabojmmfobbcaa
