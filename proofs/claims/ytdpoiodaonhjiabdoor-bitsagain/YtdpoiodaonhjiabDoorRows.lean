/-
  NARROWER THAN 'FOR EVERY INPUT', by the rows' own cells (each row's printed sentence says how): BitsTake: laid · BitsInts: laid · BitsBack: laid · BitsAgain: laid.
  DERIVED. THE GIVEN ROWS OF THIS SEAT. 4 by the template 'for every input the law returns true; each argument reads behind the call as it read before'; 0 by the template 'total and deterministic' (their statements: YtdpoiodaonhjiabDoorTotals.lean).
  GIVEN WITH THE SEED: the statements are not yours to turn. If you find one false, say at which input.
  Laid BY PROGRAM, IN A SANDBOX (cutbox-rows.mjs): the forced cells as the released guide's own fill.sh prints them over the translation 8750408597577e13… (all of the seat's roots in one cut). By AI agents, Wed Nov 11 2026. No macro, syntax, notation, axiom, sorry.
-/
import Derived.Test.YtdpoiodaonhjiabDoorChecked
import GoSem.Claim
import GoSem.ClaimJoined
import GoSem.ClaimMapViews
import Derived.JoinedTies
import Derived.KernelRfl
namespace Go.Proofs.YtdpoiodaonhjiabDoor
/- THE CELL 'sum', in the pinned program and in every row, IS THE sha256 OF THE DUMP (.gsa) THAT YtdpoiodaonhjiabDoorProg.lean LOADS. Nothing in Lean hashes anything: it is a label: what it is worth is what the hold of that sum in a sandbox is worth. -/
noncomputable def Tryd.pinned : Pinned := { name := "ytdpoiodaonhjiabdoor", sum := "8750408597577e136f9915f48b0ed9d0762000dfe19cab29136fb83967ac2a06", checked := Tryd.checked }
namespace Rows
def none {H : Type} : Left H := { results := [], args := [] }

/- WHAT THE LISTED PACKAGE-LEVEL VARIABLES READ AS WHEN THE CALL BEGINS. Each datum BY PROGRAM (the guide's laid-datum.mjs) off the statement by which the dump's own 'gosem.cut.vars' lays the variable. In a bare row this is a premise. The card (YtdpoiodaonhjiabDoorCards.lean) ties it to the program's text. -/
def laid_dryrot_bits_classes {H : Type} : DataW H := .agg [.agg [.lit (.int .u64 0), .lit (.int .i64 1), .lit (.int .i64 0)], .agg [.lit (.int .u64 2), .lit (.int .i64 2), .lit (.int .i64 7)], .agg [.lit (.int .u64 6), .lit (.int .i64 3), .lit (.int .i64 12)], .agg [.lit (.int .u64 14), .lit (.int .i64 4), .lit (.int .i64 32)], .agg [.lit (.int .u64 15), .lit (.int .i64 4), .lit (.int .i64 64)]]

/-- 'dryrotlaw02.BitsTake': WHATEVER THE INPUT: true; the input reads as it did. -/
def bitsTakeSpec : ChangeSpec := { name := "bitsTake", fn := fun _ => fun
  | [d1, d2, d3] => { results := [.lit (.bool true)], args := [d1, d2, d3] }
  | _ => none }
def bitsTakeRow : OpenClaim := { program := "ytdpoiodaonhjiabdoor", sum := "8750408597577e136f9915f48b0ed9d0762000dfe19cab29136fb83967ac2a06", func := "dryrot/dryrotlaw02.BitsTake", spec := "bitsTake", named := ["dryrot/bits.classes"], apart := false, laid := [("dryrot/bits.classes", laid_dryrot_bits_classes)] }
def BitsTakeSaid : Prop := bitsTakeRow.holds Tryd.pinned (OpenSpec.ofChange bitsTakeSpec)

/-- ITS FALSE NEIGHBOUR: 'it returns false'. Refute it at one input. -/
def bitsTakeWrong : ChangeSpec := { name := "bitsTake", fn := fun _ => fun
  | [d1, d2, d3] => { results := [.lit (.bool false)], args := [d1, d2, d3] }
  | _ => none }
def BitsTakeWrongFalsely : Prop := bitsTakeRow.holds Tryd.pinned (OpenSpec.ofChange bitsTakeWrong)

/-- 'dryrotlaw02.BitsInts': WHATEVER THE INPUT: true; the input reads as it did. -/
def bitsIntsSpec : ChangeSpec := { name := "bitsInts", fn := fun _ => fun
  | [d1, d2, d3] => { results := [.lit (.bool true)], args := [d1, d2, d3] }
  | _ => none }
def bitsIntsRow : OpenClaim := { program := "ytdpoiodaonhjiabdoor", sum := "8750408597577e136f9915f48b0ed9d0762000dfe19cab29136fb83967ac2a06", func := "dryrot/dryrotlaw02.BitsInts", spec := "bitsInts", named := ["dryrot/bits.classes"], apart := false, laid := [("dryrot/bits.classes", laid_dryrot_bits_classes)] }
def BitsIntsSaid : Prop := bitsIntsRow.holds Tryd.pinned (OpenSpec.ofChange bitsIntsSpec)

/-- ITS FALSE NEIGHBOUR: 'it returns false'. Refute it at one input. -/
def bitsIntsWrong : ChangeSpec := { name := "bitsInts", fn := fun _ => fun
  | [d1, d2, d3] => { results := [.lit (.bool false)], args := [d1, d2, d3] }
  | _ => none }
def BitsIntsWrongFalsely : Prop := bitsIntsRow.holds Tryd.pinned (OpenSpec.ofChange bitsIntsWrong)

/-- 'dryrotlaw02.BitsBack': WHATEVER THE INPUT: true; the input reads as it did. -/
def bitsBackSpec : ChangeSpec := { name := "bitsBack", fn := fun _ => fun
  | [d1, d2, d3, d4] => { results := [.lit (.bool true)], args := [d1, d2, d3, d4] }
  | _ => none }
def bitsBackRow : OpenClaim := { program := "ytdpoiodaonhjiabdoor", sum := "8750408597577e136f9915f48b0ed9d0762000dfe19cab29136fb83967ac2a06", func := "dryrot/dryrotlaw02.BitsBack", spec := "bitsBack", named := ["dryrot/bits.classes"], apart := false, laid := [("dryrot/bits.classes", laid_dryrot_bits_classes)] }
def BitsBackSaid : Prop := bitsBackRow.holds Tryd.pinned (OpenSpec.ofChange bitsBackSpec)

/-- ITS FALSE NEIGHBOUR: 'it returns false'. Refute it at one input. -/
def bitsBackWrong : ChangeSpec := { name := "bitsBack", fn := fun _ => fun
  | [d1, d2, d3, d4] => { results := [.lit (.bool false)], args := [d1, d2, d3, d4] }
  | _ => none }
def BitsBackWrongFalsely : Prop := bitsBackRow.holds Tryd.pinned (OpenSpec.ofChange bitsBackWrong)

/-- 'dryrotlaw02.BitsAgain': WHATEVER THE INPUT: true; the input reads as it did. -/
def bitsAgainSpec : ChangeSpec := { name := "bitsAgain", fn := fun _ => fun
  | [d1, d2] => { results := [.lit (.bool true)], args := [d1, d2] }
  | _ => none }
def bitsAgainRow : OpenClaim := { program := "ytdpoiodaonhjiabdoor", sum := "8750408597577e136f9915f48b0ed9d0762000dfe19cab29136fb83967ac2a06", func := "dryrot/dryrotlaw02.BitsAgain", spec := "bitsAgain", named := ["dryrot/bits.classes"], apart := false, laid := [("dryrot/bits.classes", laid_dryrot_bits_classes)] }
def BitsAgainSaid : Prop := bitsAgainRow.holds Tryd.pinned (OpenSpec.ofChange bitsAgainSpec)

/-- ITS FALSE NEIGHBOUR: 'it returns false'. Refute it at one input. -/
def bitsAgainWrong : ChangeSpec := { name := "bitsAgain", fn := fun _ => fun
  | [d1, d2] => { results := [.lit (.bool false)], args := [d1, d2] }
  | _ => none }
def BitsAgainWrongFalsely : Prop := bitsAgainRow.holds Tryd.pinned (OpenSpec.ofChange bitsAgainWrong)

/- THE SECOND FORM. 'bulk': how many values and letters a reading holds, each counted each time it is reached (what is shared counts as often as it is met; a slice's spare places count too). A statement '..UptoSaid' is the law's where the arguments, and the package variables that the reading takes, are together of bulk at most 1048576: NARROWER than '..Said'. Prove '..Said' where nothing that the law and all that it calls make is longer than what came in: it says more and counts as full. Else prove '..UptoSaid'. A law counts once. -/
mutual
def uptoBulk {H : Type} : DataW H → Nat
  | .lit (.string bytes) => bytes.length + 1
  | .lit _ => 1
  | .nil => 1
  | .ptr d => uptoBulk d + 1
  | .slice elems spare => uptoBulkAll elems + uptoBulkAll spare + 1
  | .agg parts => uptoBulkAll parts + 1
  | .iface _ d => uptoBulk d + 1
  | .map entries => uptoBulkEntries entries + 1
  | .held _ => 1
def uptoBulkAll {H : Type} : List (DataW H) → Nat
  | [] => 0
  | d :: r => uptoBulk d + uptoBulkAll r
def uptoBulkEntries {H : Type} : List (Lit × DataW H) → Nat
  | [] => 0
  | x :: r => uptoBulkEntry x + uptoBulkEntries r
def uptoBulkEntry {H : Type} : Lit × DataW H → Nat
  | (.string bytes, d) => bytes.length + uptoBulk d + 1
  | (_, d) => uptoBulk d + 1
 end
def uptoSmall : (H : Type) → List (DataW H) → Bool := fun _ ds => decide (uptoBulkAll ds ≤ 1048576)
def OpenSpec.upto (s : _root_.Go.ChangeSpec) : _root_.Go.OpenSpec := { _root_.Go.OpenSpec.ofChange s with cond := some uptoSmall }

/-- 'dryrotlaw02.BitsTake', WHERE WHAT IT READS IS OF BULK AT MOST 1048576: true; the input reads as it did. -/
def bitsTakeUptoRow : OpenClaim := { program := "ytdpoiodaonhjiabdoor", sum := "8750408597577e136f9915f48b0ed9d0762000dfe19cab29136fb83967ac2a06", func := "dryrot/dryrotlaw02.BitsTake", spec := "bitsTake", named := ["dryrot/bits.classes"], apart := false, laid := [("dryrot/bits.classes", laid_dryrot_bits_classes)], narrowed := true }
def BitsTakeUptoSaid : Prop := bitsTakeUptoRow.holds Tryd.pinned (OpenSpec.upto bitsTakeSpec)

/-- 'dryrotlaw02.BitsInts', WHERE WHAT IT READS IS OF BULK AT MOST 1048576: true; the input reads as it did. -/
def bitsIntsUptoRow : OpenClaim := { program := "ytdpoiodaonhjiabdoor", sum := "8750408597577e136f9915f48b0ed9d0762000dfe19cab29136fb83967ac2a06", func := "dryrot/dryrotlaw02.BitsInts", spec := "bitsInts", named := ["dryrot/bits.classes"], apart := false, laid := [("dryrot/bits.classes", laid_dryrot_bits_classes)], narrowed := true }
def BitsIntsUptoSaid : Prop := bitsIntsUptoRow.holds Tryd.pinned (OpenSpec.upto bitsIntsSpec)

/-- 'dryrotlaw02.BitsBack', WHERE WHAT IT READS IS OF BULK AT MOST 1048576: true; the input reads as it did. -/
def bitsBackUptoRow : OpenClaim := { program := "ytdpoiodaonhjiabdoor", sum := "8750408597577e136f9915f48b0ed9d0762000dfe19cab29136fb83967ac2a06", func := "dryrot/dryrotlaw02.BitsBack", spec := "bitsBack", named := ["dryrot/bits.classes"], apart := false, laid := [("dryrot/bits.classes", laid_dryrot_bits_classes)], narrowed := true }
def BitsBackUptoSaid : Prop := bitsBackUptoRow.holds Tryd.pinned (OpenSpec.upto bitsBackSpec)

/-- 'dryrotlaw02.BitsAgain', WHERE WHAT IT READS IS OF BULK AT MOST 1048576: true; the input reads as it did. -/
def bitsAgainUptoRow : OpenClaim := { program := "ytdpoiodaonhjiabdoor", sum := "8750408597577e136f9915f48b0ed9d0762000dfe19cab29136fb83967ac2a06", func := "dryrot/dryrotlaw02.BitsAgain", spec := "bitsAgain", named := ["dryrot/bits.classes"], apart := false, laid := [("dryrot/bits.classes", laid_dryrot_bits_classes)], narrowed := true }
def BitsAgainUptoSaid : Prop := bitsAgainUptoRow.holds Tryd.pinned (OpenSpec.upto bitsAgainSpec)

end Rows
end Go.Proofs.YtdpoiodaonhjiabDoor
