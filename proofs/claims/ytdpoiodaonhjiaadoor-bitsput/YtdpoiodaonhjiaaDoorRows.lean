/-
  NARROWER THAN 'FOR EVERY INPUT', by the rows' own cells (each row's printed sentence says how): CrcSums: laid · CrcMore: laid · CrcNumbers: laid · CrcTells: laid · BitsPut: laid.
  DERIVED. THE GIVEN ROWS OF THIS SEAT. 5 by the template 'for every input the law returns true; each argument reads behind the call as it read before'; 0 by the template 'total and deterministic' (their statements: YtdpoiodaonhjiaaDoorTotals.lean).
  GIVEN WITH THE SEED: the statements are not yours to turn. If you find one false, say at which input.
  Laid BY PROGRAM, IN A SANDBOX (cutbox-rows.mjs): the forced cells as the released guide's own fill.sh prints them over the translation 10ac3a417eec4f58… (all of the seat's roots in one cut). By AI agents, Wed Nov 11 2026. No macro, syntax, notation, axiom, sorry.
-/
import Derived.Test.YtdpoiodaonhjiaaDoorChecked
import GoSem.Claim
import GoSem.ClaimJoined
import GoSem.ClaimMapViews
import Derived.JoinedTies
import Derived.KernelRfl
namespace Go.Proofs.YtdpoiodaonhjiaaDoor
/- THE CELL 'sum', in the pinned program and in every row, IS THE sha256 OF THE DUMP (.gsa) THAT YtdpoiodaonhjiaaDoorProg.lean LOADS. Nothing in Lean hashes anything: it is a label: what it is worth is what the hold of that sum in a sandbox is worth. -/
noncomputable def Tryd.pinned : Pinned := { name := "ytdpoiodaonhjiaadoor", sum := "10ac3a417eec4f58ba0d06593d406e0b702cba0d176e20e5a326fdc2fcf02e25", checked := Tryd.checked }
namespace Rows
def none {H : Type} : Left H := { results := [], args := [] }

/- WHAT THE LISTED PACKAGE-LEVEL VARIABLES READ AS WHEN THE CALL BEGINS. Each datum BY PROGRAM (the guide's laid-datum.mjs) off the statement by which the dump's own 'gosem.cut.vars' lays the variable. In a bare row this is a premise. The card (YtdpoiodaonhjiaaDoorCards.lean) ties it to the program's text. -/
def laid_dryrot_crc_steps {H : Type} : DataW H := .agg [.lit (.int .u32 0), .lit (.int .u32 1098587580), .lit (.int .u32 2197175160), .lit (.int .u32 3280807620)]
def laid_dryrot_bits_classes {H : Type} : DataW H := .agg [.agg [.lit (.int .u64 0), .lit (.int .i64 1), .lit (.int .i64 0)], .agg [.lit (.int .u64 2), .lit (.int .i64 2), .lit (.int .i64 7)], .agg [.lit (.int .u64 6), .lit (.int .i64 3), .lit (.int .i64 12)], .agg [.lit (.int .u64 14), .lit (.int .i64 4), .lit (.int .i64 32)], .agg [.lit (.int .u64 15), .lit (.int .i64 4), .lit (.int .i64 64)]]

/-- 'dryrotlaw01.CrcSums': WHATEVER THE INPUT: true; the input reads as it did. -/
def crcSumsSpec : ChangeSpec := { name := "crcSums", fn := fun _ => fun
  | [d] => { results := [.lit (.bool true)], args := [d] }
  | _ => none }
def crcSumsRow : OpenClaim := { program := "ytdpoiodaonhjiaadoor", sum := "10ac3a417eec4f58ba0d06593d406e0b702cba0d176e20e5a326fdc2fcf02e25", func := "dryrot/dryrotlaw01.CrcSums", spec := "crcSums", named := ["dryrot/crc.steps"], apart := false, laid := [("dryrot/crc.steps", laid_dryrot_crc_steps)] }
def CrcSumsSaid : Prop := crcSumsRow.holds Tryd.pinned (OpenSpec.ofChange crcSumsSpec)

/-- ITS FALSE NEIGHBOUR: 'it returns false'. Refute it at one input. -/
def crcSumsWrong : ChangeSpec := { name := "crcSums", fn := fun _ => fun
  | [d] => { results := [.lit (.bool false)], args := [d] }
  | _ => none }
def CrcSumsWrongFalsely : Prop := crcSumsRow.holds Tryd.pinned (OpenSpec.ofChange crcSumsWrong)

/-- 'dryrotlaw01.CrcMore': WHATEVER THE INPUT: true; the input reads as it did. -/
def crcMoreSpec : ChangeSpec := { name := "crcMore", fn := fun _ => fun
  | [d1, d2, d3] => { results := [.lit (.bool true)], args := [d1, d2, d3] }
  | _ => none }
def crcMoreRow : OpenClaim := { program := "ytdpoiodaonhjiaadoor", sum := "10ac3a417eec4f58ba0d06593d406e0b702cba0d176e20e5a326fdc2fcf02e25", func := "dryrot/dryrotlaw01.CrcMore", spec := "crcMore", named := ["dryrot/crc.steps"], apart := false, laid := [("dryrot/crc.steps", laid_dryrot_crc_steps)] }
def CrcMoreSaid : Prop := crcMoreRow.holds Tryd.pinned (OpenSpec.ofChange crcMoreSpec)

/-- ITS FALSE NEIGHBOUR: 'it returns false'. Refute it at one input. -/
def crcMoreWrong : ChangeSpec := { name := "crcMore", fn := fun _ => fun
  | [d1, d2, d3] => { results := [.lit (.bool false)], args := [d1, d2, d3] }
  | _ => none }
def CrcMoreWrongFalsely : Prop := crcMoreRow.holds Tryd.pinned (OpenSpec.ofChange crcMoreWrong)

/-- 'dryrotlaw01.CrcNumbers': WHATEVER THE INPUT: true; the input reads as it did. -/
def crcNumbersSpec : ChangeSpec := { name := "crcNumbers", fn := fun _ => fun
  | [d1, d2, d3] => { results := [.lit (.bool true)], args := [d1, d2, d3] }
  | _ => none }
def crcNumbersRow : OpenClaim := { program := "ytdpoiodaonhjiaadoor", sum := "10ac3a417eec4f58ba0d06593d406e0b702cba0d176e20e5a326fdc2fcf02e25", func := "dryrot/dryrotlaw01.CrcNumbers", spec := "crcNumbers", named := ["dryrot/crc.steps"], apart := false, laid := [("dryrot/crc.steps", laid_dryrot_crc_steps)] }
def CrcNumbersSaid : Prop := crcNumbersRow.holds Tryd.pinned (OpenSpec.ofChange crcNumbersSpec)

/-- ITS FALSE NEIGHBOUR: 'it returns false'. Refute it at one input. -/
def crcNumbersWrong : ChangeSpec := { name := "crcNumbers", fn := fun _ => fun
  | [d1, d2, d3] => { results := [.lit (.bool false)], args := [d1, d2, d3] }
  | _ => none }
def CrcNumbersWrongFalsely : Prop := crcNumbersRow.holds Tryd.pinned (OpenSpec.ofChange crcNumbersWrong)

/-- 'dryrotlaw01.CrcTells': WHATEVER THE INPUT: true; the input reads as it did. -/
def crcTellsSpec : ChangeSpec := { name := "crcTells", fn := fun _ => fun
  | [d1, d2, d3] => { results := [.lit (.bool true)], args := [d1, d2, d3] }
  | _ => none }
def crcTellsRow : OpenClaim := { program := "ytdpoiodaonhjiaadoor", sum := "10ac3a417eec4f58ba0d06593d406e0b702cba0d176e20e5a326fdc2fcf02e25", func := "dryrot/dryrotlaw01.CrcTells", spec := "crcTells", named := ["dryrot/crc.steps"], apart := false, laid := [("dryrot/crc.steps", laid_dryrot_crc_steps)] }
def CrcTellsSaid : Prop := crcTellsRow.holds Tryd.pinned (OpenSpec.ofChange crcTellsSpec)

/-- ITS FALSE NEIGHBOUR: 'it returns false'. Refute it at one input. -/
def crcTellsWrong : ChangeSpec := { name := "crcTells", fn := fun _ => fun
  | [d1, d2, d3] => { results := [.lit (.bool false)], args := [d1, d2, d3] }
  | _ => none }
def CrcTellsWrongFalsely : Prop := crcTellsRow.holds Tryd.pinned (OpenSpec.ofChange crcTellsWrong)

/-- 'dryrotlaw02.BitsPut': WHATEVER THE INPUT: true; the input reads as it did. -/
def bitsPutSpec : ChangeSpec := { name := "bitsPut", fn := fun _ => fun
  | [d1, d2, d3] => { results := [.lit (.bool true)], args := [d1, d2, d3] }
  | _ => none }
def bitsPutRow : OpenClaim := { program := "ytdpoiodaonhjiaadoor", sum := "10ac3a417eec4f58ba0d06593d406e0b702cba0d176e20e5a326fdc2fcf02e25", func := "dryrot/dryrotlaw02.BitsPut", spec := "bitsPut", named := ["dryrot/bits.classes"], apart := false, laid := [("dryrot/bits.classes", laid_dryrot_bits_classes)] }
def BitsPutSaid : Prop := bitsPutRow.holds Tryd.pinned (OpenSpec.ofChange bitsPutSpec)

/-- ITS FALSE NEIGHBOUR: 'it returns false'. Refute it at one input. -/
def bitsPutWrong : ChangeSpec := { name := "bitsPut", fn := fun _ => fun
  | [d1, d2, d3] => { results := [.lit (.bool false)], args := [d1, d2, d3] }
  | _ => none }
def BitsPutWrongFalsely : Prop := bitsPutRow.holds Tryd.pinned (OpenSpec.ofChange bitsPutWrong)

/- THE SECOND FORM. 'bulk': how many values and letters a reading holds, each counted each time it is reached (what is shared counts as often as it is met; a slice's spare places count too). A statement '..UptoSaid' is the law's where the arguments, and the package variables that the reading takes, are together of bulk at most 1048576: NARROWER than '..Said'. Prove '..Said' where nothing that the law and all that it calls make is longer than what came in: it says more and counts as full. Else prove '..UptoSaid'. A law counts once. -/
mutual
def uptoBulk {H : Type} : DataW H → Nat
  | .lit (.string bytes) => bytes.length + 1
  | .lit _ => 1
  | .nil => 1
  | .ptr d => uptoBulk d + 1
  | .slice elems spare => uptoBulkAll elems + uptoBulkAll spare + 1
  | .agg parts => uptoBulkAll parts + 1
  | .iface _ d => uptoBulk d + 1
  | .map entries => uptoBulkEntries entries + 1
  | .held _ => 1
def uptoBulkAll {H : Type} : List (DataW H) → Nat
  | [] => 0
  | d :: r => uptoBulk d + uptoBulkAll r
def uptoBulkEntries {H : Type} : List (Lit × DataW H) → Nat
  | [] => 0
  | x :: r => uptoBulkEntry x + uptoBulkEntries r
def uptoBulkEntry {H : Type} : Lit × DataW H → Nat
  | (.string bytes, d) => bytes.length + uptoBulk d + 1
  | (_, d) => uptoBulk d + 1
 end
def uptoSmall : (H : Type) → List (DataW H) → Bool := fun _ ds => decide (uptoBulkAll ds ≤ 1048576)
def OpenSpec.upto (s : _root_.Go.ChangeSpec) : _root_.Go.OpenSpec := { _root_.Go.OpenSpec.ofChange s with cond := some uptoSmall }

/-- 'dryrotlaw01.CrcSums', WHERE WHAT IT READS IS OF BULK AT MOST 1048576: true; the input reads as it did. -/
def crcSumsUptoRow : OpenClaim := { program := "ytdpoiodaonhjiaadoor", sum := "10ac3a417eec4f58ba0d06593d406e0b702cba0d176e20e5a326fdc2fcf02e25", func := "dryrot/dryrotlaw01.CrcSums", spec := "crcSums", named := ["dryrot/crc.steps"], apart := false, laid := [("dryrot/crc.steps", laid_dryrot_crc_steps)], narrowed := true }
def CrcSumsUptoSaid : Prop := crcSumsUptoRow.holds Tryd.pinned (OpenSpec.upto crcSumsSpec)

/-- 'dryrotlaw01.CrcMore', WHERE WHAT IT READS IS OF BULK AT MOST 1048576: true; the input reads as it did. -/
def crcMoreUptoRow : OpenClaim := { program := "ytdpoiodaonhjiaadoor", sum := "10ac3a417eec4f58ba0d06593d406e0b702cba0d176e20e5a326fdc2fcf02e25", func := "dryrot/dryrotlaw01.CrcMore", spec := "crcMore", named := ["dryrot/crc.steps"], apart := false, laid := [("dryrot/crc.steps", laid_dryrot_crc_steps)], narrowed := true }
def CrcMoreUptoSaid : Prop := crcMoreUptoRow.holds Tryd.pinned (OpenSpec.upto crcMoreSpec)

/-- 'dryrotlaw01.CrcNumbers', WHERE WHAT IT READS IS OF BULK AT MOST 1048576: true; the input reads as it did. -/
def crcNumbersUptoRow : OpenClaim := { program := "ytdpoiodaonhjiaadoor", sum := "10ac3a417eec4f58ba0d06593d406e0b702cba0d176e20e5a326fdc2fcf02e25", func := "dryrot/dryrotlaw01.CrcNumbers", spec := "crcNumbers", named := ["dryrot/crc.steps"], apart := false, laid := [("dryrot/crc.steps", laid_dryrot_crc_steps)], narrowed := true }
def CrcNumbersUptoSaid : Prop := crcNumbersUptoRow.holds Tryd.pinned (OpenSpec.upto crcNumbersSpec)

/-- 'dryrotlaw01.CrcTells', WHERE WHAT IT READS IS OF BULK AT MOST 1048576: true; the input reads as it did. -/
def crcTellsUptoRow : OpenClaim := { program := "ytdpoiodaonhjiaadoor", sum := "10ac3a417eec4f58ba0d06593d406e0b702cba0d176e20e5a326fdc2fcf02e25", func := "dryrot/dryrotlaw01.CrcTells", spec := "crcTells", named := ["dryrot/crc.steps"], apart := false, laid := [("dryrot/crc.steps", laid_dryrot_crc_steps)], narrowed := true }
def CrcTellsUptoSaid : Prop := crcTellsUptoRow.holds Tryd.pinned (OpenSpec.upto crcTellsSpec)

/-- 'dryrotlaw02.BitsPut', WHERE WHAT IT READS IS OF BULK AT MOST 1048576: true; the input reads as it did. -/
def bitsPutUptoRow : OpenClaim := { program := "ytdpoiodaonhjiaadoor", sum := "10ac3a417eec4f58ba0d06593d406e0b702cba0d176e20e5a326fdc2fcf02e25", func := "dryrot/dryrotlaw02.BitsPut", spec := "bitsPut", named := ["dryrot/bits.classes"], apart := false, laid := [("dryrot/bits.classes", laid_dryrot_bits_classes)], narrowed := true }
def BitsPutUptoSaid : Prop := bitsPutUptoRow.holds Tryd.pinned (OpenSpec.upto bitsPutSpec)

end Rows
end Go.Proofs.YtdpoiodaonhjiaaDoor
