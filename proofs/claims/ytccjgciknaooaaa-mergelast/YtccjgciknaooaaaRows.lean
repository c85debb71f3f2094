/-
  No cell of these rows narrows 'for every input' (looked for: loops, veiled, ifaces, maps, wideKeys, modest, calm, conditions, laid).
  DERIVED. THE GIVEN ROWS OF THIS SEAT. 3 by the template 'for every input the law returns true; each argument reads behind the call as it read before'; 0 by the template 'total and deterministic' (their statements: YtccjgciknaooaaaTotals.lean).
  GIVEN WITH THE SEED: the statements are not yours to turn. If you find one false, say at which input.
  Laid BY PROGRAM, IN A SANDBOX (cutbox-rows.mjs): the forced cells as the released guide's own fill.sh prints them over the translation eef9568828d3ccc9… (all of the seat's roots in one cut). By AI agents, Wed Nov 11 2026. No macro, syntax, notation, axiom, sorry.
-/
import Derived.Test.YtccjgciknaooaaaChecked
import GoSem.Claim
import GoSem.ClaimJoined
import GoSem.ClaimMapViews
import Derived.JoinedTies
import Derived.KernelRfl
namespace Go.Proofs.Ytccjgciknaooaaa
/- THE CELL 'sum', in the pinned program and in every row, IS THE sha256 OF THE DUMP (.gsa) THAT YtccjgciknaooaaaProg.lean LOADS. Nothing in Lean hashes anything: it is a label: what it is worth is what the hold of that sum in a sandbox is worth. -/
noncomputable def Try.pinned : Pinned := { name := "ytccjgciknaooaaa", sum := "eef9568828d3ccc9388b0140d2ad005b3970bf146b942fa14ef10b005b01db6d", checked := Try.checked }
namespace Rows
def none {H : Type} : Left H := { results := [], args := [] }

/-- 'dryrotlaw26.MergeAll': WHATEVER THE INPUT: true; the input reads as it did. -/
def mergeAllSpec : ChangeSpec := { name := "mergeAll", fn := fun _ => fun
  | [d1, d2, d3] => { results := [.lit (.bool true)], args := [d1, d2, d3] }
  | _ => none }
def mergeAllRow : OpenClaim := { program := "ytccjgciknaooaaa", sum := "eef9568828d3ccc9388b0140d2ad005b3970bf146b942fa14ef10b005b01db6d", func := "dryrot/dryrotlaw26.MergeAll", spec := "mergeAll", unfollowed := true, recurses := true, apart := false }
def MergeAllSaid : Prop := mergeAllRow.holds Try.pinned (OpenSpec.ofChange mergeAllSpec)

/-- ITS FALSE NEIGHBOUR: 'it returns false'. Refute it at one input. -/
def mergeAllWrong : ChangeSpec := { name := "mergeAll", fn := fun _ => fun
  | [d1, d2, d3] => { results := [.lit (.bool false)], args := [d1, d2, d3] }
  | _ => none }
def MergeAllWrongFalsely : Prop := mergeAllRow.holds Try.pinned (OpenSpec.ofChange mergeAllWrong)

/-- 'dryrotlaw26.MergeSeeks': WHATEVER THE INPUT: true; the input reads as it did. -/
def mergeSeeksSpec : ChangeSpec := { name := "mergeSeeks", fn := fun _ => fun
  | [d1, d2, d3] => { results := [.lit (.bool true)], args := [d1, d2, d3] }
  | _ => none }
def mergeSeeksRow : OpenClaim := { program := "ytccjgciknaooaaa", sum := "eef9568828d3ccc9388b0140d2ad005b3970bf146b942fa14ef10b005b01db6d", func := "dryrot/dryrotlaw26.MergeSeeks", spec := "mergeSeeks", unfollowed := true, recurses := true, apart := false }
def MergeSeeksSaid : Prop := mergeSeeksRow.holds Try.pinned (OpenSpec.ofChange mergeSeeksSpec)

/-- ITS FALSE NEIGHBOUR: 'it returns false'. Refute it at one input. -/
def mergeSeeksWrong : ChangeSpec := { name := "mergeSeeks", fn := fun _ => fun
  | [d1, d2, d3] => { results := [.lit (.bool false)], args := [d1, d2, d3] }
  | _ => none }
def MergeSeeksWrongFalsely : Prop := mergeSeeksRow.holds Try.pinned (OpenSpec.ofChange mergeSeeksWrong)

/-- 'dryrotlaw26.MergeLast': WHATEVER THE INPUT: true; the input reads as it did. -/
def mergeLastSpec : ChangeSpec := { name := "mergeLast", fn := fun _ => fun
  | [d1, d2, d3] => { results := [.lit (.bool true)], args := [d1, d2, d3] }
  | _ => none }
def mergeLastRow : OpenClaim := { program := "ytccjgciknaooaaa", sum := "eef9568828d3ccc9388b0140d2ad005b3970bf146b942fa14ef10b005b01db6d", func := "dryrot/dryrotlaw26.MergeLast", spec := "mergeLast", unfollowed := true, recurses := true, apart := false }
def MergeLastSaid : Prop := mergeLastRow.holds Try.pinned (OpenSpec.ofChange mergeLastSpec)

/-- ITS FALSE NEIGHBOUR: 'it returns false'. Refute it at one input. -/
def mergeLastWrong : ChangeSpec := { name := "mergeLast", fn := fun _ => fun
  | [d1, d2, d3] => { results := [.lit (.bool false)], args := [d1, d2, d3] }
  | _ => none }
def MergeLastWrongFalsely : Prop := mergeLastRow.holds Try.pinned (OpenSpec.ofChange mergeLastWrong)

/- THE SECOND FORM. 'bulk': how many values and letters a reading holds, each counted each time it is reached (what is shared counts as often as it is met; a slice's spare places count too). A statement '..UptoSaid' is the law's where the arguments, and the package variables that the reading takes, are together of bulk at most 1048576: NARROWER than '..Said'. Prove '..Said' where nothing that the law and all that it calls make is longer than what came in: it says more and counts as full. Else prove '..UptoSaid'. A law counts once. -/
mutual
def uptoBulk {H : Type} : DataW H → Nat
  | .lit (.string bytes) => bytes.length + 1
  | .lit _ => 1
  | .nil => 1
  | .ptr d => uptoBulk d + 1
  | .slice elems spare => uptoBulkAll elems + uptoBulkAll spare + 1
  | .agg parts => uptoBulkAll parts + 1
  | .iface _ d => uptoBulk d + 1
  | .map entries => uptoBulkEntries entries + 1
  | .held _ => 1
def uptoBulkAll {H : Type} : List (DataW H) → Nat
  | [] => 0
  | d :: r => uptoBulk d + uptoBulkAll r
def uptoBulkEntries {H : Type} : List (Lit × DataW H) → Nat
  | [] => 0
  | x :: r => uptoBulkEntry x + uptoBulkEntries r
def uptoBulkEntry {H : Type} : Lit × DataW H → Nat
  | (.string bytes, d) => bytes.length + uptoBulk d + 1
  | (_, d) => uptoBulk d + 1
 end
def uptoSmall : (H : Type) → List (DataW H) → Bool := fun _ ds => decide (uptoBulkAll ds ≤ 1048576)
def OpenSpec.upto (s : _root_.Go.ChangeSpec) : _root_.Go.OpenSpec := { _root_.Go.OpenSpec.ofChange s with cond := some uptoSmall }

/-- 'dryrotlaw26.MergeAll', WHERE WHAT IT READS IS OF BULK AT MOST 1048576: true; the input reads as it did. -/
def mergeAllUptoRow : OpenClaim := { program := "ytccjgciknaooaaa", sum := "eef9568828d3ccc9388b0140d2ad005b3970bf146b942fa14ef10b005b01db6d", func := "dryrot/dryrotlaw26.MergeAll", spec := "mergeAll", unfollowed := true, recurses := true, apart := false, narrowed := true }
def MergeAllUptoSaid : Prop := mergeAllUptoRow.holds Try.pinned (OpenSpec.upto mergeAllSpec)

/-- 'dryrotlaw26.MergeSeeks', WHERE WHAT IT READS IS OF BULK AT MOST 1048576: true; the input reads as it did. -/
def mergeSeeksUptoRow : OpenClaim := { program := "ytccjgciknaooaaa", sum := "eef9568828d3ccc9388b0140d2ad005b3970bf146b942fa14ef10b005b01db6d", func := "dryrot/dryrotlaw26.MergeSeeks", spec := "mergeSeeks", unfollowed := true, recurses := true, apart := false, narrowed := true }
def MergeSeeksUptoSaid : Prop := mergeSeeksUptoRow.holds Try.pinned (OpenSpec.upto mergeSeeksSpec)

/-- 'dryrotlaw26.MergeLast', WHERE WHAT IT READS IS OF BULK AT MOST 1048576: true; the input reads as it did. -/
def mergeLastUptoRow : OpenClaim := { program := "ytccjgciknaooaaa", sum := "eef9568828d3ccc9388b0140d2ad005b3970bf146b942fa14ef10b005b01db6d", func := "dryrot/dryrotlaw26.MergeLast", spec := "mergeLast", unfollowed := true, recurses := true, apart := false, narrowed := true }
def MergeLastUptoSaid : Prop := mergeLastUptoRow.holds Try.pinned (OpenSpec.upto mergeLastSpec)

end Rows
end Go.Proofs.Ytccjgciknaooaaa
