/-
  NARROWER THAN 'FOR EVERY INPUT', by the rows' own cells (each row's printed sentence says how): PairNeeds: laid · PairHalf: laid · PairNewer: laid.
  DERIVED. THE GIVEN ROWS OF THIS SEAT. 3 by the template 'for every input the law returns true; each argument reads behind the call as it read before'; 0 by the template 'total and deterministic' (their statements: YtmoeoffjlicdjabDoorTotals.lean).
  GIVEN WITH THE SEED: the statements are not yours to turn. If you find one false, say at which input.
  Laid BY PROGRAM, IN A SANDBOX (cutbox-rows.mjs): the forced cells as the released guide's own fill.sh prints them over the translation bb9c5cf11cbc8d18… (all of the seat's roots in one cut). By AI agents, Wed Nov 11 2026. No macro, syntax, notation, axiom, sorry.
-/
import Derived.Test.YtmoeoffjlicdjabDoorChecked
import GoSem.Claim
import GoSem.ClaimJoined
import GoSem.ClaimMapViews
import Derived.JoinedTies
import Derived.KernelRfl
namespace Go.Proofs.YtmoeoffjlicdjabDoor
/- THE CELL 'sum', in the pinned program and in every row, IS THE sha256 OF THE DUMP (.gsa) THAT YtmoeoffjlicdjabDoorProg.lean LOADS. Nothing in Lean hashes anything: it is a label: what it is worth is what the hold of that sum in a sandbox is worth. -/
noncomputable def Tryd.pinned : Pinned := { name := "ytmoeoffjlicdjabdoor", sum := "bb9c5cf11cbc8d18bda858e54a47c902b8232777f109bbba390dd087d1cd2739", checked := Tryd.checked }
namespace Rows
def none {H : Type} : Left H := { results := [], args := [] }

/- WHAT THE LISTED PACKAGE-LEVEL VARIABLES READ AS WHEN THE CALL BEGINS. Each datum BY PROGRAM (the guide's laid-datum.mjs) off the statement by which the dump's own 'gosem.cut.vars' lays the variable. In a bare row this is a premise. The card (YtmoeoffjlicdjabDoorCards.lean) ties it to the program's text. -/
def laid_dryrot_crc_steps {H : Type} : DataW H := .agg [.lit (.int .u32 0), .lit (.int .u32 1098587580), .lit (.int .u32 2197175160), .lit (.int .u32 3280807620)]

/-- 'dryrotlaw05.PairNeeds': WHATEVER THE INPUT: true; the input reads as it did. -/
def pairNeedsSpec : ChangeSpec := { name := "pairNeeds", fn := fun _ => fun
  | [d1, d2] => { results := [.lit (.bool true)], args := [d1, d2] }
  | _ => none }
def pairNeedsRow : OpenClaim := { program := "ytmoeoffjlicdjabdoor", sum := "bb9c5cf11cbc8d18bda858e54a47c902b8232777f109bbba390dd087d1cd2739", func := "dryrot/dryrotlaw05.PairNeeds", spec := "pairNeeds", named := ["dryrot/crc.steps"], plainKeys := false, apart := false, laid := [("dryrot/crc.steps", laid_dryrot_crc_steps)] }
def PairNeedsSaid : Prop := pairNeedsRow.holds Tryd.pinned (OpenSpec.ofChange pairNeedsSpec)

/-- ITS FALSE NEIGHBOUR: 'it returns false'. Refute it at one input. -/
def pairNeedsWrong : ChangeSpec := { name := "pairNeeds", fn := fun _ => fun
  | [d1, d2] => { results := [.lit (.bool false)], args := [d1, d2] }
  | _ => none }
def PairNeedsWrongFalsely : Prop := pairNeedsRow.holds Tryd.pinned (OpenSpec.ofChange pairNeedsWrong)

/-- 'dryrotlaw05.PairHalf': WHATEVER THE INPUT: true; the input reads as it did. -/
def pairHalfSpec : ChangeSpec := { name := "pairHalf", fn := fun _ => fun
  | [d1, d2, d3, d4] => { results := [.lit (.bool true)], args := [d1, d2, d3, d4] }
  | _ => none }
def pairHalfRow : OpenClaim := { program := "ytmoeoffjlicdjabdoor", sum := "bb9c5cf11cbc8d18bda858e54a47c902b8232777f109bbba390dd087d1cd2739", func := "dryrot/dryrotlaw05.PairHalf", spec := "pairHalf", unfollowed := true, recurses := true, named := ["dryrot/crc.steps"], plainKeys := false, apart := false, laid := [("dryrot/crc.steps", laid_dryrot_crc_steps)] }
def PairHalfSaid : Prop := pairHalfRow.holds Tryd.pinned (OpenSpec.ofChange pairHalfSpec)

/-- ITS FALSE NEIGHBOUR: 'it returns false'. Refute it at one input. -/
def pairHalfWrong : ChangeSpec := { name := "pairHalf", fn := fun _ => fun
  | [d1, d2, d3, d4] => { results := [.lit (.bool false)], args := [d1, d2, d3, d4] }
  | _ => none }
def PairHalfWrongFalsely : Prop := pairHalfRow.holds Tryd.pinned (OpenSpec.ofChange pairHalfWrong)

/-- 'dryrotlaw05.PairNewer': WHATEVER THE INPUT: true; the input reads as it did. -/
def pairNewerSpec : ChangeSpec := { name := "pairNewer", fn := fun _ => fun
  | [d1, d2, d3] => { results := [.lit (.bool true)], args := [d1, d2, d3] }
  | _ => none }
def pairNewerRow : OpenClaim := { program := "ytmoeoffjlicdjabdoor", sum := "bb9c5cf11cbc8d18bda858e54a47c902b8232777f109bbba390dd087d1cd2739", func := "dryrot/dryrotlaw05.PairNewer", spec := "pairNewer", named := ["dryrot/crc.steps"], plainKeys := false, apart := false, laid := [("dryrot/crc.steps", laid_dryrot_crc_steps)] }
def PairNewerSaid : Prop := pairNewerRow.holds Tryd.pinned (OpenSpec.ofChange pairNewerSpec)

/-- ITS FALSE NEIGHBOUR: 'it returns false'. Refute it at one input. -/
def pairNewerWrong : ChangeSpec := { name := "pairNewer", fn := fun _ => fun
  | [d1, d2, d3] => { results := [.lit (.bool false)], args := [d1, d2, d3] }
  | _ => none }
def PairNewerWrongFalsely : Prop := pairNewerRow.holds Tryd.pinned (OpenSpec.ofChange pairNewerWrong)

/- THE SECOND FORM. 'bulk': how many values and letters a reading holds, each counted each time it is reached (what is shared counts as often as it is met; a slice's spare places count too). A statement '..UptoSaid' is the law's where the arguments, and the package variables that the reading takes, are together of bulk at most 1048576: NARROWER than '..Said'. Prove '..Said' where nothing that the law and all that it calls make is longer than what came in: it says more and counts as full. Else prove '..UptoSaid'. A law counts once. -/
mutual
def uptoBulk {H : Type} : DataW H → Nat
  | .lit (.string bytes) => bytes.length + 1
  | .lit _ => 1
  | .nil => 1
  | .ptr d => uptoBulk d + 1
  | .slice elems spare => uptoBulkAll elems + uptoBulkAll spare + 1
  | .agg parts => uptoBulkAll parts + 1
  | .iface _ d => uptoBulk d + 1
  | .map entries => uptoBulkEntries entries + 1
  | .held _ => 1
def uptoBulkAll {H : Type} : List (DataW H) → Nat
  | [] => 0
  | d :: r => uptoBulk d + uptoBulkAll r
def uptoBulkEntries {H : Type} : List (Lit × DataW H) → Nat
  | [] => 0
  | x :: r => uptoBulkEntry x + uptoBulkEntries r
def uptoBulkEntry {H : Type} : Lit × DataW H → Nat
  | (.string bytes, d) => bytes.length + uptoBulk d + 1
  | (_, d) => uptoBulk d + 1
 end
def uptoSmall : (H : Type) → List (DataW H) → Bool := fun _ ds => decide (uptoBulkAll ds ≤ 1048576)
def OpenSpec.upto (s : _root_.Go.ChangeSpec) : _root_.Go.OpenSpec := { _root_.Go.OpenSpec.ofChange s with cond := some uptoSmall }

/-- 'dryrotlaw05.PairNeeds', WHERE WHAT IT READS IS OF BULK AT MOST 1048576: true; the input reads as it did. -/
def pairNeedsUptoRow : OpenClaim := { program := "ytmoeoffjlicdjabdoor", sum := "bb9c5cf11cbc8d18bda858e54a47c902b8232777f109bbba390dd087d1cd2739", func := "dryrot/dryrotlaw05.PairNeeds", spec := "pairNeeds", named := ["dryrot/crc.steps"], plainKeys := false, apart := false, laid := [("dryrot/crc.steps", laid_dryrot_crc_steps)], narrowed := true }
def PairNeedsUptoSaid : Prop := pairNeedsUptoRow.holds Tryd.pinned (OpenSpec.upto pairNeedsSpec)

/-- 'dryrotlaw05.PairHalf', WHERE WHAT IT READS IS OF BULK AT MOST 1048576: true; the input reads as it did. -/
def pairHalfUptoRow : OpenClaim := { program := "ytmoeoffjlicdjabdoor", sum := "bb9c5cf11cbc8d18bda858e54a47c902b8232777f109bbba390dd087d1cd2739", func := "dryrot/dryrotlaw05.PairHalf", spec := "pairHalf", unfollowed := true, recurses := true, named := ["dryrot/crc.steps"], plainKeys := false, apart := false, laid := [("dryrot/crc.steps", laid_dryrot_crc_steps)], narrowed := true }
def PairHalfUptoSaid : Prop := pairHalfUptoRow.holds Tryd.pinned (OpenSpec.upto pairHalfSpec)

/-- 'dryrotlaw05.PairNewer', WHERE WHAT IT READS IS OF BULK AT MOST 1048576: true; the input reads as it did. -/
def pairNewerUptoRow : OpenClaim := { program := "ytmoeoffjlicdjabdoor", sum := "bb9c5cf11cbc8d18bda858e54a47c902b8232777f109bbba390dd087d1cd2739", func := "dryrot/dryrotlaw05.PairNewer", spec := "pairNewer", named := ["dryrot/crc.steps"], plainKeys := false, apart := false, laid := [("dryrot/crc.steps", laid_dryrot_crc_steps)], narrowed := true }
def PairNewerUptoSaid : Prop := pairNewerUptoRow.holds Tryd.pinned (OpenSpec.upto pairNewerSpec)

end Rows
end Go.Proofs.YtmoeoffjlicdjabDoor
