/-
  NARROWER THAN 'FOR EVERY INPUT', by the rows' own cells (each row's printed sentence says how): PairLost: laid · PairNobody: laid · StripeNeeds: laid · StripeParts: laid · StripeOne: laid.
  DERIVED. THE GIVEN ROWS OF THIS SEAT. 5 by the template 'for every input the law returns true; each argument reads behind the call as it read before'; 0 by the template 'total and deterministic' (their statements: YtmoeoffjlicdjacDoorTotals.lean).
  GIVEN WITH THE SEED: the statements are not yours to turn. If you find one false, say at which input.
  Laid BY PROGRAM, IN A SANDBOX (cutbox-rows.mjs): the forced cells as the released guide's own fill.sh prints them over the translation f47bda8cfc873691… (all of the seat's roots in one cut). By AI agents, Wed Nov 11 2026. No macro, syntax, notation, axiom, sorry.
-/
import Derived.Test.YtmoeoffjlicdjacDoorChecked
import GoSem.Claim
import GoSem.ClaimJoined
import GoSem.ClaimMapViews
import Derived.JoinedTies
import Derived.KernelRfl
namespace Go.Proofs.YtmoeoffjlicdjacDoor
/- THE CELL 'sum', in the pinned program and in every row, IS THE sha256 OF THE DUMP (.gsa) THAT YtmoeoffjlicdjacDoorProg.lean LOADS. Nothing in Lean hashes anything: it is a label: what it is worth is what the hold of that sum in a sandbox is worth. -/
noncomputable def Tryd.pinned : Pinned := { name := "ytmoeoffjlicdjacdoor", sum := "f47bda8cfc87369114874a5ea685256338a76371659f0ba7af29e032c8900a9d", checked := Tryd.checked }
namespace Rows
def none {H : Type} : Left H := { results := [], args := [] }

/- WHAT THE LISTED PACKAGE-LEVEL VARIABLES READ AS WHEN THE CALL BEGINS. Each datum BY PROGRAM (the guide's laid-datum.mjs) off the statement by which the dump's own 'gosem.cut.vars' lays the variable. In a bare row this is a premise. The card (YtmoeoffjlicdjacDoorCards.lean) ties it to the program's text. -/
def laid_dryrot_crc_steps {H : Type} : DataW H := .agg [.lit (.int .u32 0), .lit (.int .u32 1098587580), .lit (.int .u32 2197175160), .lit (.int .u32 3280807620)]

/-- 'dryrotlaw05.PairLost': WHATEVER THE INPUT: true; the input reads as it did. -/
def pairLostSpec : ChangeSpec := { name := "pairLost", fn := fun _ => fun
  | [d1, d2, d3, d4, d5] => { results := [.lit (.bool true)], args := [d1, d2, d3, d4, d5] }
  | _ => none }
def pairLostRow : OpenClaim := { program := "ytmoeoffjlicdjacdoor", sum := "f47bda8cfc87369114874a5ea685256338a76371659f0ba7af29e032c8900a9d", func := "dryrot/dryrotlaw05.PairLost", spec := "pairLost", named := ["dryrot/crc.steps"], apart := false, laid := [("dryrot/crc.steps", laid_dryrot_crc_steps)] }
def PairLostSaid : Prop := pairLostRow.holds Tryd.pinned (OpenSpec.ofChange pairLostSpec)

/-- ITS FALSE NEIGHBOUR: 'it returns false'. Refute it at one input. -/
def pairLostWrong : ChangeSpec := { name := "pairLost", fn := fun _ => fun
  | [d1, d2, d3, d4, d5] => { results := [.lit (.bool false)], args := [d1, d2, d3, d4, d5] }
  | _ => none }
def PairLostWrongFalsely : Prop := pairLostRow.holds Tryd.pinned (OpenSpec.ofChange pairLostWrong)

/-- 'dryrotlaw05.PairNobody': WHATEVER THE INPUT: true; the input reads as it did. -/
def pairNobodySpec : ChangeSpec := { name := "pairNobody", fn := fun _ => fun
  | [d] => { results := [.lit (.bool true)], args := [d] }
  | _ => none }
def pairNobodyRow : OpenClaim := { program := "ytmoeoffjlicdjacdoor", sum := "f47bda8cfc87369114874a5ea685256338a76371659f0ba7af29e032c8900a9d", func := "dryrot/dryrotlaw05.PairNobody", spec := "pairNobody", named := ["dryrot/crc.steps"], apart := false, laid := [("dryrot/crc.steps", laid_dryrot_crc_steps)] }
def PairNobodySaid : Prop := pairNobodyRow.holds Tryd.pinned (OpenSpec.ofChange pairNobodySpec)

/-- ITS FALSE NEIGHBOUR: 'it returns false'. Refute it at one input. -/
def pairNobodyWrong : ChangeSpec := { name := "pairNobody", fn := fun _ => fun
  | [d] => { results := [.lit (.bool false)], args := [d] }
  | _ => none }
def PairNobodyWrongFalsely : Prop := pairNobodyRow.holds Tryd.pinned (OpenSpec.ofChange pairNobodyWrong)

/-- 'dryrotlaw06.StripeNeeds': WHATEVER THE INPUT: true; the input reads as it did. -/
def stripeNeedsSpec : ChangeSpec := { name := "stripeNeeds", fn := fun _ => fun
  | [d1, d2] => { results := [.lit (.bool true)], args := [d1, d2] }
  | _ => none }
def stripeNeedsRow : OpenClaim := { program := "ytmoeoffjlicdjacdoor", sum := "f47bda8cfc87369114874a5ea685256338a76371659f0ba7af29e032c8900a9d", func := "dryrot/dryrotlaw06.StripeNeeds", spec := "stripeNeeds", recurses := true, named := ["dryrot/crc.steps"], apart := false, laid := [("dryrot/crc.steps", laid_dryrot_crc_steps)] }
def StripeNeedsSaid : Prop := stripeNeedsRow.holds Tryd.pinned (OpenSpec.ofChange stripeNeedsSpec)

/-- ITS FALSE NEIGHBOUR: 'it returns false'. Refute it at one input. -/
def stripeNeedsWrong : ChangeSpec := { name := "stripeNeeds", fn := fun _ => fun
  | [d1, d2] => { results := [.lit (.bool false)], args := [d1, d2] }
  | _ => none }
def StripeNeedsWrongFalsely : Prop := stripeNeedsRow.holds Tryd.pinned (OpenSpec.ofChange stripeNeedsWrong)

/-- 'dryrotlaw06.StripeParts': WHATEVER THE INPUT: true; the input reads as it did. -/
def stripePartsSpec : ChangeSpec := { name := "stripeParts", fn := fun _ => fun
  | [d1, d2, d3, d4] => { results := [.lit (.bool true)], args := [d1, d2, d3, d4] }
  | _ => none }
def stripePartsRow : OpenClaim := { program := "ytmoeoffjlicdjacdoor", sum := "f47bda8cfc87369114874a5ea685256338a76371659f0ba7af29e032c8900a9d", func := "dryrot/dryrotlaw06.StripeParts", spec := "stripeParts", recurses := true, named := ["dryrot/crc.steps"], apart := false, laid := [("dryrot/crc.steps", laid_dryrot_crc_steps)] }
def StripePartsSaid : Prop := stripePartsRow.holds Tryd.pinned (OpenSpec.ofChange stripePartsSpec)

/-- ITS FALSE NEIGHBOUR: 'it returns false'. Refute it at one input. -/
def stripePartsWrong : ChangeSpec := { name := "stripeParts", fn := fun _ => fun
  | [d1, d2, d3, d4] => { results := [.lit (.bool false)], args := [d1, d2, d3, d4] }
  | _ => none }
def StripePartsWrongFalsely : Prop := stripePartsRow.holds Tryd.pinned (OpenSpec.ofChange stripePartsWrong)

/-- 'dryrotlaw06.StripeOne': WHATEVER THE INPUT: true; the input reads as it did. -/
def stripeOneSpec : ChangeSpec := { name := "stripeOne", fn := fun _ => fun
  | [d1, d2] => { results := [.lit (.bool true)], args := [d1, d2] }
  | _ => none }
def stripeOneRow : OpenClaim := { program := "ytmoeoffjlicdjacdoor", sum := "f47bda8cfc87369114874a5ea685256338a76371659f0ba7af29e032c8900a9d", func := "dryrot/dryrotlaw06.StripeOne", spec := "stripeOne", unfollowed := true, recurses := true, named := ["dryrot/crc.steps"], apart := false, laid := [("dryrot/crc.steps", laid_dryrot_crc_steps)] }
def StripeOneSaid : Prop := stripeOneRow.holds Tryd.pinned (OpenSpec.ofChange stripeOneSpec)

/-- ITS FALSE NEIGHBOUR: 'it returns false'. Refute it at one input. -/
def stripeOneWrong : ChangeSpec := { name := "stripeOne", fn := fun _ => fun
  | [d1, d2] => { results := [.lit (.bool false)], args := [d1, d2] }
  | _ => none }
def StripeOneWrongFalsely : Prop := stripeOneRow.holds Tryd.pinned (OpenSpec.ofChange stripeOneWrong)

/- THE SECOND FORM. 'bulk': how many values and letters a reading holds, each counted each time it is reached (what is shared counts as often as it is met; a slice's spare places count too). A statement '..UptoSaid' is the law's where the arguments, and the package variables that the reading takes, are together of bulk at most 1048576: NARROWER than '..Said'. Prove '..Said' where nothing that the law and all that it calls make is longer than what came in: it says more and counts as full. Else prove '..UptoSaid'. A law counts once. -/
mutual
def uptoBulk {H : Type} : DataW H → Nat
  | .lit (.string bytes) => bytes.length + 1
  | .lit _ => 1
  | .nil => 1
  | .ptr d => uptoBulk d + 1
  | .slice elems spare => uptoBulkAll elems + uptoBulkAll spare + 1
  | .agg parts => uptoBulkAll parts + 1
  | .iface _ d => uptoBulk d + 1
  | .map entries => uptoBulkEntries entries + 1
  | .held _ => 1
def uptoBulkAll {H : Type} : List (DataW H) → Nat
  | [] => 0
  | d :: r => uptoBulk d + uptoBulkAll r
def uptoBulkEntries {H : Type} : List (Lit × DataW H) → Nat
  | [] => 0
  | x :: r => uptoBulkEntry x + uptoBulkEntries r
def uptoBulkEntry {H : Type} : Lit × DataW H → Nat
  | (.string bytes, d) => bytes.length + uptoBulk d + 1
  | (_, d) => uptoBulk d + 1
 end
def uptoSmall : (H : Type) → List (DataW H) → Bool := fun _ ds => decide (uptoBulkAll ds ≤ 1048576)
def OpenSpec.upto (s : _root_.Go.ChangeSpec) : _root_.Go.OpenSpec := { _root_.Go.OpenSpec.ofChange s with cond := some uptoSmall }

/-- 'dryrotlaw05.PairLost', WHERE WHAT IT READS IS OF BULK AT MOST 1048576: true; the input reads as it did. -/
def pairLostUptoRow : OpenClaim := { program := "ytmoeoffjlicdjacdoor", sum := "f47bda8cfc87369114874a5ea685256338a76371659f0ba7af29e032c8900a9d", func := "dryrot/dryrotlaw05.PairLost", spec := "pairLost", named := ["dryrot/crc.steps"], apart := false, laid := [("dryrot/crc.steps", laid_dryrot_crc_steps)], narrowed := true }
def PairLostUptoSaid : Prop := pairLostUptoRow.holds Tryd.pinned (OpenSpec.upto pairLostSpec)

/-- 'dryrotlaw05.PairNobody', WHERE WHAT IT READS IS OF BULK AT MOST 1048576: true; the input reads as it did. -/
def pairNobodyUptoRow : OpenClaim := { program := "ytmoeoffjlicdjacdoor", sum := "f47bda8cfc87369114874a5ea685256338a76371659f0ba7af29e032c8900a9d", func := "dryrot/dryrotlaw05.PairNobody", spec := "pairNobody", named := ["dryrot/crc.steps"], apart := false, laid := [("dryrot/crc.steps", laid_dryrot_crc_steps)], narrowed := true }
def PairNobodyUptoSaid : Prop := pairNobodyUptoRow.holds Tryd.pinned (OpenSpec.upto pairNobodySpec)

/-- 'dryrotlaw06.StripeNeeds', WHERE WHAT IT READS IS OF BULK AT MOST 1048576: true; the input reads as it did. -/
def stripeNeedsUptoRow : OpenClaim := { program := "ytmoeoffjlicdjacdoor", sum := "f47bda8cfc87369114874a5ea685256338a76371659f0ba7af29e032c8900a9d", func := "dryrot/dryrotlaw06.StripeNeeds", spec := "stripeNeeds", recurses := true, named := ["dryrot/crc.steps"], apart := false, laid := [("dryrot/crc.steps", laid_dryrot_crc_steps)], narrowed := true }
def StripeNeedsUptoSaid : Prop := stripeNeedsUptoRow.holds Tryd.pinned (OpenSpec.upto stripeNeedsSpec)

/-- 'dryrotlaw06.StripeParts', WHERE WHAT IT READS IS OF BULK AT MOST 1048576: true; the input reads as it did. -/
def stripePartsUptoRow : OpenClaim := { program := "ytmoeoffjlicdjacdoor", sum := "f47bda8cfc87369114874a5ea685256338a76371659f0ba7af29e032c8900a9d", func := "dryrot/dryrotlaw06.StripeParts", spec := "stripeParts", recurses := true, named := ["dryrot/crc.steps"], apart := false, laid := [("dryrot/crc.steps", laid_dryrot_crc_steps)], narrowed := true }
def StripePartsUptoSaid : Prop := stripePartsUptoRow.holds Tryd.pinned (OpenSpec.upto stripePartsSpec)

/-- 'dryrotlaw06.StripeOne', WHERE WHAT IT READS IS OF BULK AT MOST 1048576: true; the input reads as it did. -/
def stripeOneUptoRow : OpenClaim := { program := "ytmoeoffjlicdjacdoor", sum := "f47bda8cfc87369114874a5ea685256338a76371659f0ba7af29e032c8900a9d", func := "dryrot/dryrotlaw06.StripeOne", spec := "stripeOne", unfollowed := true, recurses := true, named := ["dryrot/crc.steps"], apart := false, laid := [("dryrot/crc.steps", laid_dryrot_crc_steps)], narrowed := true }
def StripeOneUptoSaid : Prop := stripeOneUptoRow.holds Tryd.pinned (OpenSpec.upto stripeOneSpec)

end Rows
end Go.Proofs.YtmoeoffjlicdjacDoor
