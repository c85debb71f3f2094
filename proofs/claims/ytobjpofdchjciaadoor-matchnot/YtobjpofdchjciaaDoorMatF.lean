/- match: Parse at the text that awake reads. -/
import Derived.Test.YtobjpofdchjciaaDoorMatE
namespace Go.Proofs.YtobjpofdchjciaaDoor
open Go.RowKit Go.Joins
set_option linter.unusedVariables false
def ascB (s : ByteArray) : Bool := s.data.toList.all fun b => decide (b.toNat < 128)
theorem asc_of {s : ByteArray} (h : ascB s = true) : ∀ (j : Nat) b, s.data.toList[j]? = some b → b.toNat < 128 := by
  intro j b hb
  have := List.all_eq_true.1 h b (List.mem_of_getElem? hb)
  simpa using this
def R0 : ByteArray := ⟨#[97, 61, 34, 120, 34, 44, 98, 33, 126, 34, 121, 46, 42, 34, 125]⟩
def R1 : ByteArray := ⟨#[98, 33, 126, 34, 121, 46, 42, 34, 125]⟩
theorem tm0 (w : World) (ht : SignTab w) : Calls Tryd.prog 27 #[.string R0] w fun e w' => e = .returned (.tuple #[.agg #[.int .i64 1, .string ⟨#[97]⟩, .string ⟨#[120]⟩], .string ⟨#[44, 98, 33, 126, 34, 121, 46, 42, 34, 125]⟩, .bool true]) ∧ Below w.heap.size w w' :=
  takeMatcher_at R0 1 1 ⟨#[34, 120, 34, 44, 98, 33, 126, 34, 121, 46, 42, 34, 125]⟩ w ht (by decide) (asc_of (by decide)) (by rfl) (by decide) (by rfl) (by decide) _ _ _ (by rfl) (by rfl) (by rfl) (by rfl)
theorem tm1 (w : World) (ht : SignTab w) : Calls Tryd.prog 27 #[.string R1] w fun e w' => e = .returned (.tuple #[.agg #[.int .i64 4, .string ⟨#[98]⟩, .string ⟨#[121, 46, 42]⟩], .string ⟨#[125]⟩, .bool true]) ∧ Below w.heap.size w w' :=
  takeMatcher_at R1 1 4 ⟨#[34, 121, 46, 42, 34, 125]⟩ w ht (by decide) (asc_of (by decide)) (by rfl) (by decide) (by rfl) (by decide) _ _ _ (by rfl) (by rfl) (by rfl) (by rfl)
def awM : List Mat := [⟨1, ⟨#[97]⟩, ⟨#[120]⟩⟩, ⟨4, ⟨#[98]⟩, ⟨#[121, 46, 42]⟩⟩]
theorem awM_can : canL awM = true := by decide +kernel
end Go.Proofs.YtobjpofdchjciaaDoor
