/- A nil slice of bytes that came in has no room. -/
import Derived.Test.YthmknpdhgfmogaaOpen
namespace Go.Proofs.Ythmknpdhgfmogaa
open Go.ChangeShapes Go.WideShapes Go.ChangeAt Go.RowKit
set_option linter.unusedVariables false
theorem opens_cap {H : Type} {enc : TypeId × Value → H} {W : World} {fuel : Nat} {x : DataW H × List MemPlace} {a : Option Addr} {len cap : Nat}
    (hf : DataW.trod enc Try.prog W 0 (fun _ => true) true fuel 23 [.slice a len cap] = some x) : a = none → cap = 0 := by
  rintro rfl
  rcases open_ints Try.underlying23 Try.underlying5 (by kernel_rfl) hf with ⟨hcs, hx⟩ | ⟨x, l, c, zs, hcs, _⟩
  · simp at hcs
    exact hcs.2
  · simp at hcs
end Go.Proofs.Ythmknpdhgfmogaa
