/- A step that came in: its bytes. -/
import Derived.Test.YtekfonjlhjjhbaaOpen
import Derived.Test.YtekfonjlhjjhbaaSNobodyWalk
namespace Go.Proofs.Ytekfonjlhjjhbaa
open Go.ChangeShapes Go.WideShapes Go.ChangeAt Go.RowKit
set_option linter.unusedVariables false
theorem doCellsS : Try.prog.cellsOf 25 = 8 := by kernel_rfl
theorem opens_step {H : Type} {enc : TypeId × Value → H} {W : World} {fuel : Nat} {d : DataW H} {p : List MemPlace} {y0 y1 y2 y3 y4 y5 y6 y7 : Value}
    (hf : DataW.trod enc Try.prog W 0 (fun _ => true) true fuel 25 [y0, y1, y2, y3, y4, y5, y6, y7] = some (d, p)) :
    ∃ a len cap zs, y5 = .slice a len cap ∧ Bs W a len zs := by
  obtain ⟨xs, k, hk, hxy, _, hxl, hff⟩ := DataW.trod_struct Try.underlying25 hf
  have h5 : DataW.trod enc Try.prog W 0 (fun _ => true) true k 22 (([y0, y1, y2, y3, y4, y5, y6, y7].drop 5).take (Try.prog.cellsOf 22)) = xs[5]? := hff 5 _ rfl
  rw [show Try.prog.cellsOf 22 = 1 from by kernel_rfl] at h5
  have h5 : DataW.trod enc Try.prog W 0 (fun _ => true) true k 22 [y5] = xs[5]? := h5
  obtain ⟨⟨d5, p5⟩, e5⟩ : ∃ x, xs[5]? = some x := ⟨xs[5]'(by simp at hxl; omega), by simp at hxl; simp [hxl]⟩
  rw [e5] at h5
  have h5' := h5
  rcases open_ints Try.underlying22 Try.underlying5 (by kernel_rfl) h5 with ⟨hcs, hx⟩ | ⟨x, l, c, zs, hcs, _⟩
  · simp at hcs
    subst hcs
    obtain ⟨zs, hB, _⟩ := opens_bytes h5'
    exact ⟨_, _, _, zs, rfl, hB⟩
  · simp at hcs
    subst hcs
    obtain ⟨zs, hB, _⟩ := opens_bytes h5'
    exact ⟨_, _, _, zs, rfl, hB⟩
end Go.Proofs.Ytekfonjlhjjhbaa
