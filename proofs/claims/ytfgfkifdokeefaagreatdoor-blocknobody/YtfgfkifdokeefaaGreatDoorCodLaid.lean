/- The two tables, as the row lists them, are what the walks read. -/
import Derived.Test.YtfgfkifdokeefaaGreatDoorBitsLaid
import Derived.Test.YtfgfkifdokeefaaGreatDoorCodZ
namespace Go.Proofs.YtfgfkifdokeefaaGreatDoor.Cd
open Go.ChangeShapes Go.WideShapes Go.ChangeAt Go.RowKit Go.Deep
set_option linter.unusedVariables false
theorem gDb : Tryz.prog.globalNamed "math/bits.deBruijn64tab" = some 3 := by kernel_rfl
theorem gDbType : (Tryz.prog.globals[3]?).map (·.type) = some 365 := by kernel_rfl
theorem cellsDb : Tryz.prog.cellsOf 365 = 64 := by kernel_rfl
theorem cellsU8 : Tryz.prog.cellsOf 5 = 1 := by kernel_rfl
theorem laid_tail {P : Program} {x : String × DataW Unit} {rest : List (String × DataW Unit)} {W : World} (h : laidMet P (x :: rest) W) : laidMet P rest W := by
  obtain ⟨ps, ⟨g', t', cs, fuel, p, q, hg', ht', hvar, hd, hr, he⟩, hn, hk⟩ := h
  subst he
  exact ⟨q, hr, (List.nodup_append.1 hn).2.1, fun b off hm => hk b off (List.mem_append_right _ hm)⟩
theorem codTab_of_laid {W : World} (h : laidMet Tryz.prog [("math/bits.deBruijn64tab", Rows.laid_math_bits_deBruijn64tab), ("dryrot/bits.classes", Rows.laid_dryrot_bits_classes)] W) : BitsTab W ∧ DbTab W := by
  refine ⟨bitsTab_of_laid (laid_tail h), fun j hj => ?_⟩
  have hh : Lib.TabIs Tryz.prog W "math/bits.deBruijn64tab" .u8 (Lib.deBruijn64tab.map Int.ofNat) :=
    Lib.tabIs_of_head (rest := [("dryrot/bits.classes", Rows.laid_dryrot_bits_classes)]) gDb gDbType Tryz.underlying365 Tryz.underlying5 cellsU8 cellsDb h
  have := hh.cell gDb j (by simpa using hj)
  rw [this]
  simp [List.getD_eq_getElem?_getD, hj]
end Go.Proofs.YtfgfkifdokeefaaGreatDoor.Cd
