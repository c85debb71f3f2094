/- The tables, as the row lists them, are what the walks read. -/
import Derived.Test.YtfgfkifdokeefaaGreatDoorCodLaid
namespace Go.Proofs.YtfgfkifdokeefaaGreatDoor
open Go.ChangeShapes Go.WideShapes Go.ChangeAt Go.RowKit Go.Deep
set_option linter.unusedVariables false

theorem bkTab_of_laid {W : World} (h : laidMet Tryz.prog [("dryrot/crc.steps", Rows.laid_dryrot_crc_steps), ("math/bits.deBruijn32tab", Rows.laid_math_bits_deBruijn32tab), ("math/bits.deBruijn64tab", Rows.laid_math_bits_deBruijn64tab), ("internal/strconv.uint64pow10", Rows.laid_internal_strconv_uint64pow10), ("dryrot/bits.classes", Rows.laid_dryrot_bits_classes)] W) : Cd.BitsTab W ∧ Cd.DbTab W := by
  have h2 := Cd.laid_tail (Cd.laid_tail h)
  refine ⟨Cd.bitsTab_of_laid (Cd.laid_tail (Cd.laid_tail h2)), fun j hj => ?_⟩
  have hh : Lib.TabIs Tryz.prog W "math/bits.deBruijn64tab" .u8 (Lib.deBruijn64tab.map Int.ofNat) :=
    Lib.tabIs_of_head (rest := [("internal/strconv.uint64pow10", Rows.laid_internal_strconv_uint64pow10), ("dryrot/bits.classes", Rows.laid_dryrot_bits_classes)]) Cd.gDb Cd.gDbType Tryz.underlying365 Tryz.underlying5 Cd.cellsU8 Cd.cellsDb h2
  have := hh.cell Cd.gDb j (by simpa using hj)
  rw [this]
  simp [List.getD_eq_getElem?_getD, hj]
end Go.Proofs.YtfgfkifdokeefaaGreatDoor
