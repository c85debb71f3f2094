/- The tables, as the row lists them, are what the walks read. -/
import Derived.Test.YtoopdmfijbbfdaaDoorRows
import Derived.Test.YtoopdmfijbbfdaaDoorCrc
import Derived.WalkKit
import Derived.ProofKit
import Derived.OpenShut
import Derived.ChangeOld
import Derived.Deep.DeepHandedRow
import Derived.Lib.LaidTab
import Derived.Lib.ItoaNum
namespace Go.Proofs.YtoopdmfijbbfdaaDoor
open Go.ChangeShapes Go.WideShapes Go.ChangeAt Go.RowKit
set_option linter.unusedVariables false
theorem gCrc : Tryd.prog.globalNamed "dryrot/crc.steps" = some 3 := by kernel_rfl
theorem gCrcType : (Tryd.prog.globals[3]?).map (·.type) = some 154 := by kernel_rfl
theorem cellsCrc : Tryd.prog.cellsOf 154 = 4 := by kernel_rfl
theorem cellsU32 : Tryd.prog.cellsOf 110 = 1 := by kernel_rfl
theorem gPow : Tryd.prog.globalNamed "internal/strconv.uint64pow10" = some 0 := by kernel_rfl
theorem gPowType : (Tryd.prog.globals[0]?).map (·.type) = some 128 := by kernel_rfl
theorem cellsPow : Tryd.prog.cellsOf 128 = 20 := by kernel_rfl
theorem cellsU64 : Tryd.prog.cellsOf 88 = 1 := by kernel_rfl
theorem laid_tailW {P : Program} {x : String × DataW Unit} {rest : List (String × DataW Unit)} {W : World} (h : laidMet P (x :: rest) W) : laidMet P rest W := by
  obtain ⟨ps, ⟨g', t', cs, fuel, p, q, hg', ht', hvar, hd, hr, he⟩, hn, hk⟩ := h
  subst he
  exact ⟨q, hr, (List.nodup_append.1 hn).2.1, fun b off hm => hk b off (List.mem_append_right _ hm)⟩
theorem pow10Tab_eq : Lib.pow10Tab = [1, 10, 100, 1000, 10000, 100000, 1000000, 10000000, 100000000, 1000000000, 10000000000, 100000000000, 1000000000000, 10000000000000, 100000000000000, 1000000000000000, 10000000000000000, 100000000000000000, 1000000000000000000, 10000000000000000000] := by decide +kernel
abbrev Pow10 (W : World) : Prop := Lib.TabIs Tryd.prog W "internal/strconv.uint64pow10" .u64 Lib.pow10Tab
theorem walTab_of_laid {W : World} (h : laidMet Tryd.prog [("dryrot/crc.steps", Rows.laid_dryrot_crc_steps), ("math/bits.deBruijn32tab", Rows.laid_math_bits_deBruijn32tab), ("math/bits.deBruijn64tab", Rows.laid_math_bits_deBruijn64tab), ("internal/strconv.uint64pow10", Rows.laid_internal_strconv_uint64pow10)] W) : CrcTab W ∧ Pow10 W := by
  have h1 : Lib.TabIs Tryd.prog W "dryrot/crc.steps" .u32 [0, 1098587580, 2197175160, 3280807620] :=
    Lib.tabIs_of_head gCrc gCrcType Tryd.underlying154 Tryd.underlying110 cellsU32 cellsCrc h
  refine ⟨⟨h1.cell gCrc 0 (by decide), h1.cell gCrc 1 (by decide), h1.cell gCrc 2 (by decide), h1.cell gCrc 3 (by decide)⟩, ?_⟩
  have h2 := laid_tailW (laid_tailW (laid_tailW h))
  unfold Pow10
  rw [pow10Tab_eq]
  exact Lib.tabIs_of_head (rest := []) gPow gPowType Tryd.underlying128 Tryd.underlying88 cellsU64 cellsPow h2
end Go.Proofs.YtoopdmfijbbfdaaDoor
