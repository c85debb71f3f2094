/- The table of the classes, as the row lists it, is what the walks read. -/
import Derived.Test.YtfgfkifdokeefaaDoorRows
import Derived.Test.YtfgfkifdokeefaaDoorBitsPutInt
import Derived.ProofKit
import Derived.OpenShut
import Derived.Deep.Strs
import Derived.Lib.LaidTab
namespace Go.Proofs.YtfgfkifdokeefaaDoor.Cd
open Go.ChangeShapes Go.WideShapes Go.ChangeAt Go.RowKit Go.Deep
set_option linter.unusedVariables false
theorem Tryd.cellsOf39 : Tryd.prog.cellsOf 39 = 1 := by kernel_rfl
theorem Tryd.cellsOf3 : Tryd.prog.cellsOf 3 = 1 := by kernel_rfl
theorem Tryd.cellsOfClass : Tryd.prog.cellsOf 99 = 3 := by kernel_rfl
theorem Tryd.cellsOfClasses : Tryd.prog.cellsOf 100 = 15 := by kernel_rfl
theorem gCls : Tryd.prog.globalNamed "dryrot/bits.classes" = some 0 := by kernel_rfl
theorem gClsType : (Tryd.prog.globals[0]?).map (·.type) = some 100 := by kernel_rfl

theorem class_cells {H : Type} {enc : TypeId × Value → H} {w : World} {base : Nat} {sp : Nat → Bool} {held : Bool} {fuel : Nat} {cs : List Value} {y : DataW H × List MemPlace} {a b c : Int}
    (h : DataW.trod enc Tryd.prog w base sp held fuel 99 cs = some y) (hy : y.1 = .agg [.lit (.int .u64 a), .lit (.int .i64 b), .lit (.int .i64 c)]) :
    cs[0]? = some (.int .u64 a) ∧ cs[1]? = some (.int .i64 b) ∧ cs[2]? = some (.int .i64 c) := by
  obtain ⟨y0, y1, y2, n, hx, hl, h0, h1, h2⟩ := trod_struct3 Tryd.underlying99 h
  obtain ⟨n0, c0, rfl, _⟩ := DataW.trod_int Tryd.underlying39 h0
  obtain ⟨n1, c1, rfl, _⟩ := DataW.trod_int Tryd.underlying3 h1
  obtain ⟨n2, c2, rfl, _⟩ := DataW.trod_int Tryd.underlying3 h2
  subst hx
  simp at hy
  obtain ⟨rfl, rfl, rfl⟩ := hy
  simp only [Tryd.cellsOf39, Tryd.cellsOf3] at c0 c1 c2
  have e0 := congrArg (·[0]?) c0
  have e1 := congrArg (·[0]?) c1
  have e2 := congrArg (·[0]?) c2
  simp [List.getElem?_drop] at e0 e1 e2
  exact ⟨e0, e1, e2⟩

theorem bitsTab_of_laid {W : World} (h : laidMet Tryd.prog [("dryrot/bits.classes", Rows.laid_dryrot_bits_classes)] W) : BitsTab W := by
  obtain ⟨ps, ⟨g', t', cs, fuel, p, q, hg', ht', hvar, hd, _, _⟩, _⟩ := h
  obtain rfl := Option.some.inj (gCls.symm.trans hg')
  obtain rfl := Option.some.inj (gClsType.symm.trans ht')
  obtain ⟨xs, m, _, hx, hl, hxl, hel⟩ := DataW.trod_array Tryd.underlying100 hd
  rw [Tryd.cellsOfClass] at hel
  have hxs := congrArg Prod.fst hx
  simp only [Rows.laid_dryrot_bits_classes, DataW.agg.injEq] at hxs
  have hcell : ∀ o, W.cell? ⟨0, o, none⟩ = cs[o]? := by
    intro o
    unfold World.var? at hvar
    rw [gCls] at hvar
    simp only [Option.bind_some] at hvar
    split at hvar
    · rename_i c e f hh
      unfold World.cell?
      simp at hvar
      simp only [hh]
      rw [← hvar]
      simp
    · cases hvar
  have key : ∀ i (hi : i < 5) a b c, (xs.map (·.1))[i]? = some (.agg [.lit (.int .u64 a), .lit (.int .i64 b), .lit (.int .i64 c)]) →
      W.cell? ⟨0, i * 3, none⟩ = some (.int .u64 a) ∧ W.cell? ⟨0, i * 3 + 1, none⟩ = some (.int .i64 b) ∧ W.cell? ⟨0, i * 3 + 2, none⟩ = some (.int .i64 c) := by
    intro i hi a b c hy
    obtain ⟨y, hy1⟩ : ∃ y, xs[i]? = some y := ⟨xs[i]'(by omega), by simp [hxl, hi]⟩
    rw [List.getElem?_map, hy1] at hy
    have h1 := hel i hi
    rw [hy1] at h1
    have := class_cells h1 (by simpa using hy)
    simp [List.getElem?_drop] at this
    rw [hcell, hcell, hcell]
    exact this
  rw [← hxs] at key
  intro k hk
  have hk5 : k = 0 ∨ k = 1 ∨ k = 2 ∨ k = 3 ∨ k = 4 := by omega
  rcases hk5 with rfl | rfl | rfl | rfl | rfl
  · exact key 0 (by omega) _ _ _ rfl
  · exact key 1 (by omega) _ _ _ rfl
  · exact key 2 (by omega) _ _ _ rfl
  · exact key 3 (by omega) _ _ _ rfl
  · exact key 4 (by omega) _ _ _ rfl
end Go.Proofs.YtfgfkifdokeefaaDoor.Cd
