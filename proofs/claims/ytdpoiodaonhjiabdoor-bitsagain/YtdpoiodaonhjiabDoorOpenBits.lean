/- Bits that came in by value: what their reading gives. -/
import Derived.Test.YtdpoiodaonhjiabDoorOpen
import Derived.Lib.SmallJoins
namespace Go.Proofs.YtdpoiodaonhjiabDoor
open Go.ChangeShapes Go.WideShapes Go.ChangeAt Go.RowKit Go.Joins
set_option linter.unusedVariables false
theorem Tryd.cellsOfBits : Tryd.prog.cellsOf 24 = 2 := by kernel_rfl
theorem opens_bits {H : Type} {enc : TypeId × Value → H} {W : World} {r : Reach} {base : Nat} {v : Value} {d : DataW H} {p : List MemPlace}
    (hv : Value.okWide Tryd.prog W r base 24 v) (h : DataW.Trod enc Tryd.prog W 0 (fun _ => true) true 24 v d p) :
    ∃ (a : Option Addr) (len cap : Nat) (x : Int) (zs : List Nat), v = .agg #[.slice a len cap, .int .i64 x] ∧ Bs W a len zs ∧ (Lit.int .i64 x).wf = true := by
  obtain ⟨v0, v1, y0, y1, n, rfl, hd, hp, h0, h1⟩ := open_agg2 Tryd.underlying24 (by kernel_rfl) Tryd.cellsOfBits hv h
  obtain ⟨x, hc1, _, hwf⟩ := DataW.trod_int Tryd.underlying3 h1
  simp at hc1
  subst hc1
  rcases open_ints Tryd.underlying22 Tryd.underlying5 (by kernel_rfl) h0 with ⟨hcs, hx⟩ | ⟨a, l, c, zs, hcs, _, hl, hm, hz, hx, hcell, hwz⟩
  · simp at hcs
    subst hcs
    exact ⟨none, 0, 0, x, [], rfl, Bs.nil W, hwf⟩
  · simp at hcs
    subst hcs
    have hz' : zs.length = c := by simpa using hz
    exact ⟨some a, l, c, x, _, rfl, bs_of_ints (by omega) (by omega) hcell hwz, hwf⟩
end Go.Proofs.YtdpoiodaonhjiabDoor
