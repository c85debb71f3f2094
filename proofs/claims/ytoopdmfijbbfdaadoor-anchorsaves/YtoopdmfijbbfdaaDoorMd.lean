/- Pairs: half a store, Store on a disk that has neither file. -/
import Derived.Test.YtoopdmfijbbfdaaDoorPairStore
namespace Go.Proofs.YtoopdmfijbbfdaaDoor
open Go.RowKit Go.Maps
set_option linter.unusedVariables false

theorem wpList_val {P : Program} {w w' : World} {ops : Array Oper} {rest : List Oper} {o : Oper} {a : Act} {Q : Exit → Act → World → Prop} (hgd : o.guard = none) (v : Value) (hrun : (execOp a.eval o).run P w = .ok (.value v) w') (h : wpList P ops Q rest (a.put o.dst v) w') : wpList P ops Q (o :: rest) a w := by
  refine wpList_plain hgd fun K hK => ?_
  unfold Oper.wp
  rw [hrun]
  exact hK _ _ h
theorem slice_run {o : Oper} {a : Act} {w : World} {x lo hi : Operand} {vx vlo vhi v : Value} {len cap : Nat} {ad : Option Addr} (ho : o.op = Op.slice 24 x (some lo) (some hi) none) (hx : a.eval x = .slice ad len cap) (hlo : a.eval lo = vlo) (hhi : a.eval hi = vhi)
    (hr : (Instr.slice 24 (.slice ad len cap) (some vlo) (some vhi) none).run Tryd.prog w = .ok v w) : (execOp a.eval o).run Tryd.prog w = .ok (.value v) w := by
  have e : (Instr.sliceAt 24 (.slice ad len cap) (some vlo) (some vhi) none).run Tryd.prog w = .ok v w := by
    rw [run_sliceAt_slice (P := Tryd.prog) w 24 (.slice ad len cap) (some vlo) (some vhi) none (by kernel_rfl)]
    exact hr
  unfold execOp
  simp only [ho, Option.map_some, Option.map_none, hx, hlo, hhi, Sem.run_bind, e, Result.andThen_ok, Sem.run_pure]

end Go.Proofs.YtoopdmfijbbfdaaDoor

namespace Go.Proofs.YtoopdmfijbbfdaaDoor
open Go.RowKit Go.Maps
set_option linter.unusedVariables false

theorem fileA_list (s : ByteArray) : (fileA s).data.toList = s.data.toList ++ [46, 97] := by simp [fileA, ByteArray.data_append]
theorem fileB_list (s : ByteArray) : (fileB s).data.toList = s.data.toList ++ [46, 98] := by simp [fileB, ByteArray.data_append]
theorem file_ne (s : ByteArray) : (fileB s).data.toList ≠ (fileA s).data.toList := by
  rw [fileA_list, fileB_list]
  intro h
  have := List.append_cancel_left h
  simp at this

theorem bs_cut {w : World} {a : Option Addr} {len : Nat} {zs : List Nat} (h : Bs w a len zs) (m : Nat) (hm : m ≤ len) : Bs w a m (zs.take m) := by
  obtain ⟨hl, hx, hz, hn, hc⟩ := h
  refine ⟨by simp; omega, by omega, fun x hx => hz x (List.mem_of_mem_take hx), (fun h => by have := hn h; omega), fun x hx j hj => ?_⟩
  rw [hc x hx j (by omega)]
  simp [List.getD_eq_getElem?_getD, hj]
/-- The name 'x'. -/
def nmX : ByteArray := ⟨#[120]⟩
theorem nmX_A : nameB (fileA nmX).data.toList = true := by decide +kernel
theorem nmX_B : nameB (fileB nmX).data.toList = true := by decide +kernel

end Go.Proofs.YtoopdmfijbbfdaaDoor
