/- Pairs: Drop, Store on a disk that has neither file; Need. -/
import Derived.Test.YtoopdmfijbbfdaaDoorPairHalf1
namespace Go.Proofs.YtoopdmfijbbfdaaDoor
open Go.RowKit Go.Maps
set_option linter.unusedVariables false

theorem fileA_list (s : ByteArray) : (fileA s).data.toList = s.data.toList ++ [46, 97] := by simp [fileA, ByteArray.data_append]
theorem fileB_list (s : ByteArray) : (fileB s).data.toList = s.data.toList ++ [46, 98] := by simp [fileB, ByteArray.data_append]
theorem file_ne (s : ByteArray) : (fileB s).data.toList ≠ (fileA s).data.toList := by
  rw [fileA_list, fileB_list]
  intro h
  have := List.append_cancel_left h
  simp at this

theorem bs_cut {w : World} {a : Option Addr} {len : Nat} {zs : List Nat} (h : Bs w a len zs) (m : Nat) (hm : m ≤ len) : Bs w a m (zs.take m) := by
  obtain ⟨hl, hx, hz, hn, hc⟩ := h
  refine ⟨by simp; omega, by omega, fun x hx => hz x (List.mem_of_mem_take hx), (fun h => by have := hn h; omega), fun x hx j hj => ?_⟩
  rw [hc x hx j (by omega)]
  simp [List.getD_eq_getElem?_getD, hj]
/-- The name 'x'. -/
def nmX : ByteArray := ⟨#[120]⟩
theorem nmX_A : nameB (fileA nmX).data.toList = true := by decide +kernel
theorem nmX_B : nameB (fileB nmX).data.toList = true := by decide +kernel

end Go.Proofs.YtoopdmfijbbfdaaDoor
