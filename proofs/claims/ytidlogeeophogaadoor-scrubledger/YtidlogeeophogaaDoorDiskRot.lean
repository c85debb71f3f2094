/- The disk's Rot and Extents: their contracts. -/
import Derived.Test.YtidlogeeophogaaDoorDiskSyncD
import Derived.Test.YtidlogeeophogaaDoorDiskWriteE
namespace Go.Proofs.YtidlogeeophogaaDoor
open Go.RowKit Go.Maps
set_option linter.unusedVariables false

/-- What rot leaves of an extent. -/
def Ext.rot (x : Ext) (k m : Nat) : Ext := { x with dur := x.dur.set k (x.dur.getD k 0 ^^^ m) }
theorem xor8 (x y : Nat) (hx : x < 256) (hy : y < 256) : bits .xor .u8 (x : Int) (y : Int) = ((x ^^^ y : Nat) : Int) := bits_xor_u .u8 rfl x y hx hy
theorem getD_b {l : List Nat} {k : Nat} (hk : k < l.length) (h : ∀ x ∈ l, x < 256) : l.getD k 0 < 256 := by
  rw [List.getD_eq_getElem?_getD, List.getElem?_eq_getElem hk]
  exact h _ (List.getElem_mem hk)
theorem Ext.rot_ok {x : Ext} (h : x.ok) {k m : Nat} (hk : k < 128) (hm : m < 256) : (x.rot k m).ok := by
  refine ⟨⟨by simp [Ext.rot, h.1.1], fun y hy => ?_⟩, h.2⟩
  rcases List.mem_or_eq_of_mem_set hy with hy | rfl
  · exact h.1.2 y hy
  · exact Nat.xor_lt_two_pow (n := 8) (getD_b (by rw [h.1.1]; exact hk) h.1.2) hm
theorem cells_rot {x : Ext} (h : x.ok) (k y : Nat) (hk : k < 128) : splice x.cells k [.int .u8 (y : Int)] = ({ x with dur := x.dur.set k y } : Ext).cells := by
  have e : ∀ (l : List Value) (j : Nat) (v : Value), j < l.length → splice l j [v] = l.set j v := by
    intro l j v hj
    rw [List.set_eq_take_append_cons_drop, if_pos hj]
    simp [splice]
  rw [e _ _ _ (by rw [Ext.cells_length h]; omega)]
  unfold Ext.cells
  rw [List.set_append_left _ _ (by rw [length_vb, h.1.1]; exact hk)]
  congr 1
  simp [vb, List.map_set]
theorem load_run {o : Oper} {a : Act} {w : World} {ty : TypeId} {x : Operand} {vx v : Value} (ho : o.op = Op.load ty x) (hx : a.eval x = vx) (hr : (Instr.loadAt ty vx).run Tryd.prog w = .ok v w) : (execOp a.eval o).run Tryd.prog w = .ok (.value v) w := by
  simp [execOp, ho, hx, hr, Result.andThen]
theorem arr_index (g o k : Nat) (hk : k < 128) (wx : World) : (Instr.indexAt 116 (.pointer (some ⟨g, o, none⟩)) (.int .i64 (k : Int))).run Tryd.prog wx = .ok (.pointer (some ⟨g, o + k, none⟩)) wx := by
  rw [run_indexAt_array (P := Tryd.prog) wx 116 ⟨g, o, none⟩ .i64 (k : Int) (by kernel_rfl)]
  have h1 : Tryd.prog.arrayLen 116 = 128 := by kernel_rfl
  have h2 : (sizeOf (Tryd.prog.elem 116)).run Tryd.prog wx = .ok 1 wx := by kernel_rfl
  rw [h1, if_pos ⟨by omega, by omega⟩, h2]
  simp [Result.andThen, add_none]

set_option maxHeartbeats 1000000 in
theorem extents_disk (w : World) (d : Nat) (F : Nat → Prop) (N : Nat) (M : List UInt8 → List Ext) (free fuse : Int) (h : DiskOf w d F N M free fuse) (s : ByteArray) (hs : s.size ≤ maxLen) (n : Nat) (HN : Hid (n = (M s.data.toList).length)) :
    Calls Tryd.prog 57 #[.pointer (some ⟨d, 0, none⟩), .string s] w fun e w' => e = .returned (.int .i64 n) ∧ w' = w := by
  obtain ⟨bm, D, G, C, hI⟩ := h.is
  obtain ⟨va, vc, hlk⟩ := hI.look_len s hs n HN
  have c0 := hI.c0
  clear hI
  go_enter Tryd.func57, Tryd.ntmps57
  go_wp2_with fail
  refine (isMade_any _ d F N M free fuse h).mono ?_
  rintro e w1 ⟨rfl, rfl⟩
  go_wp2
  go_ret
  exact ⟨rfl, rfl⟩

end Go.Proofs.YtidlogeeophogaaDoor
