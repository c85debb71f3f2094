/- One extent of one file: its parts read, and turned. -/
import Derived.Test.YtidlogeeophogaaDoorDiskGrow
namespace Go.Proofs.YtidlogeeophogaaDoor
open Go.RowKit Go.Maps
set_option linter.unusedVariables false

theorem bs_range {w : World} {b off len : Nat} {zs : List Nat} (h : Bs w (some ⟨b, off, none⟩) len zs) : w.rangeAt b off (vb zs) := by
  intro j v hj
  have hlt := (List.getElem?_eq_some_iff.1 hj).1
  rw [length_vb] at hlt
  have h1 := h.2.2.2.2 _ rfl j (by rw [← h.1]; exact hlt)
  rw [add_none] at h1
  rw [vb_getD zs j hlt] at hj
  rw [h1]; exact hj
theorem upd_upd (M : List UInt8 → List Ext) (s : List UInt8) (l l' : List Ext) : upd (upd M s l) s l' = upd M s l' := by
  funext t
  by_cases h : t = s <;> simp [upd, h]
theorem upd_self (M : List UInt8 → List Ext) (s : List UInt8) (l : List Ext) (h : M s = l) : upd M s l = M := by
  funext t
  by_cases e : t = s
  · subst e; rw [upd_same, h]
  · rw [upd_other _ _ _ _ e]

section
variable {w : World} {d N : Nat} {F : Nat → Prop} {M : List UInt8 → List Ext} {free fuse : Int} {bm : Nat} {D : DataW Unit} {G C : List UInt8 → Nat}
theorem ne_of_at {s : List UInt8} {i : Nat} {x : Ext} (hx : (M s)[i]? = some x) : M s ≠ [] := fun e => by rw [e] at hx; simp at hx
/-- The parts of a file's extent. -/
theorem DiskIs.parts (h : DiskIs w d F N M free fuse bm D G C) (s : List UInt8) (i : Nat) (x : Ext) (hx : (M s)[i]? = some x) (o : Nat) (ho : i * 385 = o) :
    w.rangeAt (G s) o (vb x.dur) ∧ w.rangeAt (G s) (o + 128) (vb x.syn) ∧ w.rangeAt (G s) (o + 256) (vb x.wri) ∧ w.cell? ⟨G s, o + 384, none⟩ = some (.bool x.waits) ∧ w.frozen? ⟨G s, o + 384, none⟩ = false ∧ x.ok := by
  obtain ⟨hi, he⟩ := List.getElem?_eq_some_iff.1 hx
  obtain ⟨_, hrow, hok⟩ := h.2.2.2.2.2.1 s (ne_of_at hx)
  have hxo := hok _ (List.getElem_mem hi)
  rw [he] at hxo
  have hxo' := hxo
  obtain ⟨⟨d1, d2⟩, ⟨s1, s2⟩, ⟨w1, w2⟩⟩ := hxo'
  subst ho
  have hw : w.rangeAt (G s) (i * 385 + 384) [.bool x.waits] := own_range hrow hok i hi 384 _ (by simp) (fun j v hj => by
    have hlt := (List.getElem?_eq_some_iff.1 hj).1
    obtain rfl : j = 0 := by simp at hlt; omega
    rw [he]
    simp [Ext.cells, length_vb, d1, s1, w1] at hj ⊢
    exact hj)
  have hth := own_there hrow hok i hi 384 1 (by omega) 0 (by omega)
  refine ⟨?_, ?_, ?_, by simpa using hw 0 _ rfl, by simpa using hth.2, hxo⟩
  · have := own_range hrow hok i hi 0 (vb x.dur) (by rw [length_vb, d1]; omega) (fun j v hj => by
      have hlt := (List.getElem?_eq_some_iff.1 hj).1
      rw [he, Ext.cells, Nat.zero_add, List.getElem?_append_left hlt]
      exact hj)
    rwa [Nat.add_zero] at this
  · refine own_range hrow hok i hi 128 _ (by rw [length_vb, s1]; omega) (fun j v hj => ?_)
    have hlt := (List.getElem?_eq_some_iff.1 hj).1
    rw [length_vb, s1] at hlt
    rw [he, Ext.cells, List.getElem?_append_right (by rw [length_vb, d1]; omega), List.getElem?_append_left (by rw [length_vb, length_vb, d1, s1]; omega), length_vb, d1, show 128 + j - 128 = j by omega]
    exact hj
  · refine own_range hrow hok i hi 256 _ (by rw [length_vb, w1]; omega) (fun j v hj => ?_)
    have hlt := (List.getElem?_eq_some_iff.1 hj).1
    rw [length_vb, w1] at hlt
    rw [he, Ext.cells, List.getElem?_append_right (by rw [length_vb, d1]; omega), List.getElem?_append_right (by rw [length_vb, length_vb, d1, s1]; omega), List.getElem?_append_left (by rw [length_vb, length_vb, length_vb, d1, s1, w1]; omega), length_vb, length_vb, d1, s1, show 256 + j - 128 - 128 = j by omega]
    exact hj
theorem DiskIs.thereAt (h : DiskIs w d F N M free fuse bm D G C) (s : List UInt8) (i : Nat) (x : Ext) (hx : (M s)[i]? = some x) (o : Nat) (ho : i * 385 = o) (k m : Nat) (hk : k + m ≤ 385) : w.there (G s) (o + k) m := by
  obtain ⟨hi, he⟩ := List.getElem?_eq_some_iff.1 hx
  obtain ⟨_, hrow, hok⟩ := h.2.2.2.2.2.1 s (ne_of_at hx)
  subst ho
  exact own_there hrow hok i hi k m hk
/-- Cells of a file's extent are written: another extent stands there. -/
theorem DiskIs.put (h : DiskIs w d F N M free fuse bm D G C) (s : List UInt8) (i : Nat) (x : Ext) (hx : (M s)[i]? = some x) (o : Nat) (ho : i * 385 = o) (k : Nat) (cs : List Value) (y : Ext) (hy : y.ok) (hk : k + cs.length ≤ 385) (hsp : splice x.cells k cs = y.cells) :
    DiskIs (w.setCells (G s) (o + k) cs) d F N (upd M s ((M s).set i y)) free fuse bm D G C ∧ Gr F F w (w.setCells (G s) (o + k) cs) := by
  obtain ⟨hi, he⟩ := List.getElem?_eq_some_iff.1 hx
  obtain ⟨_, hrow, hok⟩ := h.2.2.2.2.2.1 s (ne_of_at hx)
  subst ho
  have hl : (cellsE (M s)).length = (M s).length * 385 := cellsE_length hok
  obtain ⟨h1, hg⟩ := own_storedAll (w := w) cs (i * 385 + k) _ w hrow (by rw [hl]; have : (i + 1) * 385 ≤ (M s).length * 385 := Nat.mul_le_mul_right _ hi; omega)
  rw [cellsE_splice (M s) hok i hi k cs y hk (by rw [he]; exact hsp)] at h1
  refine ⟨h.turned s (ne_of_at hx) ((M s).set i y) (by simp) (fun z hz => ?_) hg h1, Gr.of (Keeps.of_grown hg (fun g hg => ?_))⟩
  · rcases List.mem_or_eq_of_mem_set hz with hz | rfl
    · exact hok z hz
    · exact hy
  · cases hg
    exact h.2.2.1.2 s (ne_of_at hx)
/-- An element's address. -/
theorem ext_index (g n c i o : Nat) (hi : i < n) (ho : i * 385 = o) (wx : World) : (Instr.indexAt 121 (.slice (some ⟨g, 0, none⟩) n c) (.int .i64 (i : Int))).run Tryd.prog wx = .ok (.pointer (some ⟨g, o, none⟩)) wx := by
  rw [run_indexAt_slice _ _ _ _ _ _ _ (show Tryd.prog.underlying 121 = some (.slice (Tryd.prog.elem 121)) by kernel_rfl), if_pos ⟨by omega, by omega⟩, show Tryd.prog.elem 121 = 124 by kernel_rfl, sizeExt]
  show Result.ok (Value.pointer (some ((⟨g, 0, none⟩ : Addr).add ((i : Int).toNat * 385)))) wx = _
  rw [Int.toNat_natCast, ho, add_none, Nat.zero_add]
end
/-- What a write leaves of an extent. -/
def Ext.wrote (x : Ext) (zs : List Nat) : Ext := { x with wri := zs, waits := true }
theorem Ext.wrote_ok {x : Ext} (h : x.ok) {zs : List Nat} (hl : zs.length = 128) (hz : ∀ y ∈ zs, y < 256) : (x.wrote zs).ok := ⟨h.1, h.2.1, hl, hz⟩
end Go.Proofs.YtidlogeeophogaaDoor
