/- The slot that a text has in a file's extent. -/
import Derived.Test.YtmoeoffjlicdjacDoorStrPay
namespace Go.Proofs.YtmoeoffjlicdjacDoor
open Go.RowKit Go.Maps
set_option linter.unusedVariables false

/-- A data file's part of a text. -/
def partS (zs : List Nat) (f i : Nat) : List Nat := (zs.drop (min ((i * 3 + f) * 105) zs.length)).take (min (min ((i * 3 + f) * 105) zs.length + 105) zs.length - min ((i * 3 + f) * 105) zs.length)
theorem partS_le (zs : List Nat) (f i : Nat) : (partS zs f i).length ≤ 105 := by unfold partS; rw [List.length_take]; omega
theorem partS_mem {zs : List Nat} (h : ∀ x ∈ zs, x < 256) (f i : Nat) : ∀ x ∈ partS zs f i, x < 256 := fun x hx => h x (List.mem_of_mem_drop (List.mem_of_mem_take hx))
def accS (zs : List Nat) (i k : Nat) : List Nat := (List.range k).foldl (fun s j => xorL s (slotB (partS zs j i))) (List.replicate 106 0)
theorem accS_succ (zs : List Nat) (i k : Nat) : accS zs i (k + 1) = xorL (accS zs i k) (slotB (partS zs k i)) := by simp [accS, List.range_succ]
theorem accS_ok {zs : List Nat} (h : ∀ x ∈ zs, x < 256) (i k : Nat) : (accS zs i k).length = 106 ∧ ∀ x ∈ accS zs i k, x < 256 := by
  induction k with
  | zero => exact ⟨by simp [accS], fun x hx => by simp [accS] at hx; omega⟩
  | succ k ih =>
    rw [accS_succ]
    exact ⟨xorL_length ih.1 (slotB_length _ (partS_le _ _ _)), xorL_lt ih.2 (slotB_lt _ (partS_le _ _ _) (partS_mem h _ _))⟩
/-- What a file's extent has of a text. -/
def slotF (zs : List Nat) (f i : Nat) : List Nat := if f < 3 then slotB (partS zs f i) else accS zs i 3

set_option maxHeartbeats 2000000 in
theorem slotOf_data (w : World) (a : Option Addr) (len cap : Nat) (zs : List Nat) (hB : Bs w a len zs) (hcap : len ≤ cap) (hlen : len ≤ 100000) (f i : Nat) (hf : f < 3) (hi : i ≤ 1000000) (L : List Nat) (HL : Hid (L = slotB (partS zs f i))) :
    Calls Tryd.prog 61 #[.slice a len cap, .int .i64 f, .int .i64 i] w fun e w' => e = .returned (.agg (vb L).toArray) ∧ Below w.heap.size w w' := by
  obtain ⟨hz, hzs⟩ := zero_of_info Tryd.infoSlot
  obtain ⟨c0, hc0⟩ : ∃ c0, c0 = List.replicate 106 0 := ⟨_, rfl⟩
  rw [← hc0] at hz
  have l0 : (vb c0).toArray.size = 106 := by rw [hc0]; rfl
  have lL : L.length = 106 := by rw [HL.out]; exact slotB_length _ (partS_le _ _ _)
  have HSZ : Hid ((Tryd.prog.info? 89).map (·.size) = some (vb L).toArray.size) := hidn (by rw [hzs]; simp [length_vb, lL])
  have HOLD : Hid ((vb c0).toArray.size = (vb L).toArray.size) := hidn (by rw [l0]; simp [length_vb, lL])
  have hf3 : decide (f < 3) = true := decide_eq_true hf
  have hf3' : decide ((f : Int) < 3) = true := decide_eq_true (by omega)
  obtain ⟨x, hx⟩ : ∃ x, x = (i * 3 + f) * 105 := ⟨_, rfl⟩
  obtain ⟨lo, hlo⟩ : ∃ lo, lo = min x len := ⟨_, rfl⟩
  obtain ⟨hi', hhi⟩ : ∃ h, h = min (lo + 105) len := ⟨_, rfl⟩
  have hw1 : IntKind.i64.wrap ((i : Int) * 3) = ((i * 3 : Nat) : Int) := by rw [IntKind.wrap_i64]; omega
  have hw2 : IntKind.i64.wrap (((i * 3 : Nat) : Int) + (f : Int)) = ((i * 3 + f : Nat) : Int) := by rw [IntKind.wrap_i64]; omega
  have hw3 : IntKind.i64.wrap (((i * 3 + f : Nat) : Int) * 105) = (x : Int) := by rw [IntKind.wrap_i64]; omega
  obtain ⟨x1, hx1⟩ : ∃ x1, x1 = i * 3 := ⟨_, rfl⟩
  obtain ⟨x2, hx2⟩ : ∃ x2, x2 = i * 3 + f := ⟨_, rfl⟩
  rw [← hx2] at hw2 hw3
  rw [← hx1] at hw1 hw2
  have hmn1 : (if len < x then (len : Int) else (x : Int)) = (lo : Int) := by split <;> omega
  obtain ⟨l5, hl5⟩ : ∃ l5, l5 = lo + 105 := ⟨_, rfl⟩
  have hw4 : IntKind.i64.wrap ((lo : Int) + 105) = (l5 : Int) := by rw [IntKind.wrap_i64]; omega
  have hmn2 : (if len < l5 then (len : Int) else (l5 : Int)) = (hi' : Int) := by split <;> omega
  have hbel1 : Below w.heap.size w (w.alloc (.cells (vb c0).toArray 89)) := (Below.refl _ _).alloc (Nat.le_refl _) _
  obtain ⟨w1, hw1'⟩ : ∃ w1, w1 = w.alloc (.cells (vb c0).toArray 89) := ⟨_, rfl⟩
  have hr1 : w1.heap[w.heap.size]? = some (.cells (vb c0).toArray 89 (0, 0)) := by rw [hw1']; exact heap_alloc_new _ _
  rw [← hw1'] at hbel1
  obtain ⟨a', hsl, hB', _⟩ := slice_part (hB.below hbel1) hcap lo hi' (by omega) (by omega)
  obtain ⟨m, hm⟩ : ∃ m, m = hi' - lo := ⟨_, rfl⟩
  rw [← hm] at hsl hB'
  have hB2 : Bs w1 a' m (partS zs f i) := by
    have e : partS zs f i = (zs.drop lo).take m := by unfold partS; rw [hm, hhi, hlo, hx, hB.1]
    rw [e]; exact hB'
  have HB2 := hidn hB2
  have HM : Hid (m ≤ 105) := hidn (by omega)
  have HR1 := hidn hr1
  have HW1 := hidn hw1'
  have HL1 := hidn hbel1
  have hlt1 : w.heap.size < w1.heap.size := (Array.getElem?_eq_some_iff.1 hr1).1
  clear hc0 l0 lL hzs hx hlo hhi hx1 hx2 hl5 hm hB2 hB' hr1 hw1' hbel1 hB
  go_enter Tryd.func61, Tryd.ntmps61
  go_wp2_with fail
  rw [← HW1.out]
  clear hsl
  refine (partSlot_any _ a' m (cap - lo) (partS zs f i) HB2.out HM.out L HL).mono ?_
  rintro e w2 ⟨rfl, hb2⟩
  have HR2 := hidn ((hb2.block _ hlt1).trans HR1.out)
  have HL2 := hidn (HL1.out.trans (hb2.mono HL1.out.size))
  clear hb2
  repeat (first
    | (with_reducible refine wpList_store_row (by rfl) 89 (.tmp 6) (.tmp 28) (by rfl) w.heap.size (vb L).toArray (by kernel_rfl) (by kernel_rfl) 89 (vb c0).toArray HR2.out HSZ.out HOLD.out image_all ?_)
    | go_values | go_skip | go_guarded | go_step | go_upon | (simp only []))
  exact bodyPost_ret (v := .agg (vb L).toArray) (results_cell_row rfl _ _ w.heap.size 89 _ (0, 0) _ rfl (setRow_heap _ _ _ _ _ _ HR2.out) Tryd.underlying89 rfl HSZ.out) rfl ⟨rfl, below_setRow HL2.out (Nat.le_refl _) _⟩
end Go.Proofs.YtmoeoffjlicdjacDoor
