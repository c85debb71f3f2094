/- Slots of a stripe: a part's slot. -/
import Derived.Test.YtmoeoffjlicdjacDoorPairBase
namespace Go.Proofs.YtmoeoffjlicdjacDoor
open Go.RowKit Go.Maps
set_option linter.unusedVariables false

theorem Tryd.infoSlot : (Tryd.prog.info? 89).map (fun i => (i.zero, i.size)) = some (some (.agg (vb (List.replicate 106 0)).toArray), 106) := by kernel_rfl
/-- A part's slot: its length, the part, noughts. -/
def slotB (p : List Nat) : List Nat := p.length :: (p ++ List.replicate (105 - p.length) 0)
theorem slotB_length (p : List Nat) (h : p.length ≤ 105) : (slotB p).length = 106 := by simp [slotB]; omega
theorem slotB_lt (p : List Nat) (h : p.length ≤ 105) (hp : ∀ x ∈ p, x < 256) : ∀ x ∈ slotB p, x < 256 := by
  intro x hx
  simp only [slotB, List.mem_cons, List.mem_append, List.mem_replicate] at hx
  rcases hx with rfl | hx | ⟨_, rfl⟩
  · omega
  · exact hp x hx
  · omega
theorem row_range {w : World} {b t : Nat} {L : List Nat} (h : w.heap[b]? = some (.cells (vb L).toArray t (0, 0))) : w.rangeAt b 0 (vb L) := by
  intro j v hj
  rw [Nat.zero_add, cell_of_row _ _ _ _ _ _ h]
  simpa using hj
theorem conv_u8 {n : Nat} (h : n < 256) : IntKind.u8.wrap (n : Int) = (n : Int) := by rw [IntKind.wrap_u8]; omega

theorem slot_row (p : List Nat) (len : Nat) (hpl : p.length = len) (hl : len ≤ 105) :
    ((vb (List.replicate 106 0)).toArray.setIfInBounds 0 (.int .u8 (len : Int))).toList.take 1 ++ vb p ++ ((vb (List.replicate 106 0)).toArray.setIfInBounds 0 (.int .u8 (len : Int))).toList.drop (1 + len) = vb (slotB p) := by
  have e : ((vb (List.replicate 106 0)).toArray.setIfInBounds 0 (.int .u8 (len : Int))).toList = Value.int .u8 (len : Int) :: List.replicate 105 (Value.int .u8 0) := by
    rw [List.setIfInBounds_toArray, List.toList_toArray, show (106 : Nat) = 105 + 1 from rfl, List.replicate_succ]
    simp [vb]
  rw [e, Nat.add_comm 1 len, List.drop_succ_cons, List.drop_replicate]
  simp [slotB, vb, hpl]

set_option maxHeartbeats 2000000 in
theorem partSlot_any (w : World) (a : Option Addr) (len cap : Nat) (p : List Nat) (hB : Bs w a len p) (hl : len ≤ 105) (L : List Nat) (HL : Hid (L = slotB p)) :
    Calls Tryd.prog 64 #[.slice a len cap] w fun e w' => e = .returned (.agg (vb L).toArray) ∧ Below w.heap.size w w' := by
  obtain ⟨hz, hzs⟩ := zero_of_info Tryd.infoSlot
  obtain ⟨c0, hc0⟩ : ∃ c0, c0 = List.replicate 106 0 := ⟨_, rfl⟩
  rw [← hc0] at hz
  have l0 : (vb c0).toArray.size = 106 := by rw [hc0]; rfl
  have hpl := hB.1
  have lL : L.length = 106 := by rw [HL.out]; exact slotB_length p (by omega)
  have HSZ : Hid ((Tryd.prog.info? 89).map (·.size) = some (vb L).toArray.size) := hidn (by rw [hzs]; simp [length_vb, lL])
  have HSL : Hid ((Tryd.prog.info? 89).map (·.size) = some (vb L).length) := hidn (by rw [hzs, length_vb, lL])
  have HOLD : Hid ((vb c0).toArray.size = (vb L).toArray.size) := hidn (by rw [l0]; simp [length_vb, lL])
  -- the worlds
  have hv0 : (vb c0)[0]? = some (.int .u8 0) := by rw [hc0]; rfl
  obtain ⟨r, hr⟩ : ∃ r, r = w.heap.size := ⟨_, rfl⟩
  obtain ⟨b, hb⟩ : ∃ b, b = w.heap.size + 1 := ⟨_, rfl⟩
  have hs1 : (w.alloc (.cells (vb c0).toArray 89)).heap.size = b := by rw [hb]; simp
  obtain ⟨w3, hw3⟩ : ∃ w3, w3 = (w.alloc (.cells (vb c0).toArray 89)).alloc (.cells ((vb c0).set 0 (.int .u8 (len : Int))).toArray 89) := ⟨_, rfl⟩
  have hR3 : w3.heap[r]? = some (.cells (vb c0).toArray 89 (0, 0)) := by
    rw [hw3, hr, Below.heap_alloc _ _ _ (by simp)]; exact heap_alloc_new _ _
  have hB3 : w3.heap[b]? = some (.cells ((vb c0).toArray.setIfInBounds 0 (.int .u8 (len : Int))) 89 (0, 0)) := by rw [hw3, ← hs1, List.setIfInBounds_toArray]; exact heap_alloc_new _ _
  have hbel3 : Below w.heap.size w w3 := by rw [hw3]; exact ((Below.refl _ _).alloc (Nat.le_refl _) _).alloc (by simp) _
  have hinfo : (Tryd.prog.info? 5).map (·.size) = some 1 := by kernel_rfl
  obtain ⟨w4, hcp, hB4, hR4, hbel4⟩ : ∃ w4, (∀ ty, (Builtin.copy_ #[22, 22] ty #[.slice (some ⟨b, 1, none⟩) 105 105, .slice a len cap]).run Tryd.prog w3 = .ok (.int .i64 (len : Int)) w4) ∧ w4.heap[b]? = some (.cells (vb L).toArray 89 (0, 0)) ∧ w4.heap[r]? = some (.cells (vb c0).toArray 89 (0, 0)) ∧ Below w.heap.size w w4 := by
    have hrow : ((vb c0).toArray.setIfInBounds 0 (.int .u8 (len : Int))).toList.take 1 ++ vb p ++ ((vb c0).toArray.setIfInBounds 0 (.int .u8 (len : Int))).toList.drop (1 + (vb p).length) = vb L := by
      rw [HL.out, hc0, length_vb, hpl]
      exact slot_row p len hpl hl
    by_cases h0 : len = 0
    · subst h0
      have hp0 : p = [] := List.length_eq_zero_iff.1 hpl
      refine ⟨w3, fun ty => run_copy_none (P := Tryd.prog) w3 _ _ ty 5 _ a 105 105 0 cap Tryd.underlying22 hinfo (by simp), ?_, hR3, hbel3⟩
      rw [hB3]
      rw [hp0, show vb [] = [] from rfl, List.append_nil, show 1 + ([] : List Value).length = 1 from rfl, List.take_append_drop] at hrow
      rw [← hrow, Array.toArray_toList]
    · obtain ⟨ab, ao, rfl, _, hac⟩ := hB.pos (by omega)
      have hB3b := (hB.below hbel3)
      refine ⟨w3.setRow b (vb L).toArray, fun ty => ?_, setRow_heap _ _ _ _ _ _ hB3, ?_, below_setRow hbel3 (by omega) _⟩
      · have := run_copy_row (P := Tryd.prog) w3 22 22 ty 5 b 1 105 105 ⟨ab, ao, none⟩ len cap _ 89 (vb p) Tryd.underlying22 hinfo hB3 (by rw [length_vb, hpl]; show len = min len 105; omega) (fun j v hj => by rw [add_none]; exact bs_range hB3b j v hj) (by rw [length_vb, hpl]; simp [length_vb, hc0]; omega) (fun v hv => one_vb _ v hv)
        rw [hrow, length_vb, hpl] at this
        exact this
      · rw [setRow_other _ _ _ _ (by omega)]
        exact hR3
  rw [hw3, hb] at hcp
  rw [hr] at hR4
  rw [hb] at hB4
  have HR4 := hidn hR4
  have HB4 := hidn (row_range hB4)
  have HBE := hidn hbel4
  have hwl := conv_u8 (n := len) (by omega)
  clear hc0 l0 hpl lL hB3 hR3 hbel3 hB4 hR4 hbel4 hw3 hs1 hzs hb hr hinfo hB
  go_enter Tryd.func64, Tryd.ntmps64
  repeat (first
    | (with_reducible refine wpList_load_mid (by rfl) 89 (.tmp 3) (by rfl) (w.heap.size + 1) 0 (by kernel_rfl) (vb L) _ HB4.out Tryd.underlying89 (by rfl) HSL.out ?_)
    | (with_reducible refine wpList_store_row (by rfl) 89 (.tmp 2) (.tmp 11) (by rfl) w.heap.size (vb L).toArray (by kernel_rfl) (by kernel_rfl) 89 (vb c0).toArray HR4.out HSZ.out HOLD.out image_all ?_)
    | go_values | go_skip | go_guarded | go_step | go_upon)
  exact bodyPost_ret (v := .agg (vb L).toArray) (results_cell_row rfl _ _ w.heap.size 89 _ (0, 0) _ rfl (setRow_heap _ _ _ _ _ _ HR4.out) Tryd.underlying89 rfl HSZ.out) rfl ⟨rfl, below_setRow HBE.out (Nat.le_refl _) _⟩
end Go.Proofs.YtmoeoffjlicdjacDoor
