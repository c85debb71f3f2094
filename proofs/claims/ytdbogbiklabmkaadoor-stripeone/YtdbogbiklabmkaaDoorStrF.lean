/- Stripes: Mend of what is lost. -/
import Derived.Test.YtdbogbiklabmkaaDoorStrE
namespace Go.Proofs.YtdbogbiklabmkaaDoor
open Go.RowKit Go.Maps
set_option linter.unusedVariables false

set_option maxHeartbeats 2000000 in
theorem smend_lost (w : World) (d : Nat) (F : Nat → Prop) (N : Nat) (M : List UInt8 → List Ext) (free fuse : Int) (h : DiskOf w d F N M free fuse) (hM0 : M [] = []) (s f0 f1 f2 f3 : ByteArray) (hs : s.size ≤ 1000) (e0 : Hid (f0 = sf0 s)) (e1 : Hid (f1 = sf1 s)) (e2 : Hid (f2 = sf2 s)) (e3 : Hid (f3 = sf3 s))
    (g i : Nat) (hi : i ≤ 1000000) (R : List Nat) (lR : R.length = 106) (hRb : ∀ x ∈ R, x < 256) (wg ct : Nat) (hwg : wg < 4) (hct : 1 < ct)
    (HK : Hid (∀ w5 sb, StripeAt w5 sb d f0 f1 f2 f3 g → Below w.heap.size w w5 → Calls Tryd.prog 22 #[.pointer (some ⟨sb, 0, none⟩), .int .i64 (i : Int)] w5 fun e w' => e = .returned (.tuple #[.agg (vb R).toArray, .int .i64 (wg : Nat), .int .i64 (ct : Nat)]) ∧ Below w5.heap.size w5 w')) :
    Calls Tryd.prog 11 #[.pointer (some ⟨d, 0, none⟩), .string s, .int .i64 g, .int .i64 i] w fun r w' => r = .returned (.tuple #[.bool false, .int .i64 50]) ∧ Below w.heap.size w w' := by
  have HD := hidn h
  have hHv := fun wx => files_any wx s hs
  rw [← e0.out, ← e1.out, ← e2.out, ← e3.out] at hHv
  have hd1 : decide ((i : Int) < 0) = false := decide_eq_false (by omega)
  have hd2 : decide ((2147483647 : Int) < (i : Int)) = false := decide_eq_false (by omega)
  have hd3 : decide (2147483647 < i) = false := decide_eq_false (by omega)
  have hc0 : ((ct : Int) == 0) = false := beq_eq_false_iff_ne.2 (by omega)
  have hc1 : decide ((1 : Int) < (ct : Int)) = true := decide_eq_true (by omega)
  have hc2 : decide (1 < ct) = true := decide_eq_true hct
  obtain ⟨hz, hzs⟩ := zero_of_info Tryd.infoSlot
  obtain ⟨c0, hc0'⟩ : ∃ c0, c0 = List.replicate 106 0 := ⟨_, rfl⟩
  rw [← hc0'] at hz
  have HS1 : Hid ((Tryd.prog.info? 65).map (·.size) = some (vb R).toArray.size) := hidn (by rw [hzs]; simp [length_vb, lR])
  have HO1 : Hid ((vb c0).toArray.size = (vb R).toArray.size) := hidn (by rw [hc0']; simp [length_vb, lR])
  have HLR := hidn lR
  have HRB := hidn hRb
  have HWG := hidn hwg
  clear hc0' hzs lR hRb hct hwg
  go_enter Tryd.func11, Tryd.ntmps11
  go_wp2_with fail
  refine (stripeMade _ d F N M free fuse HD.out hM0).mono ?_
  rintro e w1 ⟨rfl, hb1⟩
  go_wp2_with fail
  refine (hHv _).mono ?_
  rintro e w4 ⟨rfl, hb4⟩
  have hb14 : Below w.heap.size w w4 := hb1.trans (hb4.mono hb1.size)
  have HB14 := hidn hb14
  clear hb1 hb4 hb14 hHv h
  go_wp2_with fail
  obtain ⟨sb, hsb⟩ : ∃ sb, sb = w4.heap.size := ⟨_, rfl⟩
  obtain ⟨w5, hw5⟩ : ∃ w5, w5 = w4.alloc (.cells #[.pointer (some ⟨d, 0, none⟩), .string f0, .string f1, .string f2, .string f3, .int .i64 (g : Int)] 51) := ⟨_, rfl⟩
  have HB5 : Hid (Below w.heap.size w w5) := hidn (by rw [hw5]; exact HB14.out.trans ((Below.refl _ _).alloc HB14.out.size _))
  have HA5 : Hid (StripeAt w5 sb d f0 f1 f2 f3 g) := hidn (by rw [hw5, hsb]; exact heap_alloc_new _ _)
  rw [← hw5, ← hsb]
  clear hw5 hsb HB14
  refine (HK.out w5 sb HA5.out HB5.out).mono ?_
  rintro e w2 ⟨rfl, hb2⟩
  have HB2 := hidn (HB5.out.trans (hb2.mono HB5.out.size))
  clear hb2
  have HNX3 : Hid ((w2.alloc (.cells (vb c0).toArray 65)).heap[w2.heap.size]? = some (.cells (vb c0).toArray 65 (0, 0))) := hidn (heap_alloc_new _ _)
  obtain ⟨w3, hw3⟩ : ∃ w3, w3 = (w2.alloc (.cells (vb c0).toArray 65)).setRow w2.heap.size (vb R).toArray := ⟨_, rfl⟩
  have HW3 := hidn hw3
  have HR3 : Hid (w3.heap[w2.heap.size]? = some (.cells (vb R).toArray 65 (0, 0))) := hidn (by rw [hw3]; exact setRow_heap _ _ _ _ _ _ HNX3.out)
  have HB3 : Hid (Below w.heap.size w w3) := hidn (by rw [hw3]; exact HB2.out.trans (below_setRow ((Below.refl _ _).alloc HB2.out.size _) HB2.out.size _))
  clear hw3
  repeat (first
    | (with_reducible refine wpList_store_row (by rfl) 65 (.tmp 11) (.tmp 35) (by rfl) w2.heap.size (vb R).toArray (by kernel_rfl) (by kernel_rfl) 65 (vb c0).toArray HNX3.out HS1.out HO1.out image_all ?_; rw [← HW3.out])
    | (with_reducible refine wpList_load_row (by rfl) 65 (.tmp 11) (by rfl) w2.heap.size (by kernel_rfl) 65 (vb R).toArray (0, 0) _ HR3.out Tryd.underlying65 rfl HS1.out ?_)
    | go_values | go_skip | go_guarded | go_step | go_upon | (simp only []))
  refine (payload_gen _ R wg HWG.out HLR.out HRB.out).mono ?_
  rintro e w6 ⟨v6, b6, rfl, hb6⟩
  have HB6 := hidn (HB3.out.trans (hb6.mono HB3.out.size))
  clear hb6
  go_wp2
  go_ret2
  exact ⟨rfl, HB6.out⟩
end Go.Proofs.YtdbogbiklabmkaaDoor
