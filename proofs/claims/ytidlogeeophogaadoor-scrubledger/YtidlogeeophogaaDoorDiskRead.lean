/- The disk's Read: its contract. -/
import Derived.Test.YtidlogeeophogaaDoorDiskAt
namespace Go.Proofs.YtidlogeeophogaaDoor
open Go.RowKit Go.Maps
set_option linter.unusedVariables false


set_option maxHeartbeats 1000000 in
theorem diskRead_none (w : World) (d : Nat) (F : Nat → Prop) (N : Nat) (M : List UInt8 → List Ext) (free fuse : Int) (h : DiskOf w d F N M free fuse) (s : ByteArray) (hs : s.size ≤ maxLen) (i : Int) (n : Nat) (HN : Hid (n = (M s.data.toList).length)) (hi : i < 0 ∨ (n : Int) ≤ i) :
    Calls Tryd.prog 40 #[.pointer (some ⟨d, 0, none⟩), .string s, .int .i64 i] w fun e w' => e = .returned (.tuple #[.slice none 0 0, .int .i64 30]) ∧ Below w.heap.size w w' := by
  obtain ⟨bm, D, G, C, hI⟩ := h.is
  have hpn := fun (wx : World) (p : Option Addr) => run_eql_pointer_nil (P := Tryd.prog) wx 113 p (by kernel_rfl)
  go_enter Tryd.func40, Tryd.ntmps40
  go_wp2_with fail
  refine (isMade_any _ d F N M free fuse h).mono ?_
  rintro e w1 ⟨rfl, rfl⟩
  go_wp2_with fail
  refine (at_none _ d F N M free fuse bm D G C hI s hs i n HN hi).mono ?_
  rintro e w2 ⟨rfl, rfl⟩
  go_wp2
  go_ret2
  exact ⟨rfl, Below.refl _ _⟩

set_option maxHeartbeats 1000000 in
theorem diskRead_some (w : World) (d : Nat) (F : Nat → Prop) (N : Nat) (M : List UInt8 → List Ext) (free fuse : Int) (h : DiskOf w d F N M free fuse) (s : ByteArray) (hs : s.size ≤ maxLen) (i n o : Nat) (HN : Hid (n = (M s.data.toList).length)) (hi : i < n) (ho : i * 385 = o) (im : List Nat) (x : Ext) (HX : Hid ((M s.data.toList)[i]? = some x)) (HM : Hid (im = x.rd)) :
    Calls Tryd.prog 40 #[.pointer (some ⟨d, 0, none⟩), .string s, .int .i64 i] w fun e w' => ∃ b, e = .returned (.tuple #[.slice (some ⟨b, 0, none⟩) 128 128, .int .i64 0]) ∧ w.heap.size ≤ b ∧ Bs w' (some ⟨b, 0, none⟩) 128 im ∧ Below w.heap.size w w' := by
  obtain ⟨bm, D, G, C, hI⟩ := h.is
  have hpn := fun (wx : World) (p : Option Addr) => run_eql_pointer_nil (P := Tryd.prog) wx 113 p (by kernel_rfl)
  obtain ⟨hil, hxe⟩ := List.getElem?_eq_some_iff.1 HX.out
  obtain ⟨_, hrow, hok⟩ := hI.2.2.2.2.2.1 s.data.toList (fun e => by rw [e] at hil; simp at hil)
  obtain ⟨r1, r2, r3, r4⟩ := ext_read hrow hok i hil
  rw [hxe, ho] at r1 r2
  rw [hxe] at r3 r4
  rw [← HM.out] at r2 r3 r4
  have hsz := (zero_of_info Tryd.infoImage).2
  have hz := (zero_of_info Tryd.infoImage).1
  obtain ⟨c0, hc0⟩ : ∃ c0, c0 = List.replicate 128 0 := ⟨_, rfl⟩
  rw [← hc0] at hz
  have l0 : (vb c0).toArray.size = 128 := by rw [hc0]; rfl
  have lz : (vb im).toArray.size = 128 := by simp [length_vb, r3]
  have HSZ : Hid ((Tryd.prog.info? 116).map (·.size) = some (vb im).toArray.size) := hidn (by rw [hsz, lz])
  have HOLD : Hid ((vb c0).toArray.size = (vb im).toArray.size) := hidn (by rw [l0, lz])
  have HONE : Hid ((vb im).toArray.all (·.oneCell') = true) := hidn (by simpa using one_vb im)
  have HL : Hid (im.length = 128) := r3
  have HR2 : Hid _ := r2
  have HR1 : Hid (_ = _) := r1
  have HO : Hid (i * 385 = o) := ho
  clear l0 lz hsz hc0 hrow hok r1 r2 r3 hxe ho hil
  go_enter Tryd.func40, Tryd.ntmps40
  go_wp2_with fail
  refine (isMade_any _ d F N M free fuse h).mono ?_
  rintro e w1 ⟨rfl, rfl⟩
  go_wp2_with fail
  refine (at_some _ d F N M free fuse bm D G C hI s hs i n o HN hi HO.out).mono ?_
  rintro e w2 ⟨rfl, rfl⟩
  generalize G s.data.toList = g at *
  go_wp2_with fail
  refine (read_any _ g o x.waits im HL.out HR1.out HR2.out).mono ?_
  rintro e w3 ⟨rfl, hb3⟩
  go_wp2_with (refine wpList_store_row (by rfl) 116 _ _ (by rfl) w3.heap.size (vb im).toArray (by rfl) (by rfl) 116 (vb c0).toArray (heap_alloc_new _ _) HSZ.out HOLD.out HONE.out ?_)
  go_ret2
  refine ⟨w3.heap.size, rfl, hb3.size, ?_, below_setRow (hb3.alloc hb3.size _) hb3.size _⟩
  have := bs_of_block (setRow_heap _ _ _ (vb im).toArray _ _ (heap_alloc_new w3 (.cells (vb c0).toArray 116))) (by rw [HL.out]; decide) r4
  rw [HL.out] at this
  exact this
end Go.Proofs.YtidlogeeophogaaDoor
