/- The walk of extent.Open: what any bytes hold as a file's extent, or the error. -/
import Derived.Test.YtoopdmfijbbfdaaDoorMg
import Derived.Test.YtoopdmfijbbfdaaDoorGetWalk
import Derived.Test.YtoopdmfijbbfdaaDoorClone
import Derived.Test.YtoopdmfijbbfdaaDoorArrEq
import Derived.Deep.RegionHeld3
import Derived.Test.YtoopdmfijbbfdaaDoorDrawn
namespace Go.Proofs.YtoopdmfijbbfdaaDoor
open Go.RowKit
set_option linter.unusedVariables false

set_option maxHeartbeats 1000000 in
theorem open_short (s : ByteArray) (i : Int) (a : Option Addr) (len cap : Nat) (w : World) (hl : len ≠ 128) :
    Calls Tryd.prog 63 #[.slice a len cap, .string s, .int .i64 i] w fun e w' => e = .returned (.tuple #[.slice none 0 0, .int .i64 0, .int .i64 40]) ∧ Below w.heap.size w w' := by
  have h1 : ((len : Int) != 128) = true := bne_iff_ne.2 (by omega)
  go_enter Tryd.func63, Tryd.ntmps63
  go_wp2
  go_ret3
  exact ⟨rfl, Below.refl _ _⟩

/-- A part of a slice's bytes. -/
theorem Bs.part {w : World} {b off len : Nat} {zs : List Nat} (h : Bs w (some ⟨b, off, none⟩) len zs) (o m : Nat) (hm : o + m ≤ len) : Bs w (some ⟨b, off + o, none⟩) m ((zs.drop o).take m) := by
  obtain ⟨hl, hx, hz, hn, hc⟩ := h
  refine ⟨by simp; omega, by omega, fun x hx => hz x (List.mem_of_mem_drop (List.mem_of_mem_take hx)), (fun h => by simp at h), fun x hx j hj => ?_⟩
  cases hx
  have := hc _ rfl (o + j) (by omega)
  rw [add_none] at this ⊢
  rw [Nat.add_assoc, this]
  simp [List.getD_eq_getElem?_getD, List.getElem?_drop, hj]
theorem Bs.at {w : World} {b off len : Nat} {zs : List Nat} (h : Bs w (some ⟨b, off, none⟩) len zs) (j : Nat) (hj : j < len) : w.cell? ⟨b, off + j, none⟩ = some (.int .u8 ((zs.getD j 0 : Nat) : Int)) := by
  have := h.2.2.2.2 _ rfl j hj
  rwa [add_none] at this
theorem Bs.range {w : World} {b off len : Nat} {zs : List Nat} (h : Bs w (some ⟨b, off, none⟩) len zs) : w.rangeAt b off (vb zs) := by
  intro j v hj
  have hlt : j < zs.length := by have := (List.getElem?_eq_some_iff.1 hj).1; rwa [length_vb] at this
  rw [vb_getD zs j hlt] at hj
  rw [h.at j (by rw [← h.1]; exact hlt)]
  exact hj

theorem own_mono {w : World} {b0 b1 e n : Nat} {v : Value} {xs : List Value} (h : w.ownsRow b1 e 1 v n xs) (hb : b0 ≤ b1) : w.ownsRow b0 e 1 v n xs := by
  obtain ⟨hl, h1⟩ := h
  refine ⟨hl, ?_⟩
  rcases h1 with h1 | ⟨g, cap, cur, hv, hg, r⟩
  · exact .inl h1
  · exact .inr ⟨g, cap, cur, hv, by omega, r⟩

set_option maxHeartbeats 1000000 in
theorem open_cannot (s : ByteArray) (i G : Int) (b off cap : Nat) (zs z9 : List Nat) (n ln : Nat) (w : World) (hB : Bs w (some ⟨b, off, none⟩) 128 zs) (hcap : 128 ≤ cap)
    (H9 : Hid (z9 = (zs.drop 9).take 8)) (HN : Hid (n = getB 0 z9)) (HL : Hid (ln = zs.getD 17 0)) (hG : IntKind.i64.wrap (n : Int) = G) (hc : canB i G ln = false) :
    Calls Tryd.prog 63 #[.slice (some ⟨b, off, none⟩) 128 cap, .string s, .int .i64 i] w fun e w' => e = .returned (.tuple #[.slice none 0 0, .int .i64 0, .int .i64 40]) ∧ Below w.heap.size w w' := by
  have h9 := hB.part 9 8 (by omega)
  rw [← H9.out] at h9
  have h17 := hB.at 17 (by omega)
  rw [← HL.out] at h17
  have hln : ln < 256 := by rw [HL.out, List.getD_eq_getElem?_getD]; exact getD_mem_lt zs 17 256 (by omega) hB.2.2.1
  have hwl : IntKind.i64.wrap (ln : Int) = (ln : Int) := by rw [IntKind.wrap_i64]; omega
  have HC : Hid (canB i G ln = false) := hc
  clear hc
  go_enter Tryd.func63, Tryd.ntmps63
  go_wp2_with fail
  refine (get_some b (off + 9) 8 (cap - 9) z9 _ h9.2.2.1 h9.1.symm (by omega) (by omega) (fun j hj => h9.at j hj)).mono ?_
  rw [← HN.out]
  rintro e w1 ⟨rfl, rfl⟩
  clear h9
  go_wp2_with fail
  go_region
  go_wp2_with fail
  refine (canBe_any i G ln _).mono ?_
  rw [HC.out]
  rintro e w2 ⟨rfl, rfl⟩
  go_wp2
  go_ret3
  exact ⟨rfl, (Below.refl _ _).drew⟩

set_option maxHeartbeats 1000000 in
theorem open_can (s : ByteArray) (i G b off cap : Nat) (zs z9 pp fz : List Nat) (n ln m : Nat) (w : World) (hB : Bs w (some ⟨b, off, none⟩) 128 zs) (hcap : 128 ≤ cap) (hT : CrcTab w) (hsm : s.size ≤ maxLen)
    (H9 : Hid (z9 = (zs.drop 9).take 8)) (HN : Hid (n = getB 0 z9)) (HL : Hid (ln = zs.getD 17 0)) (hG : IntKind.i64.wrap (n : Int) = (G : Int)) (hc : canB i G ln = true)
    (HM : Hid (m = 18 + ln)) (HP : Hid (pp = (zs.drop 18).take ln)) (HF : Hid (fz = frameB (nums s) i G pp)) (eq : Bool) (HE : Hid (eq = decide (zs = fz))) :
    Calls Tryd.prog 63 #[.slice (some ⟨b, off, none⟩) 128 cap, .string s, .int .i64 i] w fun e w' => Below w.heap.size w w' ∧
      if eq = true then ∃ v, e = .returned (.tuple #[v, .int .i64 G, .int .i64 0]) ∧ w'.ownsRow w.heap.size 5 1 v ln (vb pp) else e = .returned (.tuple #[.slice none 0 0, .int .i64 0, .int .i64 40]) := by
  have h9 := hB.part 9 8 (by omega)
  rw [← H9.out] at h9
  have h17 := hB.at 17 (by omega)
  rw [← HL.out] at h17
  have hln : ln < 256 := by rw [HL.out, List.getD_eq_getElem?_getD]; exact getD_mem_lt zs 17 256 (by omega) hB.2.2.1
  have hwl : IntKind.i64.wrap (ln : Int) = (ln : Int) := by rw [IntKind.wrap_i64]; omega
  obtain ⟨c1, c2, c3, c4, c5⟩ := of_decide_eq_true hc
  have hG64 : G < 18446744073709551616 := by omega
  have hi64 : i < 18446744073709551616 := by omega
  have HC : Hid (canB i G ln = true) := hc
  clear hc
  have hpp := hB.part 18 ln (by omega)
  rw [← HP.out] at hpp
  have hwm : IntKind.i64.wrap (18 + (ln : Int)) = (m : Int) := by rw [IntKind.wrap_i64, HM.out]; omega
  have hm1 : 18 ≤ m := by rw [HM.out]; omega
  have hm2 : m ≤ cap := by rw [HM.out]; omega
  have hm3 : m - 18 = ln := by rw [HM.out]; omega
  have lz : zs.length = 128 := hB.1
  have lf : fz.length = 128 := by rw [HF.out]; exact frameB_length _ _ _ _ (by rw [hpp.1]; exact c5)
  have hu := Tryd.underlying113
  have hi : (Tryd.prog.info? 113).map (·.size) = some (vb zs).length := by rw [length_vb, lz]; exact (zero_of_info Tryd.infoFrame).2
  have hrg := hB.range
  have hat : ∀ (wx : World) (a : Addr) (c : Nat), (Instr.arrayAt 113 (.slice (some a) 128 c)).run Tryd.prog wx = .ok (.pointer (some a)) wx := by
    intro wx a c
    simp [Instr.arrayAt, run_underlying hu]
  have HU : Hid (_ = _) := hu
  have HI : Hid (_ = _) := hi
  clear hu hi
  have hneq := fun wx => neq_vb wx zs fz lz lf
  rw [← HE.out] at hneq
  go_enter Tryd.func63, Tryd.ntmps63
  go_wp2_with fail
  refine (get_some b (off + 9) 8 (cap - 9) z9 _ h9.2.2.1 h9.1.symm (by omega) (by omega) (fun j hj => h9.at j hj)).mono ?_
  rw [← HN.out]
  rintro e w1 ⟨rfl, rfl⟩
  clear h9
  go_wp2_with fail
  go_region
  go_wp2_with fail
  refine (canBe_any i G ln _).mono ?_
  rw [HC.out]
  rintro e w2 ⟨rfl, rfl⟩
  go_wp2_with fail
  have hbd : Below w1.heap.size w1 w1.drew.drew := ((Below.refl _ _).drew).drew
  have hpd := hpp.below hbd
  have hTd := hT.below hbd
  have hrd : w1.drew.rangeAt b off (vb zs) := by simpa using hrg
  have hu := HU.out
  have hi := HI.out
  refine wp_region_noPanic ?_
  refine wp_region_held_drew (S := fun w' => w'.rangeAt b off (vb zs)) (by kernel_rfl) ?_ (fun hHeld => ?_)
  · simpa using hrg
  refine wpAnyH_take (i := 0) (v := Value.slice (some ⟨b, off, none⟩) 128 cap) rfl (by kernel_rfl) (by kernel_rfl) (by kernel_rfl) (fun _ _ _ h => h) (Or.inl ⟨by rfl, fun w hw => by go_simp⟩) hHeld ?_
  refine wpAnyH_take (i := 1) (v := Value.pointer (some ⟨b, off, none⟩)) rfl (by kernel_rfl) (by kernel_rfl) (by kernel_rfl) (fun _ _ _ h => h) (Or.inl ⟨by rfl, fun w hw => by go_simp⟩) hHeld ?_
  refine wpAnyH_take (i := 2) (v := Value.agg (vb zs).toArray) rfl (by kernel_rfl) (by kernel_rfl) (by kernel_rfl) (fun _ _ _ h => h) (yieldsIf_load_mid (by rfl) _ _ rfl b off rfl (vb zs) _ (fun w h => h) hu rfl hi) hHeld ?_
  refine wpAnyH_take (i := 3) (v := Value.string s) rfl (by kernel_rfl) (by kernel_rfl) (by kernel_rfl) (fun _ _ _ h => h) (Or.inl ⟨by rfl, fun w hw => by go_simp⟩) hHeld ?_
  refine wpAnyH_take (i := 4) (v := Value.int .i64 i) rfl (by kernel_rfl) (by kernel_rfl) (by kernel_rfl) (fun _ _ _ h => h) (Or.inl ⟨by rfl, fun w hw => by go_simp⟩) hHeld ?_
  refine wpAnyH_take (i := 5) (v := Value.int .i64 G) rfl (by kernel_rfl) (by kernel_rfl) (by kernel_rfl) (fun _ _ _ h => h) (Or.inl ⟨by rfl, fun w hw => by go_simp⟩) hHeld ?_
  refine wpAnyH_take (i := 6) (v := Value.slice (some ⟨b, off + 18, none⟩) ln (cap - 18)) rfl (by kernel_rfl) (by kernel_rfl) (by kernel_rfl) (fun _ _ _ h => h) (Or.inl ⟨by rfl, fun w hw => by go_simp⟩) hHeld ?_
  simp only [Act.put, List.setIfInBounds_toArray]
  refine wpAnyH_ready (rs := [7]) (by kernel_rfl) (by simp) ?_
  refine AllReadyH.cons rfl (fun K hK => ?_) AllReadyH.nil
  go_simp
  refine (framed_any s i G (some ⟨b, off + 18, none⟩) ln (cap - 18) pp w1.drew.drew hpd hTd c5 hsm hG64 hi64).mono ?_
  rw [← HF.out]
  rintro e w3 ⟨rfl, hb3⟩
  have hb13 : Below w1.heap.size w1 w3 := hbd.trans (hb3.mono (Nat.le_refl _))
  have hr3 : w3.rangeAt b off (vb zs) := (hB.below hb13).range
  go_wp2_with fail
  refine hK.out _ _ hr3 (fun hHeld => ?_)
  clear hK K
  refine drawn_take (i := 8) (v := Value.bool (!eq)) (some 46) rfl rfl (by kernel_rfl) (by kernel_rfl) (by kernel_rfl) (fun _ _ _ h => h) (Or.inl ⟨by rfl, fun w hw => by go_simp⟩) hHeld ?_
  refine wpAnyH_done (by kernel_rfl) ?_ _
  refine NoPanic.normal ?_
  simp only [Act.put, List.setIfInBounds_toArray, List.set_cons_succ, List.set_cons_zero]
  have hp3 := hpp.below hb13
  clear hneq hHeld hu hi hrd hr3 hrg
  cases eq with
  | false =>
    simp only [Bool.not_false]
    repeat (first | go_values | go_skip | go_guarded | go_step | go_upon)
    go_ret3
    exact ⟨hb13, rfl⟩
  | true =>
    simp only [Bool.not_true]
    go_wp2_with fail
    refine (clone_any (some ⟨b, off + 18, none⟩) ln (cap - 18) pp _ hp3 (by omega)).mono ?_
    rintro e w4 ⟨v, rfl, hown, hb4⟩
    go_wp2
    go_ret3
    refine ⟨hb13.trans (hb4.mono hb13.size), v, rfl, ?_⟩
    exact own_mono hown hb13.size
end Go.Proofs.YtoopdmfijbbfdaaDoor
