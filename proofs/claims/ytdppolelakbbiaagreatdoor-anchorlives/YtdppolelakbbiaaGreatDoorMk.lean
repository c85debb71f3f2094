/- bytes.Clone: the same bytes in new memory. -/
import Derived.Test.YtdppolelakbbiaaGreatDoorMa
import Derived.ChangeKeysEq
import Derived.Laws.StructEq
import Derived.Test.YtdppolelakbbiaaGreatDoorMi
import Derived.Test.YtdppolelakbbiaaGreatDoorMf
import Derived.Deep.RegionHeld3
import Derived.Test.YtdppolelakbbiaaGreatDoorDrawn
import Derived.Lib.SlBytesConst
namespace Go.Proofs.YtdppolelakbbiaaGreatDoor
open Go.RowKit
set_option linter.unusedVariables false
set_option maxHeartbeats 1000000 in
theorem clone_any (a : Option Addr) (len cap : Nat) (zs : List Nat) (w : World) (h : Bs w a len zs) (hr : len ≤ 140737488355328) :
  Calls Tryz.prog 7 #[.slice a len cap] w fun e w' => ∃ v, e = .returned v ∧ w'.ownsRow w.heap.size 5 1 v len (vb zs) ∧ Below w.heap.size w w' := by
 obtain ⟨i0, hi, hz0, hz1, hz2⟩ := info_parts Tryz.info5
 have heq := fun (wx : World) (aa : Option Addr) (n c : Nat) => Lib.run_eql_slice_nil (P := Tryz.prog) wx 28 5 aa n c 0 0 Tryz.underlying28
 obtain ⟨hl, hm, hz, hn, hc⟩ := h
 unfold maxLen at hm
 cases a with
 | none =>
  obtain rfl := hn rfl
  obtain rfl : zs = [] := List.length_eq_zero_iff.1 hl
  go_enter Tryz.func7, Tryz.ntmps7
  go_wp2
  go_ret
  exact ⟨_, rfl, World.ownsRow_nil _ _ _ _, Below.refl _ _⟩
 | some x =>
  have hcx := hc x rfl
  clear hc
  have hown := World.ownsRow_lit (base := w.heap.size) (e := 5) (size := 1) w #[] 0 (Nat.le_refl _) (Nat.zero_le _) rfl
  go_enter Tryz.func7, Tryz.ntmps7
  go_wp2_with (at_builtin; refine wpList_append_own _ rfl _ _ 28 rfl w.heap.size 5 i0 (.int .u8 0) 1 1 Tryz.underlying28 hi hz0 hz1 hz2 rfl (by decide) _ 0 [] rfl hown x len cap (vb zs) rfl (by simp [vb, hl]) ?c1 ?c2 (by unfold maxLen; omega) (by omega) (by simp) ?_)
  case c1 =>
   intro j u hj
   have hj' : j < zs.length := by
    have := (lQ4.1 hj).1; simpa [vb] using this
   rw [vb_getD zs j hj'] at hj
   cases hj
   have h1 := hcx j (by omega)
   exact Lib.cell?_alloc_some _ h1
  case c2 =>
   intro u hu
   simp only [vb, List.mem_map] at hu
   obtain ⟨y, _, rfl⟩ := hu
   rfl
  intro v' w1 hown1 hgrow1 _
  clear hown
  go_wp2
  go_ret
  refine ⟨_, rfl, by simpa using hown1, ?_⟩
  refine ((Below.refl _ _).alloc (Nat.le_refl _) _).grown hgrow1 (by simp) ?_
  intro k hk
  simp [Value.ownBlock] at hk
  omega
end Go.Proofs.YtdppolelakbbiaaGreatDoor

namespace Go.Proofs.YtdppolelakbbiaaGreatDoor
open Go.RowKit
set_option linter.unusedVariables false
theorem part_vb (w : World) (xs : List Nat) (i : Nat) (hi : i < xs.length) : (part 5 (vb xs).toArray i).run Tryz.prog w = .ok (.int .u8 ((xs.getD i 0 : Nat) : Int)) w := by
 exact run_part_plain w (show Tryz.prog.plainKey 5 = true by kernel_rfl) (by rw [List.getElem?_toArray]; exact vb_getD xs i hi)
theorem eqItems_vb (w : World) (d : Nat) (xs ys : List Nat) : ∀ is : List Nat, (∀ i ∈ is, i < xs.length ∧ i < ys.length) →
  (Op.eqItems (d + 1) 5 1 (vb xs).toArray (vb ys).toArray is).run Tryz.prog w = .ok (is.all fun i => xs.getD i 0 == ys.getD i 0) w
 | [], _ => by simp [Op.eqItems]
 | i :: is, h => by
  obtain ⟨h1, h2⟩ := h i (by simp)
  have ih := eqItems_vb w d xs ys is (fun j hj => h j (by simp [hj]))
  have p1 := part_vb w xs i h1
  have p2 := part_vb w ys i h2
  have p3 := run_equalIn_int (P := Tryz.prog) w d 5 .u8 .u8 ((xs.getD i 0 : Nat) : Int) ((ys.getD i 0 : Nat) : Int) Tryz.underlying5
  simp only [Op.eqItems, Sem.run_bind, Nat.mul_one, p1, p2, p3, Result.andThen_ok]
  have e : (((xs.getD i 0 : Nat) : Int) == ((ys.getD i 0 : Nat) : Int)) = (xs.getD i 0 == ys.getD i 0) := by
   rw [Bool.eq_iff_iff, beq_iff_eq, beq_iff_eq]; omega
  rw [e]
  cases hb : (xs.getD i 0 == ys.getD i 0)
  ·
   simp only [Bool.not_false, if_true, List.all_cons, hb, Bool.false_and]; rfl
  ·
   simp only [Bool.not_true, Bool.false_eq_true, if_false, List.all_cons, hb, Bool.true_and]
   exact ih
theorem all_getD (xs ys : List Nat) (n : Nat) (hx : xs.length = n) (hy : ys.length = n) : ((List.range n).all fun i => xs.getD i 0 == ys.getD i 0) = decide (xs = ys) := by
 rw [Bool.eq_iff_iff, List.all_eq_true, decide_eq_true_iff]
 constructor
 ·
  intro h
  apply List.ext_getElem (by omega)
  intro i h1 h2
  have := h i (by simp; omega)
  simpa [h1, h2] using this
 ·
  rintro rfl i _
  simp
theorem neq_vb (w : World) (xs ys : List Nat) (hx : xs.length = 128) (hy : ys.length = 128) :
  (binOp .neq 130 (.agg (vb xs).toArray) (.agg (vb ys).toArray)).run Tryz.prog w = .ok (.bool (!decide (xs = ys))) w := by
 obtain ⟨i0, hi, hz0, hz1, hz2⟩ := info_parts Tryz.info5
 have hc : Tryz.prog.cellsOf 5 = 1 := by kernel_rfl
 rw [run_neq_struct, run_equalIn_array w 9999 _ _ Tryz.underlying130 hi, hc, eqItems_vb w 9998 xs ys _ (fun i hi => by simp at hi; omega), all_getD xs ys 128 hx hy]
 rfl
end Go.Proofs.YtdppolelakbbiaaGreatDoor

namespace Go.Proofs.YtdppolelakbbiaaGreatDoor
open Go.RowKit
set_option linter.unusedVariables false
set_option maxHeartbeats 1000000 in
theorem open_short (s : ByteArray) (i : Int) (a : Option Addr) (len cap : Nat) (w : World) (hl : len ≠ 128) :
  Calls Tryz.prog 74 #[.slice a len cap, .string s, .int .i64 i] w fun e w' => e = .returned (.tuple #[.slice none 0 0, .int .i64 0, .int .i64 40]) ∧ Below w.heap.size w w' := by
 have h1 : ((len : Int) != 128) = true := bne_iff_ne.2 (by omega)
 go_enter Tryz.func74, Tryz.ntmps74
 go_wp2
 go_ret3
 exact ⟨rfl, Below.refl _ _⟩
theorem Bs.part {w : World} {b off len : Nat} {zs : List Nat} (h : Bs w (some ⟨b, off, none⟩) len zs) (o m : Nat) (hm : o + m ≤ len) : Bs w (some ⟨b, off + o, none⟩) m ((zs.drop o).take m) := by
 obtain ⟨hl, hx, hz, hn, hc⟩ := h
 refine ⟨by simp; omega, by omega, fun x hx => hz x (List.mem_of_mem_drop (List.mem_of_mem_take hx)), (fun h => by simp at h), fun x hx j hj => ?_⟩
 cases hx
 have := hc _ rfl (o + j) (by omega)
 rw [add_none] at this ⊢
 rw [Nat.add_assoc, this]
 simp [List.getD_eq_getElem?_getD, List.getElem?_drop, hj]
theorem Bs.at {w : World} {b off len : Nat} {zs : List Nat} (h : Bs w (some ⟨b, off, none⟩) len zs) (j : Nat) (hj : j < len) : w.cell? ⟨b, off + j, none⟩ = some (.int .u8 ((zs.getD j 0 : Nat) : Int)) := by
 have := h.2.2.2.2 _ rfl j hj
 rwa [add_none] at this
theorem Bs.range {w : World} {b off len : Nat} {zs : List Nat} (h : Bs w (some ⟨b, off, none⟩) len zs) : w.rangeAt b off (vb zs) := by
 intro j v hj
 have hlt : j < zs.length := by have := (lQ4.1 hj).1; rwa [length_vb] at this
 rw [vb_getD zs j hlt] at hj
 rw [h.at j (by rw [← h.1]; exact hlt)]
 exact hj
theorem own_mono {w : World} {b0 b1 e n : Nat} {v : Value} {xs : List Value} (h : w.ownsRow b1 e 1 v n xs) (hb : b0 ≤ b1) : w.ownsRow b0 e 1 v n xs := by
 obtain ⟨hl, h1⟩ := h
 refine ⟨hl, ?_⟩
 rcases h1 with h1 | ⟨g, cap, cur, hv, hg, r⟩
 ·
  exact .inl h1
 ·
  exact .inr ⟨g, cap, cur, hv, by omega, r⟩
set_option maxHeartbeats 1000000 in
theorem open_cannot (s : ByteArray) (i G : Int) (b off cap : Nat) (zs z9 : List Nat) (n ln : Nat) (w : World) (hB : Bs w (some ⟨b, off, none⟩) 128 zs) (hcap : 128 ≤ cap)
  (H9 : Hid (z9 = (zs.drop 9).take 8)) (HN : Hid (n = getB 0 z9)) (HL : Hid (ln = zs.getD 17 0)) (hG : IntKind.i64.wrap (n : Int) = G) (hc : canB i G ln = false) :
  Calls Tryz.prog 74 #[.slice (some ⟨b, off, none⟩) 128 cap, .string s, .int .i64 i] w fun e w' => e = .returned (.tuple #[.slice none 0 0, .int .i64 0, .int .i64 40]) ∧ Below w.heap.size w w' := by
 have h9 := hB.part 9 8 (by omega)
 rw [← H9.out] at h9
 have h17 := hB.at 17 (by omega)
 rw [← HL.out] at h17
 have hln : ln < 256 := by rw [HL.out, List.getD_eq_getElem?_getD]; exact getD_mem_lt zs 17 256 (by omega) hB.2.2.1
 have hwl : IntKind.i64.wrap (ln : Int) = (ln : Int) := by rw [IntKind.wrap_i64]; omega
 have HC : Hid (canB i G ln = false) := hc
 clear hc
 go_enter Tryz.func74, Tryz.ntmps74
 go_wp2_with fail
 refine (get_some b (off + 9) 8 (cap - 9) z9 _ h9.2.2.1 h9.1.symm (by omega) (by omega) (fun j hj => h9.at j hj)).mono ?_
 rw [← HN.out]
 rintro e w1 ⟨rfl, rfl⟩
 clear h9
 go_wp2_with fail
 go_region
 go_wp2_with fail
 refine (canBe_any i G ln _).mono ?_
 rw [HC.out]
 rintro e w2 ⟨rfl, rfl⟩
 go_wp2
 go_ret3
 exact ⟨rfl, (Below.refl _ _).drew⟩
set_option maxHeartbeats 1000000 in
theorem open_can (s : ByteArray) (i G b off cap : Nat) (zs z9 pp fz : List Nat) (n ln m : Nat) (w : World) (hB : Bs w (some ⟨b, off, none⟩) 128 zs) (hcap : 128 ≤ cap) (hT : CrcTab w) (hsm : s.size ≤ maxLen)
  (H9 : Hid (z9 = (zs.drop 9).take 8)) (HN : Hid (n = getB 0 z9)) (HL : Hid (ln = zs.getD 17 0)) (hG : IntKind.i64.wrap (n : Int) = (G : Int)) (hc : canB i G ln = true)
  (HM : Hid (m = 18 + ln)) (HP : Hid (pp = (zs.drop 18).take ln)) (HF : Hid (fz = frameB (nums s) i G pp)) (eq : Bool) (HE : Hid (eq = decide (zs = fz))) :
  Calls Tryz.prog 74 #[.slice (some ⟨b, off, none⟩) 128 cap, .string s, .int .i64 i] w fun e w' => Below w.heap.size w w' ∧
   if eq = true then ∃ v, e = .returned (.tuple #[v, .int .i64 G, .int .i64 0]) ∧ w'.ownsRow w.heap.size 5 1 v ln (vb pp) else e = .returned (.tuple #[.slice none 0 0, .int .i64 0, .int .i64 40]) := by
 have h9 := hB.part 9 8 (by omega)
 rw [← H9.out] at h9
 have h17 := hB.at 17 (by omega)
 rw [← HL.out] at h17
 have hln : ln < 256 := by rw [HL.out, List.getD_eq_getElem?_getD]; exact getD_mem_lt zs 17 256 (by omega) hB.2.2.1
 have hwl : IntKind.i64.wrap (ln : Int) = (ln : Int) := by rw [IntKind.wrap_i64]; omega
 obtain ⟨c1, c2, c3, c4, c5⟩ := of_decide_eq_true hc
 have hG64 : G < 18446744073709551616 := by omega
 have hi64 : i < 18446744073709551616 := by omega
 have HC : Hid (canB i G ln = true) := hc
 clear hc
 have hpp := hB.part 18 ln (by omega)
 rw [← HP.out] at hpp
 have hwm : IntKind.i64.wrap (18 + (ln : Int)) = (m : Int) := by rw [IntKind.wrap_i64, HM.out]; omega
 have hm1 : 18 ≤ m := by rw [HM.out]; omega
 have hm2 : m ≤ cap := by rw [HM.out]; omega
 have hm3 : m - 18 = ln := by rw [HM.out]; omega
 have lz : zs.length = 128 := hB.1
 have lf : fz.length = 128 := by rw [HF.out]; exact frameB_length _ _ _ _ (by rw [hpp.1]; exact c5)
 have hu := Tryz.underlying130
 have hi : (Tryz.prog.info? 130).map (·.size) = some (vb zs).length := by rw [length_vb, lz]; exact (zero_of_info Tryz.infoFrame).2
 have hrg := hB.range
 have hat : ∀ (wx : World) (a : Addr) (c : Nat), (Instr.arrayAt 130 (.slice (some a) 128 c)).run Tryz.prog wx = .ok (.pointer (some a)) wx := by
  intro wx a c
  simp [Instr.arrayAt, run_underlying hu]
 have HU : Hid (_ = _) := hu
 have HI : Hid (_ = _) := hi
 clear hu hi
 have hneq := fun wx => neq_vb wx zs fz lz lf
 rw [← HE.out] at hneq
 go_enter Tryz.func74, Tryz.ntmps74
 go_wp2_with fail
 refine (get_some b (off + 9) 8 (cap - 9) z9 _ h9.2.2.1 h9.1.symm (by omega) (by omega) (fun j hj => h9.at j hj)).mono ?_
 rw [← HN.out]
 rintro e w1 ⟨rfl, rfl⟩
 clear h9
 go_wp2_with fail
 go_region
 go_wp2_with fail
 refine (canBe_any i G ln _).mono ?_
 rw [HC.out]
 rintro e w2 ⟨rfl, rfl⟩
 go_wp2_with fail
 have hbd : Below w1.heap.size w1 w1.drew.drew := ((Below.refl _ _).drew).drew
 have hpd := hpp.below hbd
 have hTd := hT.below hbd
 have hrd : w1.drew.rangeAt b off (vb zs) := by simpa using hrg
 have hu := HU.out
 have hi := HI.out
 refine wp_region_noPanic ?_
 refine wp_region_held_drew (S := fun w' => w'.rangeAt b off (vb zs)) (by kernel_rfl) ?_ (fun hHeld => ?_)
 ·
  simpa using hrg
 refine wpAnyH_take (i := 0) (v := Value.slice (some ⟨b, off, none⟩) 128 cap) rfl (by kernel_rfl) (by kernel_rfl) (by kernel_rfl) (fun _ _ _ h => h) (Or.inl ⟨by rfl, fun w hw => by go_simp⟩) hHeld ?_
 refine wpAnyH_take (i := 1) (v := Value.pointer (some ⟨b, off, none⟩)) rfl (by kernel_rfl) (by kernel_rfl) (by kernel_rfl) (fun _ _ _ h => h) (Or.inl ⟨by rfl, fun w hw => by go_simp⟩) hHeld ?_
 refine wpAnyH_take (i := 2) (v := Value.agg (vb zs).toArray) rfl (by kernel_rfl) (by kernel_rfl) (by kernel_rfl) (fun _ _ _ h => h) (yieldsIf_load_mid (by rfl) _ _ rfl b off rfl (vb zs) _ (fun w h => h) hu rfl hi) hHeld ?_
 refine wpAnyH_take (i := 3) (v := Value.string s) rfl (by kernel_rfl) (by kernel_rfl) (by kernel_rfl) (fun _ _ _ h => h) (Or.inl ⟨by rfl, fun w hw => by go_simp⟩) hHeld ?_
 refine wpAnyH_take (i := 4) (v := Value.int .i64 i) rfl (by kernel_rfl) (by kernel_rfl) (by kernel_rfl) (fun _ _ _ h => h) (Or.inl ⟨by rfl, fun w hw => by go_simp⟩) hHeld ?_
 refine wpAnyH_take (i := 5) (v := Value.int .i64 G) rfl (by kernel_rfl) (by kernel_rfl) (by kernel_rfl) (fun _ _ _ h => h) (Or.inl ⟨by rfl, fun w hw => by go_simp⟩) hHeld ?_
 refine wpAnyH_take (i := 6) (v := Value.slice (some ⟨b, off + 18, none⟩) ln (cap - 18)) rfl (by kernel_rfl) (by kernel_rfl) (by kernel_rfl) (fun _ _ _ h => h) (Or.inl ⟨by rfl, fun w hw => by go_simp⟩) hHeld ?_
 simp only [Act.put, List.setIfInBounds_toArray]
 refine wpAnyH_ready (rs := [7]) (by kernel_rfl) (by simp) ?_
 refine AllReadyH.cons rfl (fun K hK => ?_) AllReadyH.nil
 go_simp
 refine (framed_any s i G (some ⟨b, off + 18, none⟩) ln (cap - 18) pp w1.drew.drew hpd hTd c5 hsm hG64 hi64).mono ?_
 rw [← HF.out]
 rintro e w3 ⟨rfl, hb3⟩
 have hb13 : Below w1.heap.size w1 w3 := hbd.trans (hb3.mono (Nat.le_refl _))
 have hr3 : w3.rangeAt b off (vb zs) := (hB.below hb13).range
 go_wp2_with fail
 refine hK.out _ _ hr3 (fun hHeld => ?_)
 clear hK K
 refine drawn_take (i := 8) (v := Value.bool (!eq)) (some 46) rfl rfl (by kernel_rfl) (by kernel_rfl) (by kernel_rfl) (fun _ _ _ h => h) (Or.inl ⟨by rfl, fun w hw => by go_simp⟩) hHeld ?_
 refine wpAnyH_done (by kernel_rfl) ?_ _
 refine NoPanic.normal ?_
 simp only [Act.put, sQ1, sQ2, sQ3]
 have hp3 := hpp.below hb13
 clear hneq hHeld hu hi hrd hr3 hrg
 cases eq with
 | false =>
  simp only [Bool.not_false]
  repeat (first | go_values | go_skip | go_guarded | go_step | go_upon)
  go_ret3
  exact ⟨hb13, rfl⟩
 | true =>
  simp only [Bool.not_true]
  go_wp2_with fail
  refine (clone_any (some ⟨b, off + 18, none⟩) ln (cap - 18) pp _ hp3 (by omega)).mono ?_
  rintro e w4 ⟨v, rfl, hown, hb4⟩
  go_wp2
  go_ret3
  refine ⟨hb13.trans (hb4.mono hb13.size), v, rfl, ?_⟩
  exact own_mono hown hb13.size
end Go.Proofs.YtdppolelakbbiaaGreatDoor

namespace Go.Proofs.YtdppolelakbbiaaGreatDoor
open Go.RowKit
set_option linter.unusedVariables false
def openB (zs nm : List Nat) (i : Int) : Option (List Nat × Nat) :=
 if zs.length = 128 ∧ getB 0 ((zs.drop 9).take 8) ≤ 4611686018427387904 ∧ zs.getD 17 0 ≤ 106 ∧ 0 ≤ i ∧ i ≤ 2147483647 ∧
  zs = frameB nm i.toNat (getB 0 ((zs.drop 9).take 8)) ((zs.drop 18).take (zs.getD 17 0)) then some ((zs.drop 18).take (zs.getD 17 0), getB 0 ((zs.drop 9).take 8)) else none
def opened (o : Option (List Nat × Nat)) (base : Nat) (e : Ending) (w' : World) : Prop :=
 match o with
 | some (p, n) => ∃ v, e = .returned (.tuple #[v, .int .i64 (n : Int), .int .i64 0]) ∧ w'.ownsRow base 5 1 v p.length (vb p)
 | none => e = .returned (.tuple #[.slice none 0 0, .int .i64 0, .int .i64 40])
theorem openB_frame (nm : List Nat) (i g : Nat) (p : List Nat) (hi : i ≤ 2147483647) (hg : g ≤ 4611686018427387904) (hp : p.length ≤ 106) : openB (frameB nm i g p) nm i = some (p, g) := by
 have e1 := frameB_gen_get nm i g p (by omega)
 have e2 := frameB_len nm i g p
 have e3 := frameB_load nm i g p
 have e4 := frameB_length nm i g p hp
 unfold openB
 rw [e1, e2, e3, e4]
 rw [if_pos ⟨rfl, hg, hp, by omega, by omega, by simp⟩]
theorem wrap_i64_n (n : Nat) (h : n < 18446744073709551616) : IntKind.i64.wrap (n : Int) = if n < 9223372036854775808 then (n : Int) else (n : Int) - 18446744073709551616 := by
 rw [IntKind.wrap_i64]; split <;> omega
theorem open_any (s : ByteArray) (i : Int) (a : Option Addr) (len cap : Nat) (zs : List Nat) (w : World) (hB : Bs w a len zs) (hcap : len ≤ cap) (hT : CrcTab w) (hsm : s.size ≤ maxLen) :
  Calls Tryz.prog 74 #[.slice a len cap, .string s, .int .i64 i] w fun e w' => Below w.heap.size w w' ∧ opened (openB zs (nums s) i) w.heap.size e w' := by
 by_cases hl : len = 128
 ·
  subst hl
  obtain ⟨b, off, rfl, _, _⟩ := hB.pos (by omega)
  have h9 := hB.part 9 8 (by omega)
  have hn : getB 0 ((zs.drop 9).take 8) < 18446744073709551616 := by
   have := getB_lt _ h9.2.2.1
   rw [h9.1] at this
   exact this
  have hw := wrap_i64_n _ hn
  cases hc : canB i (IntKind.i64.wrap ((getB 0 ((zs.drop 9).take 8) : Nat) : Int)) (zs.getD 17 0) with
  | false =>
   refine (open_cannot s i _ b off cap zs _ _ _ w hB hcap (hid rfl) (hid rfl) (hid rfl) rfl hc).mono ?_
   rintro e w' ⟨he, hb⟩
   refine ⟨hb, ?_⟩
   have hc' := of_decide_eq_false hc
   have : openB zs (nums s) i = none := by
    unfold openB
    rw [if_neg]
    rintro ⟨_, h2, h3, h4, h5, _⟩
    rw [if_pos (by omega)] at hw
    exact hc' ⟨h4, h5, by omega, by omega, h3⟩
   rw [this]
   exact he
  | true =>
   obtain ⟨c1, c2, c3, c4, c5⟩ := of_decide_eq_true hc
   have hlt : getB 0 ((zs.drop 9).take 8) < 9223372036854775808 := by
    by_cases h : getB 0 ((zs.drop 9).take 8) < 9223372036854775808
    ·
     exact h
    ·
     rw [if_neg h] at hw; omega
   rw [if_pos hlt] at hw
   rw [hw] at hc c3 c4
   obtain ⟨j, rfl⟩ := Int.eq_ofNat_of_zero_le c1
   refine (open_can s j (getB 0 ((zs.drop 9).take 8)) b off cap zs _ _ _ _ _ _ w hB hcap hT hsm (hid rfl) (hid rfl) (hid rfl) hw hc (hid rfl) (hid rfl) (hid rfl) _ (hid rfl)).mono ?_
   rintro e w' ⟨hb, he⟩
   refine ⟨hb, ?_⟩
   have hl2 : ((zs.drop 18).take (zs.getD 17 0)).length = zs.getD 17 0 := by
    simp only [List.length_take, List.length_drop, hB.1]; omega
   by_cases hz : zs = frameB (nums s) j (getB 0 ((zs.drop 9).take 8)) ((zs.drop 18).take (zs.getD 17 0))
   ·
    rw [if_pos (decide_eq_true hz)] at he
    have : openB zs (nums s) (j : Int) = some ((zs.drop 18).take (zs.getD 17 0), getB 0 ((zs.drop 9).take 8)) := by
     unfold openB
     rw [if_pos ⟨hB.1, by omega, c5, by omega, c2, by simpa using hz⟩]
    rw [this]
    obtain ⟨v, he, hown⟩ := he
    refine ⟨v, he, ?_⟩
    rw [hl2]; exact hown
   ·
    rw [if_neg (by simpa using hz)] at he
    have : openB zs (nums s) (j : Int) = none := by
     unfold openB
     rw [if_neg]
     rintro ⟨_, _, _, _, _, h6⟩
     exact hz (by simpa using h6)
    rw [this]
    exact he
 ·
  refine (open_short s i a len cap w hl).mono ?_
  rintro e w' ⟨he, hb⟩
  refine ⟨hb, ?_⟩
  have : openB zs (nums s) i = none := by
   unfold openB
   rw [if_neg]
   rintro ⟨h1, _⟩
   exact hl (by rw [← hB.1]; exact h1)
  rw [this]
  exact he
end Go.Proofs.YtdppolelakbbiaaGreatDoor

namespace Go.Proofs.YtdppolelakbbiaaGreatDoor
open Go.RowKit
set_option linter.unusedVariables false
end Go.Proofs.YtdppolelakbbiaaGreatDoor
