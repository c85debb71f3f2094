/- Stripes: one extent of a group turned: the others come to its slot. -/
import Derived.Test.YtdbogbiklabmkaaDoorStrG
import Derived.Test.YtdbogbiklabmkaaDoorMd
namespace Go.Proofs.YtdbogbiklabmkaaDoor
open Go.RowKit Go.Maps
set_option linter.unusedVariables false
set_option linter.unusedSimpArgs false

theorem xorL_zero_left {X : List Nat} (hx : X.length = 106) : xorL (List.replicate 106 0) X = X := by
  apply List.ext_getElem
  · rw [xorL, List.length_zipWith, List.length_replicate, hx]; rfl
  · intro i h1 h2
    simp only [xorL, List.getElem_zipWith, List.getElem_replicate, Nat.zero_xor]
theorem xorL_assoc {X Y Z : List Nat} (hx : X.length = 106) (hy : Y.length = 106) (hz : Z.length = 106) : xorL (xorL X Y) Z = xorL X (xorL Y Z) := by
  apply List.ext_getElem
  · simp [xorL, hx, hy, hz]
  · intro i h1 h2; simp [xorL, Nat.xor_assoc]
theorem xorL_comm (X Y : List Nat) : xorL X Y = xorL Y X := by
  apply List.ext_getElem
  · simp [xorL, Nat.min_comm]
  · intro i h1 h2; simp only [xorL, List.getElem_zipWith]; exact Nat.xor_comm _ _
theorem xorL_self {X : List Nat} (hx : X.length = 106) : xorL X X = List.replicate 106 0 := by
  apply List.ext_getElem
  · rw [xorL, List.length_zipWith, List.length_replicate, hx]; rfl
  · intro i h1 h2
    simp only [xorL, List.getElem_zipWith, List.getElem_replicate, Nat.xor_self]
theorem xorL_zero_right {X : List Nat} (hx : X.length = 106) : xorL X (List.replicate 106 0) = X := by rw [xorL_comm]; exact xorL_zero_left hx
/-- x and (y and x) is y. -/
theorem xorL_cancel {X Y : List Nat} (hx : X.length = 106) (hy : Y.length = 106) : xorL X (xorL X Y) = Y := by rw [← xorL_assoc hx hx hy, xorL_self hx, xorL_zero_left hy]

theorem par_eq {pp : List Nat} (hpb : ∀ x ∈ pp, x < 256) (j : Nat) : slotF pp 3 j = xorL (xorL (slotF pp 0 j) (slotF pp 1 j)) (slotF pp 2 j) := by
  have e : slotF pp 3 j = accS pp j 3 := by unfold slotF; rw [if_neg (by omega)]
  have e0 : slotF pp 0 j = slotB (partS pp 0 j) := by unfold slotF; rw [if_pos (by omega)]
  have e1 : slotF pp 1 j = slotB (partS pp 1 j) := by unfold slotF; rw [if_pos (by omega)]
  have e2 : slotF pp 2 j = slotB (partS pp 2 j) := by unfold slotF; rw [if_pos (by omega)]
  rw [e, e0, e1, e2, accS_succ, accS_succ, accS_succ, show accS pp j 0 = List.replicate 106 0 from rfl, xorL_zero_left (slotB_length _ (partS_le _ _ _))]

theorem rest_one {pp : List Nat} (hpb : ∀ x ∈ pp, x < 256) (bad : Nat → Nat → Bool) (j f : Nat) (hf : f < 4) (hb : bad f j = true) (ho : ∀ k, k < 4 → k ≠ f → bad k j = false) :
    restS (slotX pp bad j) (fun k => !bad k j) 4 = slotF pp f j ∧ wrongS (fun k => !bad k j) 4 = f ∧ countS (fun k => !bad k j) 4 = 1 := by
  have l0 := (slotF_ok hpb 0 j).1
  have l1 := (slotF_ok hpb 1 j).1
  have l2 := (slotF_ok hpb 2 j).1
  have l3 := (slotF_ok hpb 3 j).1
  have l01 := xorL_length l0 l1
  have l12 := xorL_length l1 l2
  match f, hf with
  | 0, _ =>
    have b1 := ho 1 (by omega) (by omega)
    have b2 := ho 2 (by omega) (by omega)
    have b3 := ho 3 (by omega) (by omega)
    refine ⟨?_, by simp [wrongS, hb, b1, b2, b3], by simp [countS, hb, b1, b2, b3]⟩
    simp only [restS, slotX, hb, b1, b2, b3, Bool.not_true, Bool.not_false, if_true, Bool.false_eq_true, if_false]
    rw [par_eq hpb, xorL_zero_left l1, xorL_assoc l0 l1 l2, xorL_comm (slotF pp 0 j), ← xorL_assoc l12 l12 l0, xorL_self l12, xorL_zero_left l0]
  | 1, _ =>
    have b0 := ho 0 (by omega) (by omega)
    have b2 := ho 2 (by omega) (by omega)
    have b3 := ho 3 (by omega) (by omega)
    refine ⟨?_, by simp [wrongS, hb, b0, b2, b3], by simp [countS, hb, b0, b2, b3]⟩
    simp only [restS, slotX, hb, b0, b2, b3, Bool.not_true, Bool.not_false, if_true, Bool.false_eq_true, if_false]
    have l02 := xorL_length l0 l2
    rw [par_eq hpb, xorL_zero_left l0, xorL_comm (slotF pp 0 j) (slotF pp 1 j), xorL_assoc l1 l0 l2, xorL_comm (slotF pp 1 j), ← xorL_assoc l02 l02 l1, xorL_self l02, xorL_zero_left l1]
  | 2, _ =>
    have b0 := ho 0 (by omega) (by omega)
    have b1 := ho 1 (by omega) (by omega)
    have b3 := ho 3 (by omega) (by omega)
    refine ⟨?_, by simp [wrongS, hb, b0, b1, b3], by simp [countS, hb, b0, b1, b3]⟩
    simp only [restS, slotX, hb, b0, b1, b3, Bool.not_true, Bool.not_false, if_true, Bool.false_eq_true, if_false]
    rw [par_eq hpb, xorL_zero_left l0, ← xorL_assoc l01 l01 l2, xorL_self l01, xorL_zero_left l2]
  | 3, _ =>
    have b0 := ho 0 (by omega) (by omega)
    have b1 := ho 1 (by omega) (by omega)
    have b2 := ho 2 (by omega) (by omega)
    refine ⟨?_, by simp [wrongS, hb, b0, b1, b2], by simp [countS, hb, b0, b1, b2]⟩
    simp only [restS, slotX, hb, b0, b1, b2, Bool.not_true, Bool.not_false, if_true, Bool.false_eq_true, if_false]
    rw [par_eq hpb, xorL_zero_left l0]

/-- Parts of it, where a group has one bad one at most: all are read. -/
theorem partsO (w : World) (d : Nat) (F : Nat → Prop) (N : Nat) (M : List UInt8 → List Ext) (free fuse : Int) (g : Nat) (pp : List Nat) (E m : Nat) (h : DiskOf w d F N M free fuse) (hT : CrcTab w) (hm : pp.length = m) (hm1 : m ≤ 1500) (HE : Hid (E = grpB m)) (hpb : ∀ x ∈ pp, x < 256) (hg : g ≤ 4611686018427387904) (bad : Nat → Nat → Bool) (hM : Turned M g pp E bad) (hone : ∀ j f k, j < E → f < 4 → k < 4 → bad f j = true → k ≠ f → bad k j = false) :
    ∀ w5 sb, StripeAt w5 sb d x0 x1 x2 x3 g → Below w.heap.size w w5 → ∀ e, 105 * e < m → PartGood w5 sb pp e := by
  intro w5 sb hA hb e he
  obtain ⟨f, hf⟩ : ∃ f, f = e % 3 := ⟨_, rfl⟩
  obtain ⟨i, hi⟩ : ∃ i, i = e / 3 := ⟨_, rfl⟩
  have hE : 1 ≤ E ∧ m ≤ 315 * E ∧ E ≤ 5 := by
    rw [HE.out]; unfold grpB
    split <;> omega
  have hiE : i < E := by omega
  have e1 : partS pp f i = partT pp e := partS_eq pp f i e (by omega)
  have l1 : (partT pp e).length ≤ 105 := by unfold partT; rw [List.length_take]; omega
  have b1 : ∀ x ∈ partT pp e, x < 256 := fun x hx => hpb x (List.mem_of_mem_drop (List.mem_of_mem_take hx))
  have eF : slotF pp f i = slotB (partT pp e) := by unfold slotF; rw [if_pos (by omega), e1]
  intro wx hbx
  have hbw : Below w.heap.size w wx := hb.trans (hbx.mono hb.size)
  have hread : ∀ wy, Below wx.heap.size wx wy → Calls Tryd.prog 31 #[.pointer (some ⟨sb, 0, none⟩), .int .i64 (f : Int), .int .i64 (i : Int)] wy fun e w' => e = .returned (.tuple #[.agg (vb (slotX pp bad i f)).toArray, .bool (!bad f i)]) ∧ Below wy.heap.size wy w' := fun wy hby => by
    have hbwy : Below w.heap.size w wy := hbw.trans (hby.mono hbw.size)
    exact readT wy d F N M free fuse (h.below hbwy) (hT.below hbwy) g hg pp hpb E (by omega) bad hM sb f i (hA.below (hbx.trans (hby.mono hbx.size))) (by omega) hiE
  cases hbf : bad f i with
  | false =>
    have e3 : slotX pp bad i f = slotB (partT pp e) := by unfold slotX; rw [hbf, if_neg (by decide), eF]
    refine spart_ok wx sb e f i (by omega) hf.symm hi.symm (slotB (partT pp e)) (partT pp e) _ rfl l1 b1 (hidn rfl) (hidn (fun wy hby => ?_))
    have := hread wy hby
    rw [e3, hbf] at this
    exact this
  | true =>
    obtain ⟨r1, r2, r3⟩ := rest_one hpb bad i f (by omega) hbf (fun k hk hne => hone i f k hiE (by omega) hk hbf hne)
    refine spart_rest wx sb e f i (by omega) hf.symm hi.symm (slotX pp bad i f) (slotB (partT pp e)) (partT pp e) (slotX_ok hpb bad i f).1 f 1 (by omega) _ rfl l1 b1 (hidn rfl) (hidn (fun wy hby => ?_)) (hidn (fun wy hby => ?_))
    · have := hread wy hby
      rw [hbf] at this
      exact this
    · have hbwy : Below w.heap.size w wy := hbw.trans (hby.mono hbw.size)
      have := lookT wy d F N M free fuse (h.below hbwy) (hT.below hbwy) g hg pp hpb E (by omega) bad hM sb i (hA.below (hbx.trans (hby.mono hbx.size))) hiE
      rw [r1, r2, r3, eF] at this
      exact this
end Go.Proofs.YtdbogbiklabmkaaDoor

namespace Go.Proofs.YtdbogbiklabmkaaDoor
open Go.RowKit Go.Maps
set_option linter.unusedVariables false

set_option maxHeartbeats 2000000 in
theorem stripeWrite_old (w : World) (d g : Nat) (F : Nat → Prop) (N : Nat) (M : List UInt8 → List Ext) (free fuse : Int) (h : DiskOf w d F N M free fuse) (hS : Sound5 w F) (sb f : Nat) (f0 f1 f2 f3 fn : ByteArray) (hA : StripeAt w sb d f0 f1 f2 f3 g) (hsb : ¬ F sb) (hf : f < 4) (HFN : Hid (fn = nameF f0 f1 f2 f3 f)) (hs : nameB fn.data.toList = true) (n nn o : Nat) (HN : Hid (nn = (M fn.data.toList).length)) (hlt : n < nn) (xo : Ext) (HXO : Hid ((M fn.data.toList)[n]? = some xo)) (ho : n * 385 = o)
    (a : Option Addr) (len cap : Nat) (p fz : List Nat) (hB : Bs w a len p) (hl : len ≤ 106) (hg : g ≤ 4611686018427387904) (HF : Hid (fz = frameB (nums fn) n g p)) (h0 : fuse ≠ 0) (hf1 : -1 ≤ fuse) (hf2 : fuse ≤ 9223372036854775807) (hn : n ≤ 1000000) :
    Calls Tryd.prog 24 #[.pointer (some ⟨sb, 0, none⟩), .int .i64 f, .int .i64 n, .slice a len cap] w fun e w' => e = .returned (.int .i64 0) ∧ DiskOf w' d F N (upd M fn.data.toList ((M fn.data.toList).set n (xo.wrote fz))) free (burnt fuse) ∧ Gr F F w w' := by
  have HNL := hidn hlt
  clear hlt
  have hsm : fn.size ≤ maxLen := by have := (name_size hs).2; unfold maxLen; omega
  have HSN := hidn hs
  have HO := hidn ho
  have HIX := hidn (fun wx => file_index sb f hf wx)
  have HAT := hidn hA
  have HSS := hidn hS
  have hbd : Below w.heap.size w w.drew := (Below.refl _ _).drew
  have hA0 := hA.below hbd
  have hc1 := hA0.name f hf
  rw [← HFN.out] at hc1
  have hc2 := hA0.gen
  have hc0 := hA0.disk
  have HNAME : Hid (∀ wx : World, StripeAt wx sb d f0 f1 f2 f3 g → wx.cell? ⟨sb, 1 + f, none⟩ = some (.string fn)) := hidn (fun wx hx => by rw [HFN.out]; exact hx.name f hf)
  obtain ⟨w0, hw0⟩ : ∃ w0, w0 = w.drew := ⟨_, rfl⟩
  rw [← hw0] at hbd hA0 hc1 hc2 hc0
  have hB0 := hB.below hbd
  have hD0 := h.below hbd
  have hT0 := hS.tab.below hbd
  have HW0 := hidn hw0
  have HC := hidn (And.intro hc1 hc2)
  clear hw0 hc1 hc2 hc0 hs ho hA hS
  go_enter Tryd.func24, Tryd.ntmps24
  go_wp2_with fail
  refine wp_region_noPanic ?_
  refine wp_region_held_drew (S := fun w' => w'.cell? ⟨sb, 1 + f, none⟩ = some (.string fn) ∧ w'.cell? ⟨sb, 5, none⟩ = some (.int .i64 (g : Int))) (by kernel_rfl) (HW0.out ▸ HC.out) (fun hHeld => ?_)
  rw [← HW0.out]
  rw [← HW0.out] at hHeld
  refine drawn_take (i := 0) (v := .pointer (some ⟨sb, 0, none⟩)) (some 12) rfl rfl (by kernel_rfl) (by kernel_rfl) (by kernel_rfl) (fun _ _ _ h => h) (Or.inl ⟨by kernel_rfl, fun wq hw => by go_simp⟩) hHeld ?_
  refine drawn_take (i := 1) (v := .int .i64 (f : Int)) (some 13) rfl rfl (by kernel_rfl) (by kernel_rfl) (by kernel_rfl) (fun _ _ _ h => h) (Or.inl ⟨by kernel_rfl, fun wq hw => by go_simp⟩) hHeld ?_
  simp only [Act.put, List.setIfInBounds_toArray, List.set_cons_succ, List.set_cons_zero]
  refine drawn_take (i := 2) (v := .pointer (some ⟨sb, 0, none⟩)) (some 14) rfl rfl (by kernel_rfl) (by kernel_rfl) (by kernel_rfl) (fun _ _ _ h => h) (Or.inl ⟨by kernel_rfl, fun wq hw => by go_simp⟩) hHeld ?_
  simp only [Act.put, List.setIfInBounds_toArray, List.set_cons_succ, List.set_cons_zero]
  refine drawn_take (i := 3) (v := .pointer (some ⟨sb, 1, none⟩)) (some 15) rfl rfl (by kernel_rfl) (by kernel_rfl) (by kernel_rfl) (fun _ _ _ h => h) (Or.inl ⟨by kernel_rfl, fun wq hw => by go_simp⟩) hHeld ?_
  simp only [Act.put, List.setIfInBounds_toArray, List.set_cons_succ, List.set_cons_zero]
  refine drawn_take (i := 4) (v := .pointer (some ⟨sb, 1 + f, none⟩)) (some 16) rfl rfl (by kernel_rfl) (by kernel_rfl) (by kernel_rfl) (fun _ _ _ h => h) (Or.inl ⟨by kernel_rfl, fun wq hw => idx_run (x := .tmp 15) (y := .tmp 13) (vx := .pointer (some ⟨sb, 1, none⟩)) (vy := .int .i64 (f : Int)) (by kernel_rfl) (by kernel_rfl) (by kernel_rfl) (HIX.out wq)⟩) hHeld ?_
  simp only [Act.put, List.setIfInBounds_toArray, List.set_cons_succ, List.set_cons_zero]
  refine drawn_take (i := 5) (v := .string fn) (some 17) rfl rfl (by kernel_rfl) (by kernel_rfl) (by kernel_rfl) (fun _ _ _ h => h) (Or.inl ⟨by kernel_rfl, fun wq hw => load_run (x := .tmp 16) (vx := .pointer (some ⟨sb, 1 + f, none⟩)) (by kernel_rfl) (by kernel_rfl) (load_str hw.1)⟩) hHeld ?_
  refine drawn_take (i := 6) (v := .int .i64 (n : Int)) (some 18) rfl rfl (by kernel_rfl) (by kernel_rfl) (by kernel_rfl) (fun _ _ _ h => h) (Or.inl ⟨by kernel_rfl, fun wq hw => by go_simp⟩) hHeld ?_
  refine drawn_take (i := 7) (v := .pointer (some ⟨sb, 0, none⟩)) (some 19) rfl rfl (by kernel_rfl) (by kernel_rfl) (by kernel_rfl) (fun _ _ _ h => h) (Or.inl ⟨by kernel_rfl, fun wq hw => by go_simp⟩) hHeld ?_
  simp only [Act.put, List.setIfInBounds_toArray, List.set_cons_succ, List.set_cons_zero]
  refine drawn_take (i := 8) (v := .pointer (some ⟨sb, 0, none⟩)) (some 20) rfl rfl (by kernel_rfl) (by kernel_rfl) (by kernel_rfl) (fun _ _ _ h => h) (Or.inl ⟨by kernel_rfl, fun wq hw => by go_simp⟩) hHeld ?_
  simp only [Act.put, List.setIfInBounds_toArray, List.set_cons_succ, List.set_cons_zero]
  refine drawn_take (i := 9) (v := .pointer (some ⟨sb, 5, none⟩)) (some 21) rfl rfl (by kernel_rfl) (by kernel_rfl) (by kernel_rfl) (fun _ _ _ h => h) (Or.inl ⟨by kernel_rfl, fun wq hw => by go_simp⟩) hHeld ?_
  simp only [Act.put, List.setIfInBounds_toArray, List.set_cons_succ, List.set_cons_zero]
  refine drawn_take (i := 10) (v := .int .i64 (g : Int)) (some 22) rfl rfl (by kernel_rfl) (by kernel_rfl) (by kernel_rfl) (fun _ _ _ h => h) (Or.inl ⟨by kernel_rfl, fun wq hw => load_run (x := .tmp 21) (vx := .pointer (some ⟨sb, 5, none⟩)) (by kernel_rfl) (by kernel_rfl) (load_int hw.2)⟩) hHeld ?_
  refine drawn_take (i := 11) (v := .slice a len cap) (some 23) rfl rfl (by kernel_rfl) (by kernel_rfl) (by kernel_rfl) (fun _ _ _ h => h) (Or.inl ⟨by kernel_rfl, fun wq hw => by go_simp⟩) hHeld ?_
  simp only [Act.put, List.setIfInBounds_toArray, List.set_cons_succ, List.set_cons_zero]
  refine wpAnyH_ready (rs := [12]) (by kernel_rfl) (by simp) ?_
  refine rdy_call (i := 12) rfl rfl (some 24) rfl 34 #[.string fn, .int .i64 (n : Int), .int .i64 (g : Int), .slice a len cap] (frame_call_run (x := 17) (y := 18) (z := 22) (u := 23) (by kernel_rfl) (by kernel_rfl) (by kernel_rfl) (by kernel_rfl) (by kernel_rfl)) (fun v w' => ∃ b, v = .tuple #[.slice (some ⟨b, 0, none⟩) 128 128, .int .i64 0] ∧ w0.heap.size ≤ b ∧ Bs w' (some ⟨b, 0, none⟩) 128 fz ∧ Below w0.heap.size w0 w') ((frame_bs fn n g n g rfl rfl a len cap p _ hB0 hT0 hsm (by omega) hg hl fz HF).mono fun e w' h => by obtain ⟨b, h1, h2, _, h4, h5⟩ := h; exact ⟨_, h1, b, rfl, h2, h4, h5⟩) (fun v w5 hR => ?_) rdy_nil
  obtain ⟨b5, rfl, hb5, hB5, hbl5⟩ := hR
  have hA5 := hA0.below hbl5
  refine ⟨⟨HNAME.out _ hA5, hA5.gen⟩, fun hHeld => ?_⟩
  simp only [Act.put, List.setIfInBounds_toArray, List.set_cons_succ, List.set_cons_zero]
  refine drawn_take (i := 13) (v := .tuple #[.slice (some ⟨b5, 0, none⟩) 128 128, .int .i64 0]) (some 11) rfl rfl (by kernel_rfl) (by kernel_rfl) (by kernel_rfl) (fun _ _ _ h => h) (Or.inl ⟨by kernel_rfl, fun wq hw => by go_simp⟩) hHeld ?_
  simp only [Act.put, List.setIfInBounds_toArray, List.set_cons_succ, List.set_cons_zero]
  refine drawn_take (i := 14) (v := .slice (some ⟨b5, 0, none⟩) 128 128) (some 25) rfl rfl (by kernel_rfl) (by kernel_rfl) (by kernel_rfl) (fun _ _ _ h => h) (Or.inl ⟨by kernel_rfl, fun wq hw => by go_simp⟩) hHeld ?_
  refine drawn_take (i := 15) (v := .int .i64 0) (some 26) rfl rfl (by kernel_rfl) (by kernel_rfl) (by kernel_rfl) (fun _ _ _ h => h) (Or.inl ⟨by kernel_rfl, fun wq hw => by go_simp⟩) hHeld ?_
  simp only [Act.put, List.setIfInBounds_toArray, List.set_cons_succ, List.set_cons_zero]
  refine drawn_take (i := 16) (v := .slice (some ⟨b5, 0, none⟩) 128 128) (some 9) rfl rfl (by kernel_rfl) (by kernel_rfl) (by kernel_rfl) (fun _ _ _ h => h) (Or.inl ⟨by kernel_rfl, fun wq hw => by go_simp⟩) hHeld ?_
  refine drawn_take (i := 17) (v := .int .i64 0) (some 10) rfl rfl (by kernel_rfl) (by kernel_rfl) (by kernel_rfl) (fun _ _ _ h => h) (Or.inl ⟨by kernel_rfl, fun wq hw => by go_simp⟩) hHeld ?_
  simp only [Act.put, List.setIfInBounds_toArray, List.set_cons_succ, List.set_cons_zero]
  refine wpAnyH_done (by kernel_rfl) ?_ _
  refine NoPanic.normal ?_
  have hbw5 : Below w.heap.size w w5 := hbd.trans (hbl5.mono hbd.size)
  have hD5 := h.below hbw5
  have hBF5 : BsF F w5 (some ⟨b5, 0, none⟩) 128 fz := BsF.fresh hB5 (Nat.le_trans hbd.size hb5) HSS.out.lt
  have HD5 := hidn hD5
  have HBF5 := hidn hBF5
  have HA5 := hidn hA5
  have HBW5 := hidn hbw5
  clear hHeld hB5 hbl5 hb5 hA5 hbw5 hD5 hBF5 hB0 hD0 hT0 hA0 hbd HC HW0
  go_wp2_with fail
  have hbd : Below w5.heap.size w5 w5.drew := (Below.refl _ _).drew
  have hA6 := HA5.out.below hbd
  have hD6 := HD5.out.below hbd
  have hBF6 := HBF5.out.below hbd
  obtain ⟨w6, hw6⟩ : ∃ w6, w6 = w5.drew := ⟨_, rfl⟩
  rw [← hw6] at hbd hA6 hD6 hBF6
  have HW6 := hidn hw6
  have HC6 := hidn (And.intro (HNAME.out _ hA6) hA6.disk)
  clear hw6
  refine wp_region_noPanic ?_
  refine wp_region_held_drew (S := fun w' => w'.cell? ⟨sb, 1 + f, none⟩ = some (.string fn) ∧ w'.cell? ⟨sb, 0, none⟩ = some (.pointer (some ⟨d, 0, none⟩))) (by kernel_rfl) (HW6.out ▸ HC6.out) (fun hHeld => ?_)
  rw [← HW6.out]
  rw [← HW6.out] at hHeld
  refine drawn_take (i := 0) (v := .pointer (some ⟨sb, 0, none⟩)) (some 27) rfl rfl (by kernel_rfl) (by kernel_rfl) (by kernel_rfl) (fun _ _ _ h => h) (Or.inl ⟨by kernel_rfl, fun wq hw => by go_simp⟩) hHeld ?_
  simp only [Act.put, List.setIfInBounds_toArray, List.set_cons_succ, List.set_cons_zero]
  refine drawn_take (i := 1) (v := .pointer (some ⟨sb, 0, none⟩)) (some 28) rfl rfl (by kernel_rfl) (by kernel_rfl) (by kernel_rfl) (fun _ _ _ h => h) (Or.inl ⟨by kernel_rfl, fun wq hw => by go_simp⟩) hHeld ?_
  simp only [Act.put, List.setIfInBounds_toArray, List.set_cons_succ, List.set_cons_zero]
  refine drawn_take (i := 2) (v := .pointer (some ⟨sb, 0, none⟩)) (some 29) rfl rfl (by kernel_rfl) (by kernel_rfl) (by kernel_rfl) (fun _ _ _ h => h) (Or.inl ⟨by kernel_rfl, fun wq hw => by go_simp⟩) hHeld ?_
  simp only [Act.put, List.setIfInBounds_toArray, List.set_cons_succ, List.set_cons_zero]
  refine drawn_take (i := 3) (v := .pointer (some ⟨d, 0, none⟩)) (some 30) rfl rfl (by kernel_rfl) (by kernel_rfl) (by kernel_rfl) (fun _ _ _ h => h) (Or.inl ⟨by kernel_rfl, fun wq hw => load_run (x := .tmp 29) (vx := .pointer (some ⟨sb, 0, none⟩)) (by kernel_rfl) (by kernel_rfl) (load_ptr hw.2)⟩) hHeld ?_
  refine drawn_take (i := 4) (v := .pointer (some ⟨sb, 0, none⟩)) (some 31) rfl rfl (by kernel_rfl) (by kernel_rfl) (by kernel_rfl) (fun _ _ _ h => h) (Or.inl ⟨by kernel_rfl, fun wq hw => by go_simp⟩) hHeld ?_
  refine drawn_take (i := 5) (v := .int .i64 (f : Int)) (some 32) rfl rfl (by kernel_rfl) (by kernel_rfl) (by kernel_rfl) (fun _ _ _ h => h) (Or.inl ⟨by kernel_rfl, fun wq hw => by go_simp⟩) hHeld ?_
  simp only [Act.put, List.setIfInBounds_toArray, List.set_cons_succ, List.set_cons_zero]
  refine drawn_take (i := 6) (v := .pointer (some ⟨sb, 0, none⟩)) (some 33) rfl rfl (by kernel_rfl) (by kernel_rfl) (by kernel_rfl) (fun _ _ _ h => h) (Or.inl ⟨by kernel_rfl, fun wq hw => by go_simp⟩) hHeld ?_
  simp only [Act.put, List.setIfInBounds_toArray, List.set_cons_succ, List.set_cons_zero]
  refine drawn_take (i := 7) (v := .pointer (some ⟨sb, 1, none⟩)) (some 34) rfl rfl (by kernel_rfl) (by kernel_rfl) (by kernel_rfl) (fun _ _ _ h => h) (Or.inl ⟨by kernel_rfl, fun wq hw => by go_simp⟩) hHeld ?_
  simp only [Act.put, List.setIfInBounds_toArray, List.set_cons_succ, List.set_cons_zero]
  refine drawn_take (i := 8) (v := .pointer (some ⟨sb, 1 + f, none⟩)) (some 35) rfl rfl (by kernel_rfl) (by kernel_rfl) (by kernel_rfl) (fun _ _ _ h => h) (Or.inl ⟨by kernel_rfl, fun wq hw => idx_run (x := .tmp 34) (y := .tmp 32) (vx := .pointer (some ⟨sb, 1, none⟩)) (vy := .int .i64 (f : Int)) (by kernel_rfl) (by kernel_rfl) (by kernel_rfl) (HIX.out wq)⟩) hHeld ?_
  simp only [Act.put, List.setIfInBounds_toArray, List.set_cons_succ, List.set_cons_zero]
  refine drawn_take (i := 9) (v := .string fn) (some 36) rfl rfl (by kernel_rfl) (by kernel_rfl) (by kernel_rfl) (fun _ _ _ h => h) (Or.inl ⟨by kernel_rfl, fun wq hw => load_run (x := .tmp 35) (vx := .pointer (some ⟨sb, 1 + f, none⟩)) (by kernel_rfl) (by kernel_rfl) (load_str hw.1)⟩) hHeld ?_
  refine drawn_take (i := 10) (v := .int .i64 (n : Int)) (some 37) rfl rfl (by kernel_rfl) (by kernel_rfl) (by kernel_rfl) (fun _ _ _ h => h) (Or.inl ⟨by kernel_rfl, fun wq hw => by go_simp⟩) hHeld ?_
  refine drawn_take (i := 11) (v := .slice (some ⟨b5, 0, none⟩) 128 128) (some 38) rfl rfl (by kernel_rfl) (by kernel_rfl) (by kernel_rfl) (fun _ _ _ h => h) (Or.inl ⟨by kernel_rfl, fun wq hw => by go_simp⟩) hHeld ?_
  simp only [Act.put, List.setIfInBounds_toArray, List.set_cons_succ, List.set_cons_zero]
  refine wpAnyH_ready (rs := [12]) (by kernel_rfl) (by simp) ?_
  refine rdy_call (i := 12) rfl rfl (some 39) rfl 35 #[.pointer (some ⟨d, 0, none⟩), .string fn, .int .i64 (n : Int), .slice (some ⟨b5, 0, none⟩) 128 128] (write_call_run (x := 30) (y := 36) (z := 37) (u := 38) (by kernel_rfl) (by kernel_rfl) (by kernel_rfl) (by kernel_rfl) (by kernel_rfl)) (fun v w' => v = .int .i64 0 ∧ DiskOf w' d F N (upd M fn.data.toList ((M fn.data.toList).set n (xo.wrote fz))) free (burnt fuse) ∧ Gr F F w6 w') ((write_old _ d F N M free fuse hD6 fn HSN.out n nn o HN HNL.out HO.out b5 0 128 fz hBF6 h0 hf1 hf2 xo HXO).mono fun e w' h => ⟨_, h.1, rfl, h.2⟩) (fun v w7 hR => ?_) rdy_nil
  obtain ⟨rfl, hD7, hG7⟩ := hR
  have hA7 := hA6.gr hG7 hsb
  refine ⟨⟨HNAME.out _ hA7, hA7.disk⟩, fun hHeld => ?_⟩
  simp only [Act.put, List.setIfInBounds_toArray, List.set_cons_succ, List.set_cons_zero]
  refine drawn_take (i := 13) (v := .int .i64 0) (some 8) rfl rfl (by kernel_rfl) (by kernel_rfl) (by kernel_rfl) (fun _ _ _ h => h) (Or.inl ⟨by kernel_rfl, fun wq hw => by go_simp⟩) hHeld ?_
  simp only [Act.put, List.setIfInBounds_toArray, List.set_cons_succ, List.set_cons_zero]
  refine wpAnyH_done (by kernel_rfl) ?_ _
  refine NoPanic.normal ?_
  have HD7 := hidn hD7
  have HG7 := hidn ((Gr.of (Keeps.of_below (F := F) HBW5.out)).trans ((Gr.of (Keeps.of_below (F := F) hbd)).trans hG7))
  clear hHeld hA7 hD7 hG7 hA6 hD6 hBF6
  go_wp2
  go_ret
  exact ⟨rfl, HD7.out, HG7.out⟩
end Go.Proofs.YtdbogbiklabmkaaDoor

namespace Go.Proofs.YtdbogbiklabmkaaDoor
open Go.RowKit Go.Maps
set_option linter.unusedVariables false

set_option maxHeartbeats 2000000 in
theorem smend_ok (w : World) (d : Nat) (F : Nat → Prop) (N : Nat) (M : List UInt8 → List Ext) (free : Int) (h : DiskOf w d F N M free (-1)) (hM0 : M [] = []) (s f0 f1 f2 f3 : ByteArray) (hs : s.size ≤ 1000) (e0 : Hid (f0 = sf0 s)) (e1 : Hid (f1 = sf1 s)) (e2 : Hid (f2 = sf2 s)) (e3 : Hid (f3 = sf3 s))
    (g i : Nat) (hi : i ≤ 1000000) (hg : g ≤ 4611686018427387904) (pp : List Nat) (hpb : ∀ x ∈ pp, x < 256) (R : List Nat) (wg : Nat) (hwg : wg < 4) (HR : Hid (R = slotF pp wg i)) (fn : ByteArray) (HFN : Hid (fn = nameF f0 f1 f2 f3 wg)) (hns : nameB fn.data.toList = true) (nn : Nat) (HN : Hid (nn = (M fn.data.toList).length)) (hin : i < nn) (xo : Ext) (HXO : Hid ((M fn.data.toList)[i]? = some xo)) (hS : Sound5 w F)
    (HK : Hid (∀ w5 sb, StripeAt w5 sb d f0 f1 f2 f3 g → Below w.heap.size w w5 → Calls Tryd.prog 22 #[.pointer (some ⟨sb, 0, none⟩), .int .i64 (i : Int)] w5 fun e w' => e = .returned (.tuple #[.agg (vb R).toArray, .int .i64 (wg : Nat), .int .i64 1]) ∧ Below w5.heap.size w5 w')) :
    Calls Tryd.prog 11 #[.pointer (some ⟨d, 0, none⟩), .string s, .int .i64 g, .int .i64 i] w fun r w' => r = .returned (.tuple #[.bool true, .int .i64 0]) ∧ DiskOf w' d F N (upd M fn.data.toList (((M fn.data.toList).set i (xo.wrote (frameB (nums fn) i g (payS pp wg i)))).map Ext.synced)) free (-1) ∧ Gr F F w w' := by
  have lR : R.length = 106 := by rw [HR.out]; exact (slotF_ok hpb wg i).1
  have HPBB := hidn hpb
  have HSS := hidn hS
  have HNS := hidn hns
  have HIN := hidn hin
  have HG := hidn hg
  have HI := hidn hi
  have HSM : Hid (fn.size ≤ maxLen) := hidn (by have := (name_size hns).2; unfold maxLen; omega)
  have HIX := hidn (fun sb wx => file_index sb wg hwg wx)
  have HNAME : Hid (∀ (wx : World) (sb : Nat), StripeAt wx sb d f0 f1 f2 f3 g → wx.cell? ⟨sb, 1 + wg, none⟩ = some (.string fn)) := hidn (fun wx sb hx => by rw [HFN.out]; exact hx.name wg hwg)
  have HD := hidn h
  have hHv := fun wx => files_any wx s hs
  rw [← e0.out, ← e1.out, ← e2.out, ← e3.out] at hHv
  have hd1 : decide ((i : Int) < 0) = false := decide_eq_false (by omega)
  have hd2 : decide ((2147483647 : Int) < (i : Int)) = false := decide_eq_false (by omega)
  have hd3 : decide (2147483647 < i) = false := decide_eq_false (by omega)
  obtain ⟨hz, hzs⟩ := zero_of_info Tryd.infoSlot
  obtain ⟨c0, hc0'⟩ : ∃ c0, c0 = List.replicate 106 0 := ⟨_, rfl⟩
  rw [← hc0'] at hz
  have HS1 : Hid ((Tryd.prog.info? 65).map (·.size) = some (vb R).toArray.size) := hidn (by rw [hzs]; simp [length_vb, lR])
  have HO1 : Hid ((vb c0).toArray.size = (vb R).toArray.size) := hidn (by rw [hc0']; simp [length_vb, lR])
  have HWG := hidn hwg
  clear hc0' hzs lR hpb hwg hS hns hin hg hi
  go_enter Tryd.func11, Tryd.ntmps11
  go_wp2_with fail
  refine (stripeMade _ d F N M free (-1) HD.out hM0).mono ?_
  rintro e w1 ⟨rfl, hb1⟩
  go_wp2_with fail
  refine (hHv _).mono ?_
  rintro e w4 ⟨rfl, hb4⟩
  have hb14 : Below w.heap.size w w4 := hb1.trans (hb4.mono hb1.size)
  have HB14 := hidn hb14
  clear hb1 hb4 hb14 hHv h
  go_wp2_with fail
  obtain ⟨sb, hsb⟩ : ∃ sb, sb = w4.heap.size := ⟨_, rfl⟩
  obtain ⟨w5, hw5⟩ : ∃ w5, w5 = w4.alloc (.cells #[.pointer (some ⟨d, 0, none⟩), .string f0, .string f1, .string f2, .string f3, .int .i64 (g : Int)] 51) := ⟨_, rfl⟩
  have HB5 : Hid (Below w.heap.size w w5) := hidn (by rw [hw5]; exact HB14.out.trans ((Below.refl _ _).alloc HB14.out.size _))
  have HA5 : Hid (StripeAt w5 sb d f0 f1 f2 f3 g) := hidn (by rw [hw5, hsb]; exact heap_alloc_new _ _)
  rw [← hw5, ← hsb]
  have HNSB : Hid (¬ F sb) := hidn (fun hF => by have := HSS.out.lt _ hF; have := HB14.out.size; omega)
  clear hw5 hsb HB14
  refine (HK.out w5 sb HA5.out HB5.out).mono ?_
  rintro e w2 ⟨rfl, hb2⟩
  have HB2 := hidn (HB5.out.trans (hb2.mono HB5.out.size))
  have HA2 := hidn (HA5.out.below hb2)
  clear hb2
  have HNX3 : Hid ((w2.alloc (.cells (vb c0).toArray 65)).heap[w2.heap.size]? = some (.cells (vb c0).toArray 65 (0, 0))) := hidn (heap_alloc_new _ _)
  obtain ⟨w3, hw3⟩ : ∃ w3, w3 = (w2.alloc (.cells (vb c0).toArray 65)).setRow w2.heap.size (vb R).toArray := ⟨_, rfl⟩
  have HW3 := hidn hw3
  have HR3 : Hid (w3.heap[w2.heap.size]? = some (.cells (vb R).toArray 65 (0, 0))) := hidn (by rw [hw3]; exact setRow_heap _ _ _ _ _ _ HNX3.out)
  have HA3 : Hid (StripeAt w3 sb d f0 f1 f2 f3 g) := hidn (by rw [hw3]; exact HA2.out.below (below_setRow ((Below.refl _ _).alloc (Nat.le_refl _) _) (Nat.le_refl _) _))
  have HB3 : Hid (Below w.heap.size w w3) := hidn (by rw [hw3]; exact HB2.out.trans (below_setRow ((Below.refl _ _).alloc HB2.out.size _) HB2.out.size _))
  clear hw3
  repeat (first
    | (with_reducible refine wpList_store_row (by rfl) 65 (.tmp 11) (.tmp 35) (by rfl) w2.heap.size (vb R).toArray (by kernel_rfl) (by kernel_rfl) 65 (vb c0).toArray HNX3.out HS1.out HO1.out image_all ?_; rw [← HW3.out])
    | (with_reducible refine wpList_load_row (by rfl) 65 (.tmp 11) (by rfl) w2.heap.size (by kernel_rfl) 65 (vb R).toArray (0, 0) _ HR3.out Tryd.underlying65 rfl HS1.out ?_)
    | go_values | go_skip | go_guarded | go_step | go_upon | (simp only []))
  refine (payload_any _ pp R wg i HWG.out HR HPBB.out).mono ?_
  rintro e w6 ⟨b6, o6, m6, c6, rfl, hm6, hbb6, hB6, hb6⟩
  have HB6 := hidn (HB3.out.trans (hb6.mono HB3.out.size))
  have HA6 := hidn (HA3.out.below hb6)
  have HBB6 := hidn hB6
  have HM6 := hidn hm6
  have HD6 := hidn (HD.out.below HB6.out)
  have HS6 := hidn (HSS.out.below HB6.out)
  clear hb6 hbb6 hB6 hm6
  obtain ⟨fz, hfz⟩ : ∃ fz, fz = frameB (nums fn) i g (payS pp wg i) := ⟨_, rfl⟩
  have HFZ := hidn hfz
  clear hfz
  go_wp2_with fail
  refine (stripeWrite_old _ d g F N M free (-1) HD6.out HS6.out sb wg f0 f1 f2 f3 fn HA6.out HNSB.out HWG.out HFN HNS.out i nn (i * 385) HN HIN.out xo HXO rfl _ m6 c6 (payS pp wg i) fz HBB6.out HM6.out HG.out HFZ (by omega) (by omega) (by omega) (by have := HI.out; omega)).mono ?_
  rintro e w7 ⟨rfl, hD7, hG7⟩
  have HD7 := hidn hD7
  have HA7 := hidn (HA6.out.gr hG7 HNSB.out)
  have HG7 := hidn ((Gr.of (Keeps.of_below (F := F) HB6.out)).trans hG7)
  clear hD7 hG7
  have hix := HIX.out sb
  have hcn := HNAME.out _ _ HA7.out
  go_wp2_with fail
  have hne : upd M fn.data.toList ((M fn.data.toList).set i (xo.wrote fz)) fn.data.toList ≠ [] := by
    rw [upd_same]; intro e
    have h1 := congrArg List.length e
    rw [List.length_set, ← HN.out] at h1
    have := HIN.out
    simp at h1
    omega
  refine (sync_disk _ d F N _ free (burnt (-1)) HD7.out fn HSM.out hne (by rw [burnt_none]; omega) (by rw [burnt_none]; omega) (by rw [burnt_none]; omega)).mono ?_
  rw [upd_upd, upd_same, burnt_none, burnt_none, HFZ.out]
  rintro e w8 ⟨rfl, hD8, hG8⟩
  have HD8 := hidn hD8
  have HG8 := hidn (HG7.out.trans hG8)
  clear hD8 hG8 hne hix hcn
  go_wp2
  go_ret2
  exact ⟨rfl, HD8.out, HG8.out⟩
end Go.Proofs.YtdbogbiklabmkaaDoor

namespace Go.Proofs.YtdbogbiklabmkaaDoor
open Go.RowKit Go.Maps
set_option linter.unusedVariables false

set_option maxHeartbeats 2000000 in
theorem smend_none (w : World) (d : Nat) (F : Nat → Prop) (N : Nat) (M : List UInt8 → List Ext) (free fuse : Int) (h : DiskOf w d F N M free fuse) (hM0 : M [] = []) (s f0 f1 f2 f3 : ByteArray) (hs : s.size ≤ 1000) (e0 : Hid (f0 = sf0 s)) (e1 : Hid (f1 = sf1 s)) (e2 : Hid (f2 = sf2 s)) (e3 : Hid (f3 = sf3 s))
    (g i : Nat) (hi : i ≤ 1000000) (R : List Nat) (lR : R.length = 106) (hRb : ∀ x ∈ R, x < 256) (wg : Nat)
    (HK : Hid (∀ w5 sb, StripeAt w5 sb d f0 f1 f2 f3 g → Below w.heap.size w w5 → Calls Tryd.prog 22 #[.pointer (some ⟨sb, 0, none⟩), .int .i64 (i : Int)] w5 fun e w' => e = .returned (.tuple #[.agg (vb R).toArray, .int .i64 (wg : Nat), .int .i64 0]) ∧ Below w5.heap.size w5 w')) :
    Calls Tryd.prog 11 #[.pointer (some ⟨d, 0, none⟩), .string s, .int .i64 g, .int .i64 i] w fun r w' => r = .returned (.tuple #[.bool false, .int .i64 0]) ∧ Below w.heap.size w w' := by
  have HD := hidn h
  have hHv := fun wx => files_any wx s hs
  rw [← e0.out, ← e1.out, ← e2.out, ← e3.out] at hHv
  have hd1 : decide ((i : Int) < 0) = false := decide_eq_false (by omega)
  have hd2 : decide ((2147483647 : Int) < (i : Int)) = false := decide_eq_false (by omega)
  have hd3 : decide (2147483647 < i) = false := decide_eq_false (by omega)
  obtain ⟨hz, hzs⟩ := zero_of_info Tryd.infoSlot
  obtain ⟨c0, hc0'⟩ : ∃ c0, c0 = List.replicate 106 0 := ⟨_, rfl⟩
  rw [← hc0'] at hz
  have HS1 : Hid ((Tryd.prog.info? 65).map (·.size) = some (vb R).toArray.size) := hidn (by rw [hzs]; simp [length_vb, lR])
  have HO1 : Hid ((vb c0).toArray.size = (vb R).toArray.size) := hidn (by rw [hc0']; simp [length_vb, lR])
  have HLR := hidn lR
  have HRB := hidn hRb
  clear hc0' hzs lR hRb
  go_enter Tryd.func11, Tryd.ntmps11
  go_wp2_with fail
  refine (stripeMade _ d F N M free fuse HD.out hM0).mono ?_
  rintro e w1 ⟨rfl, hb1⟩
  go_wp2_with fail
  refine (hHv _).mono ?_
  rintro e w4 ⟨rfl, hb4⟩
  have hb14 : Below w.heap.size w w4 := hb1.trans (hb4.mono hb1.size)
  have HB14 := hidn hb14
  clear hb1 hb4 hb14 hHv h
  go_wp2_with fail
  obtain ⟨sb, hsb⟩ : ∃ sb, sb = w4.heap.size := ⟨_, rfl⟩
  obtain ⟨w5, hw5⟩ : ∃ w5, w5 = w4.alloc (.cells #[.pointer (some ⟨d, 0, none⟩), .string f0, .string f1, .string f2, .string f3, .int .i64 (g : Int)] 51) := ⟨_, rfl⟩
  have HB5 : Hid (Below w.heap.size w w5) := hidn (by rw [hw5]; exact HB14.out.trans ((Below.refl _ _).alloc HB14.out.size _))
  have HA5 : Hid (StripeAt w5 sb d f0 f1 f2 f3 g) := hidn (by rw [hw5, hsb]; exact heap_alloc_new _ _)
  rw [← hw5, ← hsb]
  clear hw5 hsb HB14
  refine (HK.out w5 sb HA5.out HB5.out).mono ?_
  rintro e w2 ⟨rfl, hb2⟩
  have HB2 := hidn (HB5.out.trans (hb2.mono HB5.out.size))
  clear hb2
  have HNX3 : Hid ((w2.alloc (.cells (vb c0).toArray 65)).heap[w2.heap.size]? = some (.cells (vb c0).toArray 65 (0, 0))) := hidn (heap_alloc_new _ _)
  obtain ⟨w3, hw3⟩ : ∃ w3, w3 = (w2.alloc (.cells (vb c0).toArray 65)).setRow w2.heap.size (vb R).toArray := ⟨_, rfl⟩
  have HW3 := hidn hw3
  have HR3 : Hid (w3.heap[w2.heap.size]? = some (.cells (vb R).toArray 65 (0, 0))) := hidn (by rw [hw3]; exact setRow_heap _ _ _ _ _ _ HNX3.out)
  have HB3 : Hid (Below w.heap.size w w3) := hidn (by rw [hw3]; exact HB2.out.trans (below_setRow ((Below.refl _ _).alloc HB2.out.size _) HB2.out.size _))
  clear hw3
  repeat (first
    | (with_reducible refine wpList_store_row (by rfl) 65 (.tmp 11) (.tmp 35) (by rfl) w2.heap.size (vb R).toArray (by kernel_rfl) (by kernel_rfl) 65 (vb c0).toArray HNX3.out HS1.out HO1.out image_all ?_; rw [← HW3.out])
    | go_values | go_skip | go_guarded | go_step | go_upon | (simp only []))
  go_ret2
  exact ⟨rfl, HB3.out⟩

theorem rest_none {pp : List Nat} (hpb : ∀ x ∈ pp, x < 256) (bad : Nat → Nat → Bool) (j : Nat) (ho : ∀ k, k < 4 → bad k j = false) : countS (fun k => !bad k j) 4 = 0 := by
  have b0 := ho 0 (by omega)
  have b1 := ho 1 (by omega)
  have b2 := ho 2 (by omega)
  have b3 := ho 3 (by omega)
  simp [countS, b0, b1, b2, b3]
theorem synced_same {x : Ext} (h : x.waits = false) : x.synced = x := by unfold Ext.synced; rw [h]; rfl
theorem synced_wrote (x : Ext) (z : List Nat) : (x.wrote z).synced = ⟨z, z, z, false⟩ := by simp [Ext.synced, Ext.wrote]
theorem Turned.mend {M : List UInt8 → List Ext} {g : Nat} {pp : List Nat} {E : Nat} {bad : Nat → Nat → Bool} (hM : Turned M g pp E bad) (k j : Nat) (hk : k < 4) (hj : j < E) (x : Ext) :
    Turned (upd M (nameX k).data.toList (((M (nameX k).data.toList).set j (x.wrote (frameB (nums (nameX k)) j g (payS pp k j)))).map Ext.synced)) g pp E (fun k' j' => bad k' j' && !(k' == k && j' == j)) where
  nil := by
    have : ∀ k, k < 4 → ([] : List UInt8) ≠ (nameX k).data.toList := by decide +kernel
    rw [upd_other _ _ _ _ (this k hk)]
    exact hM.nil
  len := fun k' hk' => by
    by_cases hkk : k' = k
    · subst hkk; rw [upd_same, List.length_map, List.length_set]; exact hM.len k' hk'
    · rw [upd_other _ _ _ _ (nameX_ne k' hk' k hk hkk)]; exact hM.len k' hk'
  ext := fun k' hk' j' hj' => by
    by_cases hkk : k' = k
    · subst hkk
      rw [upd_same, List.getElem?_map]
      by_cases hjj : j' = j
      · subst hjj
        rw [List.getElem?_set_self (by rw [← hM.len k' hk']; exact hj')]
        exact ⟨_, rfl, by rw [synced_wrote], fun h => by simp at h, fun _ => by rw [synced_wrote]; rfl⟩
      · obtain ⟨x', hx', hw, h1, h2⟩ := hM.ext k' hk' j' hj'
        rw [List.getElem?_set_ne (fun h => hjj h.symm), hx']
        exact ⟨x', by rw [Option.map_some, synced_same hw], hw, fun h => h1 (by simpa [hjj] using h), fun h => h2 (by simpa [hjj] using h)⟩
    · rw [upd_other _ _ _ _ (nameX_ne k' hk' k hk hkk)]
      obtain ⟨x', hx', hw, h1, h2⟩ := hM.ext k' hk' j' hj'
      exact ⟨x', hx', hw, fun h => h1 (by simpa [hkk] using h), fun h => h2 (by simpa [hkk] using h)⟩
end Go.Proofs.YtdbogbiklabmkaaDoor
