/- Pairs: half a store, Store on a disk that has neither file. -/
import Derived.Test.YtdigblglehchbaaDoorPairStore
namespace Go.Proofs.YtdigblglehchbaaDoor
open Go.RowKit Go.Maps
set_option linter.unusedVariables false

theorem wpList_val {P : Program} {w w' : World} {ops : Array Oper} {rest : List Oper} {o : Oper} {a : Act} {Q : Exit → Act → World → Prop} (hgd : o.guard = none) (v : Value) (hrun : (execOp a.eval o).run P w = .ok (.value v) w') (h : wpList P ops Q rest (a.put o.dst v) w') : wpList P ops Q (o :: rest) a w := by
  refine wpList_plain hgd fun K hK => ?_
  unfold Oper.wp
  rw [hrun]
  exact hK _ _ h
theorem slice_run {o : Oper} {a : Act} {w : World} {x lo hi : Operand} {vx vlo vhi v : Value} {len cap : Nat} {ad : Option Addr} (ho : o.op = Op.slice 22 x (some lo) (some hi) none) (hx : a.eval x = .slice ad len cap) (hlo : a.eval lo = vlo) (hhi : a.eval hi = vhi)
    (hr : (Instr.slice 22 (.slice ad len cap) (some vlo) (some vhi) none).run Tryd.prog w = .ok v w) : (execOp a.eval o).run Tryd.prog w = .ok (.value v) w := by
  have e : (Instr.sliceAt 22 (.slice ad len cap) (some vlo) (some vhi) none).run Tryd.prog w = .ok v w := by
    rw [run_sliceAt_slice (P := Tryd.prog) w 22 (.slice ad len cap) (some vlo) (some vhi) none (by kernel_rfl)]
    exact hr
  unfold execOp
  simp only [ho, Option.map_some, Option.map_none, hx, hlo, hhi, Sem.run_bind, e, Result.andThen_ok, Sem.run_pure]

set_option maxHeartbeats 2000000 in
theorem storeHalf_new (w : World) (d : Nat) (F : Nat → Prop) (N : Nat) (M : List UInt8 → List Ext) (free : Int) (h : DiskOf w d F N M free (-1)) (hS : Sound5 w F) (s : ByteArray) (hs : nameB s.data.toList = true) (hM : M s.data.toList = []) (g : Nat) (hg : g ≤ 4611686018427387904)
    (a : Option Addr) (len cap : Nat) (zs : List Nat) (hB : BsF F w a len zs) (hcap : len ≤ cap) (hlen : len ≤ 100000) (E : Nat) (HE : Hid (E = extB len)) (hN : N + E < maxLen) (hfr : (E : Int) ≤ free) (hfr2 : free ≤ 1000000) :
    Calls Tryd.prog 20 #[.pointer (some ⟨d, 0, none⟩), .string s, .int .i64 g, .slice a len cap] w fun e w' => e = .returned (.int .i64 0) ∧ ∃ F', DiskOf w' d F' (N + E) (upd M s.data.toList ((fileL s g zs E).map Ext.synced)) (free - E) (-1) ∧ Gr F F' w w' := by
  have hsm : s.size ≤ maxLen := by have := (name_size hs).2; unfold maxLen; omega
  have hE1 : 1 ≤ E ∧ 106 * E ≤ len + 106 ∧ (0 < len → 106 * (E - 1) < len) := by
    rw [HE.out]; unfold extB
    split
    · omega
    · refine ⟨by omega, ?_, ?_⟩ <;> omega
  have HSN := hidn hs
  have HM := hidn hM
  have HD := hidn h
  have HSS := hidn hS
  have HB := hidn hB
  have HE1 := hidn hE1
  have hEx := extents_any w (len : Int) (by omega)
  rw [Int.toNat_natCast, ← HE.out] at hEx
  clear hs hM h hS hB hE1
  go_enter Tryd.func20, Tryd.ntmps20
  go_wp2_with fail
  refine hEx.mono ?_
  rintro e w0 ⟨rfl, rfl⟩
  clear hEx
  go_wp2_with fail
  go_loopw [15] (fun iv wr => ∃ k : Nat, k ≤ E ∧ iv = .int .i64 k ∧ ∃ F', Hid (DiskOf wr d F' (N + k) (upd M s.data.toList (fileL s g zs k)) (free - k) (-1)) ∧ Hid (Gr F F' w0 wr)) (fun iv _ => E - (intOf iv).toNat)
  case atStart =>
    refine ⟨0, Nat.zero_le _, rfl, F, ?_, hidn (Gr.refl _ _)⟩
    rw [show fileL s g zs 0 = [] from rfl, upd_self M _ _ HM.out, Nat.add_zero, show free - ((0 : Nat) : Int) = free by omega]
    exact HD
  case round =>
    obtain ⟨k, hk, rfl, F', HK, HGK⟩ := hrel
    by_cases hlt : k < E
    · have hlt' : decide (k < E) = true := by simpa using hlt
      have h1 := HE1.out
      obtain ⟨lo, hlo⟩ : ∃ lo, lo = 106 * k := ⟨_, rfl⟩
      obtain ⟨hi, hhi⟩ : ∃ hi, hi = min (106 * k + 106) len := ⟨_, rfl⟩
      have hll : lo ≤ len := by
        by_cases h0 : 0 < len
        · have := h1.2.2 h0
          have : 106 * k ≤ 106 * (E - 1) := Nat.mul_le_mul_left _ (by omega)
          omega
        · have : E = 1 := by rw [HE.out]; unfold extB; rw [if_pos (by omega)]
          have : k = 0 := by omega
          omega
      have hlh : lo ≤ hi := by omega
      have hw1 : IntKind.i64.wrap ((k : Int) * 106) = (lo : Int) := by rw [IntKind.wrap_i64]; omega
      have hw2 : IntKind.i64.wrap ((lo : Int) + 106) = ((lo + 106 : Nat) : Int) := by rw [IntKind.wrap_i64]; omega
      have hmn : (if len < lo + 106 then (len : Int) else ((lo + 106 : Nat) : Int)) = (hi : Int) := by split <;> omega
      have hBk := HB.out.gr HGK.out
      obtain ⟨a', hsl, hB', hx'⟩ := slice_part hBk.1 hcap lo hi hlh (by omega)
      obtain ⟨m, hm⟩ : ∃ m, m = hi - lo := ⟨_, rfl⟩
      obtain ⟨pp, hpp⟩ : ∃ pp, pp = partP zs k := ⟨_, rfl⟩
      have hB2 : Bs wr a' m pp := by
        rw [hm, hpp]
        have e : partP zs k = (zs.drop lo).take (hi - lo) := by unfold partP; rw [hBk.1.1, hlo, hhi]
        rw [e]
        exact hB'
      rw [← hm] at hsl
      have hm6 : m ≤ 106 := by omega
      have HB2 := hidn hB2
      have HPP := hidn hpp
      have HM6 := hidn hm6
      have HLT := hidn hlt
      obtain ⟨fz, hfz⟩ : ∃ fz, fz = frameB (nums s) k g pp := ⟨_, rfl⟩
      have HFZ := hidn hfz
      obtain ⟨l6, hl6⟩ : ∃ l6, l6 = lo + 106 := ⟨_, rfl⟩
      rw [← hl6] at hw2 hmn
      have HMN := hidn hmn
      have HSL := hidn hsl
      clear hfz hl6 hB2 hpp hm6 hm hB' hx' hBk hll hlh hlo hhi h1
      go_wp2_with fail
      clear hsl
      have hS5 := HSS.out.gr HGK.out
      have hfr' : (1 : Int) ≤ free - k := by have := HLT.out; omega
      refine (pairWrite_new _ d F' (N + k) _ (free - k) (-1) HK.out hS5 s HSN.out k (k * 385) g (hidn (by rw [upd_same, fileL_length])) rfl a' m _ pp fz HB2.out HM6.out hg HFZ (by omega) (by omega) (by omega) (by have := HLT.out; have := HE1.out; omega) (by have := HLT.out; omega) hfr' (by omega)).mono ?_
      rw [upd_upd, upd_same, burnt_none, HFZ.out, HPP.out, ← fileL_succ]
      rintro e w5 ⟨rfl, F5, hD5, hG5⟩
      have HD5 := hidn hD5
      have HG5 := hidn (HGK.out.trans hG5)
      clear hD5 hG5 hS5 hfr'
      go_wp2
      go_roundw
      case rel =>
        refine ⟨k + 1, HLT.out, by go_num, F5, ?_, HG5⟩
        have := HD5.out
        rw [show free - (k : Int) - 1 = free - ((k + 1 : Nat) : Int) by omega] at this
        exact this
      case measure => simp [intOf]; have := HLT.out; omega
    · obtain rfl : k = E := by omega
      have hlt' : decide (k < k) = false := by simp
      have HNE : Hid (upd M s.data.toList (fileL s g zs k) s.data.toList ≠ []) := hidn (by rw [upd_same]; intro e; have := fileL_length s g zs k; rw [e] at this; have := HE1.out.1; simp at *; omega)
      go_wp2_with fail
      refine (sync_disk _ d F' _ _ _ (-1) HK.out s hsm HNE.out (by omega) (by omega) (by omega)).mono ?_
      rw [upd_upd, upd_same, burnt_none]
      rintro e w5 ⟨rfl, hD5, hG5⟩
      go_wp2
      go_ret
      exact ⟨rfl, F', hD5, HGK.out.trans hG5⟩
end Go.Proofs.YtdigblglehchbaaDoor

namespace Go.Proofs.YtdigblglehchbaaDoor
open Go.RowKit Go.Maps
set_option linter.unusedVariables false

theorem fileA_list (s : ByteArray) : (fileA s).data.toList = s.data.toList ++ [46, 97] := by simp [fileA, ByteArray.data_append]
theorem fileB_list (s : ByteArray) : (fileB s).data.toList = s.data.toList ++ [46, 98] := by simp [fileB, ByteArray.data_append]
theorem file_ne (s : ByteArray) : (fileB s).data.toList ≠ (fileA s).data.toList := by
  rw [fileA_list, fileB_list]
  intro h
  have := List.append_cancel_left h
  simp at this

theorem bs_cut {w : World} {a : Option Addr} {len : Nat} {zs : List Nat} (h : Bs w a len zs) (m : Nat) (hm : m ≤ len) : Bs w a m (zs.take m) := by
  obtain ⟨hl, hx, hz, hn, hc⟩ := h
  refine ⟨by simp; omega, by omega, fun x hx => hz x (List.mem_of_mem_take hx), (fun h => by have := hn h; omega), fun x hx j hj => ?_⟩
  rw [hc x hx j (by omega)]
  simp [List.getD_eq_getElem?_getD, hj]
/-- The name 'x'. -/
def nmX : ByteArray := ⟨#[120]⟩
theorem nmX_A : nameB (fileA nmX).data.toList = true := by decide +kernel
theorem nmX_B : nameB (fileB nmX).data.toList = true := by decide +kernel

set_option maxHeartbeats 1000000 in
theorem drop_none (w : World) (d : Nat) (F : Nat → Prop) (N : Nat) (M : List UInt8 → List Ext) (free fuse : Int) (h : DiskOf w d F N M free fuse) (hM0 : M [] = []) (s : ByteArray) (hs : s.size ≤ 1000) (hA : M (fileA s).data.toList = []) (hB : M (fileB s).data.toList = []) :
    Calls Tryd.prog 18 #[.pointer (some ⟨d, 0, none⟩), .string s] w fun e w' => e = .returned (.int .i64 0) ∧ Below w.heap.size w w' := by
  have hsA : (fileA s).size ≤ maxLen := by
    have : (fileA s).size = s.size + 2 := by show (fileA s).data.size = _; rw [← Array.length_toList, fileA_list]; simp
    rw [this]; unfold maxLen; omega
  have hsB : (fileB s).size ≤ maxLen := by
    have : (fileB s).size = s.size + 2 := by show (fileB s).data.size = _; rw [← Array.length_toList, fileB_list]; simp
    rw [this]; unfold maxLen; omega
  have HA := hidn hA
  have HB := hidn hB
  clear hA hB
  go_enter Tryd.func18, Tryd.ntmps18
  go_wp2_with fail
  refine (pairMade _ d F N M free fuse h hM0).mono ?_
  rintro e w1 ⟨rfl, hb1⟩
  go_wp2_with fail
  refine (halves_any _ s hs).mono ?_
  rintro e w2 ⟨rfl, hb2⟩
  have hb12 : Below w.heap.size w w2 := hb1.trans (hb2.mono hb1.size)
  have hD2 := hidn (h.below hb12)
  clear h hb1 hb2
  generalize fileA s = fa at *
  generalize fileB s = fb at *
  have hi0 : ∀ wx : World, (Instr.index 51 (.agg #[.string fa, .string fb]) (.int .i64 0)).run Tryd.prog wx = .ok (.string fa) wx := fun wx => by kernel_rfl
  have hi1 : ∀ wx : World, (Instr.index 51 (.agg #[.string fa, .string fb]) (.int .i64 1)).run Tryd.prog wx = .ok (.string fb) wx := fun wx => by kernel_rfl
  go_wp2_with fail
  go_loopw [13] (fun iv wr => ∃ k : Nat, k ≤ 2 ∧ iv = .int .i64 k ∧ wr = w2) (fun iv _ => 2 - (intOf iv).toNat)
  case atStart => exact ⟨0, by omega, rfl, rfl⟩
  case round =>
    obtain ⟨k, hk, rfl, rfl⟩ := hrel
    match k, hk with
    | 0, _ =>
      go_wp2_with fail
      refine (remove_none _ d F N M free fuse hD2.out fa hsA HA.out).mono ?_
      rintro e w3 ⟨rfl, rfl⟩
      go_wp2
      go_roundw
      case rel => exact ⟨1, by omega, by first | rfl | go_num | simp, by first | rfl | trivial⟩
      case measure => simp [intOf]
    | 1, _ =>
      go_wp2_with fail
      refine (remove_none _ d F N M free fuse hD2.out fb hsB HB.out).mono ?_
      rintro e w3 ⟨rfl, rfl⟩
      go_wp2
      go_roundw
      case rel => exact ⟨2, by omega, by first | rfl | go_num | simp, by first | rfl | trivial⟩
      case measure => simp [intOf]
    | 2, _ =>
      go_wp2
      go_ret
      exact ⟨rfl, hb12⟩

set_option maxHeartbeats 2000000 in
theorem store_new (w : World) (d : Nat) (F : Nat → Prop) (N : Nat) (M : List UInt8 → List Ext) (free : Int) (h : DiskOf w d F N M free (-1)) (hS : Sound5 w F) (hM0 : M [] = []) (s : ByteArray) (hs : s.size ≤ 1000) (hnA : nameB (fileA s).data.toList = true) (hnB : nameB (fileB s).data.toList = true) (hA : M (fileA s).data.toList = []) (hB : M (fileB s).data.toList = [])
    (g : Nat) (hg : g ≤ 4611686018427387904) (a : Option Addr) (len cap : Nat) (zs : List Nat) (hBz : BsF F w a len zs) (hcap : len ≤ cap) (hlen : len ≤ 100000) (E : Nat) (HE : Hid (E = extB len)) (hN : N + E + E < maxLen) (hfr : (E : Int) + E ≤ free) (hfr2 : free ≤ 1000000) :
    Calls Tryd.prog 5 #[.pointer (some ⟨d, 0, none⟩), .string s, .int .i64 g, .slice a len cap] w fun e w' => e = .returned (.int .i64 0) ∧ ∃ F', DiskOf w' d F' (N + E + E) (upd (upd M (fileA s).data.toList ((fileL (fileA s) g zs E).map Ext.synced)) (fileB s).data.toList ((fileL (fileB s) g zs E).map Ext.synced)) (free - E - E) (-1) ∧ Gr F F' w w' := by
  have hsm : s.size ≤ maxLen := by unfold maxLen; omega
  have hne := file_ne s
  have HNE := hidn hne
  have HD := hidn h
  have HS := hidn hS
  have HA := hidn hA
  have HB := hidn hB
  have HnA := hidn hnA
  have HnB := hidn hnB
  have HBz := hidn hBz
  obtain ⟨fz, hfz⟩ : ∃ fz, fz = frameB (nums s) 0 g [] := ⟨_, rfl⟩
  have HFZ := hidn hfz
  have hHv := fun wx => halves_any wx s hs
  have hDr := fun (wx : World) (hx : DiskOf wx d F N M free (-1)) => drop_none wx d F N M free (-1) hx hM0 s hs hA hB
  clear hne hA hB hnA hnB hBz hfz
  go_enter Tryd.func5, Tryd.ntmps5
  go_wp2_with fail
  refine (pairMade _ d F N M free (-1) HD.out hM0).mono ?_
  rintro e w1 ⟨rfl, hb1⟩
  go_wp2_with fail
  refine (frame_bs s 0 g 0 g rfl rfl none 0 0 [] _ (Bs.nil _) (HS.out.tab.below hb1) hsm (by omega) hg (by omega) fz HFZ).mono ?_
  rintro e w2 ⟨b2, rfl, _, _, _, hb2⟩
  have hb12 : Below w.heap.size w w2 := hb1.trans (hb2.mono hb1.size)
  clear hb1 hb2
  go_wp2_with fail
  refine (hDr _ (HD.out.below hb12)).mono ?_
  rintro e w3 ⟨rfl, hb3⟩
  have hb13 : Below w.heap.size w w3 := hb12.trans (hb3.mono hb12.size)
  clear hb12 hb3
  go_wp2_with fail
  refine (hHv _).mono ?_
  rintro e w4 ⟨rfl, hb4⟩
  have hb14 : Below w.heap.size w w4 := hb13.trans (hb4.mono hb13.size)
  have HD4 := hidn (HD.out.below hb14)
  have HG4 := hidn (Gr.of (Keeps.of_below (F := F) hb14))
  clear hb13 hb4 hb14 hHv hDr h hS
  obtain ⟨fa, hfa⟩ : ∃ fa, fa = fileA s := ⟨_, rfl⟩
  obtain ⟨fb, hfb⟩ : ∃ fb, fb = fileB s := ⟨_, rfl⟩
  rw [← hfa] at HNE HA HnA
  rw [← hfb] at HNE HB HnB
  rw [← hfa, ← hfb]
  have HFA := hidn hfa
  have HFB := hidn hfb
  clear hfa hfb
  have hi0 : ∀ wx : World, (Instr.index 51 (.agg #[.string fa, .string fb]) (.int .i64 0)).run Tryd.prog wx = .ok (.string fa) wx := fun wx => by kernel_rfl
  have hi1 : ∀ wx : World, (Instr.index 51 (.agg #[.string fa, .string fb]) (.int .i64 1)).run Tryd.prog wx = .ok (.string fb) wx := fun wx => by kernel_rfl
  go_wp2_with fail
  go_loopw [35] (fun iv wr => ∃ (k : Nat) (F' : Nat → Prop), k ≤ 2 ∧ iv = .int .i64 k ∧ Hid (Gr F F' w wr) ∧ ((k = 0 ∧ Hid (DiskOf wr d F' N M free (-1))) ∨ (k = 1 ∧ Hid (DiskOf wr d F' (N + E) (upd M fa.data.toList ((fileL fa g zs E).map Ext.synced)) (free - E) (-1))) ∨
      (k = 2 ∧ Hid (DiskOf wr d F' (N + E + E) (upd (upd M fa.data.toList ((fileL fa g zs E).map Ext.synced)) fb.data.toList ((fileL fb g zs E).map Ext.synced)) (free - E - E) (-1))))) (fun iv _ => 2 - (intOf iv).toNat)
  case atStart => exact ⟨0, F, by omega, rfl, HG4, Or.inl ⟨rfl, HD4⟩⟩
  case round =>
    obtain ⟨k, F', hk, rfl, HGk, (⟨rfl, HDk⟩ | ⟨rfl, HDk⟩ | ⟨rfl, HDk⟩)⟩ := hrel
    · go_wp2_with fail
      refine (storeHalf_new _ d F' N M free HDk.out (HS.out.gr HGk.out) fa HnA.out HA.out g hg a len cap zs (HBz.out.gr HGk.out) hcap hlen E HE (by omega) (by omega) hfr2).mono ?_
      rintro e w6 ⟨rfl, F6, hD6, hG6⟩
      have HD6 := hidn hD6
      have HG6 := hidn (HGk.out.trans hG6)
      clear hD6 hG6
      go_wp2
      go_roundw
      case rel => exact ⟨1, F6, by omega, by first | rfl | go_num | simp, HG6, Or.inr (Or.inl ⟨rfl, HD6⟩)⟩
      case measure => simp [intOf]
    · go_wp2_with fail
      refine (storeHalf_new _ d F' (N + E) _ (free - E) HDk.out (HS.out.gr HGk.out) fb HnB.out (by rw [upd_other _ _ _ _ HNE.out]; exact HB.out) g hg a len cap zs (HBz.out.gr HGk.out) hcap hlen E HE (by omega) (by omega) (by omega)).mono ?_
      rintro e w6 ⟨rfl, F6, hD6, hG6⟩
      have HD6 := hidn hD6
      have HG6 := hidn (HGk.out.trans hG6)
      clear hD6 hG6
      go_wp2
      go_roundw
      case rel => exact ⟨2, F6, by omega, by first | rfl | go_num | simp, HG6, Or.inr (Or.inr ⟨rfl, HD6⟩)⟩
      case measure => simp [intOf]
    · go_wp2
      go_ret
      have h1 := HDk.out
      rw [HFA.out, HFB.out] at h1
      exact ⟨rfl, F', h1, HGk.out⟩

end Go.Proofs.YtdigblglehchbaaDoor
