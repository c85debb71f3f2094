/- DiskRoom: the law's walk. -/
import Derived.Test.YtpiohhljcjobfaaTwF
namespace Go.Proofs.Ytpiohhljcjobfaa
open Go.RowKit Go.Maps
set_option linter.unusedVariables false

theorem mod60 (r : Int) : ∃ n : Nat, n < 60 ∧ wrap64 ((IntKind.u64.wrap r).tmod 60) = (n : Int) := by
  have h1 : 0 ≤ IntKind.u64.wrap r := by
    unfold IntKind.wrap
    simp only [IntKind.signed, Bool.false_and, Bool.false_eq_true, if_false]
    exact Int.emod_nonneg _ (by simp [IntKind.bits])
  have h2 : 0 ≤ (IntKind.u64.wrap r).tmod 60 := Int.tmod_nonneg _ h1
  have h3 : (IntKind.u64.wrap r).tmod 60 < 60 := Int.tmod_lt_of_pos _ (by omega)
  generalize (IntKind.u64.wrap r).tmod 60 = x at *
  refine ⟨x.toNat, by omega, ?_⟩
  unfold wrap64
  omega

/-- What the first files hold together. -/
def sumTo (V : Vw) (k : Nat) : Nat := sumV (V.take k)

theorem sumTo_next {V : Vw} {k : Nat} {p : ByteArray × List Ext} (h : V[k]? = some p) : sumTo V (k + 1) = sumTo V k + p.2.length := by
  unfold sumTo
  rw [List.take_add_one, h, sumV_app]
  simp [sumV]

theorem sumTo_le (V : Vw) (k : Nat) : sumTo V k ≤ sumV V := by
  unfold sumTo
  have := sumV_app (V.take k) (V.drop k)
  rw [List.take_append_drop] at this
  omega

/-- The name ahead of the k-th. -/
def lastN (V : Vw) (k : Nat) : ByteArray := match k with
  | 0 => ⟨#[]⟩
  | j + 1 => ((V[j]?).map Prod.fst).getD ⟨#[]⟩

theorem lastN_lt {V : Vw} {room : Int} {st : St} (h : RelV V room st) {k : Nat} {p : ByteArray × List Ext} (hp : V[k]? = some p) : (lastN V k).data.toList < p.1.data.toList := by
  cases k with
  | zero =>
    have h1 := nameB_size (h.name p (List.mem_of_getElem? hp))
    have h2 : p.1.data.toList.length = p.1.size := Array.length_toList
    show ([] : List UInt8) < _
    cases hl : p.1.data.toList with
    | nil => rw [hl] at h2; simp at h2; omega
    | cons a t => exact List.nil_lt_cons _ _
  | succ j =>
    have hlt := (List.getElem?_eq_some_iff.1 hp).1
    have hj : V[j]? = some V[j] := List.getElem?_eq_getElem (by omega)
    have h1 := List.pairwise_iff_getElem.1 h.rise j (j + 1) (by omega) hlt (by omega)
    rw [(List.getElem?_eq_some_iff.1 hp).2] at h1
    show (((V[j]?).map Prod.fst).getD ⟨#[]⟩).data.toList < _
    rw [hj]
    exact h1

set_option maxHeartbeats 8000000 in
set_option maxRecDepth 100000 in
theorem diskRoom_walk (r : Int) (la : Option Addr) (ll lc : Nat) (sts : List StK) (w : World) (hM : StsK w la ll sts) :
    Calls Try.prog 6 #[.int .i64 r, .slice la ll lc] w fun e w' => e = .returned (.bool true) ∧ Below w.heap.size w w' := by
  have hpn := fun (wx : World) (p : Option Addr) => run_eql_pointer_nil (P := Try.prog) wx 23 p (by kernel_rfl)
  have HM := hidn hM
  clear hM
  obtain ⟨room, hr60, hrm⟩ := mod60 r
  go_enter Try.func6, Try.ntmps6
  go_wp2_with fail
  refine (disks_any _ room (by omega) la ll lc sts HM.out).mono ?_
  rintro e w1 ⟨d, y, rfl, st, hT⟩
  have HT := hidn hT
  rw [hrm]
  clear hT hrm
  go_wp2_with fail
  obtain ⟨hW, Fd, Fy, hD, ⟨fa, fc, R, hY, hV⟩, hFd, hFy, hX⟩ := HT.out
  obtain ⟨M, free, fuse⟩ := st
  have hfree : free = (room : Int) - (sumV (viewY R) : Int) := hV.free
  have hf0 : 0 ≤ free := hV.free0
  have HD := hidn (show DiskOf w1 d Fd 40 M free fuse from hD)
  have HY := hidn hY
  have HV := hidn hV
  have HRL := hidn hV.short
  have HF := hidn (show ∀ k, Fy k → k < w1.heap.size from fun k hk => (hFy k hk).2)
  have HW := hidn hW
  have HFR := hidn hfree
  have HF0 := hidn hf0
  clear hD hY hV hFd hFy hX hW hfree HT hf0
  refine (freeP_any _ d Fd 40 M free fuse HD.out).mono ?_
  rintro e w2 ⟨rfl, rfl⟩
  go_wp2_with fail
  refine (list_disk _ d Fd 40 M free fuse HD.out (by omega)).mono ?_
  rintro e w2 ⟨v2, ts, rfl, hnm, hrow, hb2⟩
  obtain ⟨hl2, hs2⟩ := names_ss HV.out hnm
  obtain ⟨n, hn⟩ : ∃ n, n = R.length := ⟨_, rfl⟩
  rw [hl2, ← hn, hs2] at hrow
  have hn6 : n ≤ 1000000 := by have := HRL.out.1; omega
  obtain ⟨la2, lc2, rfl⟩ := own_slY hrow
  have HR := hidn hrow
  have HB2 := hidn hb2
  have HNn := hidn hn
  have HD2 := hidn (HD.out.below hb2)
  have HY2 := hidn (HY.out.below HF.out hb2)
  have HF2 := hidn (show ∀ k, Fy k → k < w2.heap.size from fun k hk => Nat.lt_of_lt_of_le (HF.out k hk) hb2.size)
  clear hl2 hs2 hrow hb2 hnm hn
  go_wp2_with fail
  go_loopw [8, 9, 34] (fun nv lv iv wr => ∃ k z : Nat, ∃ s : ByteArray, k ≤ n ∧ iv = .int .i64 (k : Int) ∧ nv = .int .i64 (z : Int) ∧ lv = .string s ∧ Hid ((z : Int) = free + (sumTo (viewY R) k : Int)) ∧ Hid (s = lastN (viewY R) k) ∧ Hid (Below w2.heap.size w2 wr)) (fun nv lv iv _ => n - (intOf iv).toNat)
  case atStart => exact ⟨0, free.toNat, ⟨#[]⟩, Nat.zero_le _, rfl, by rw [Int.toNat_of_nonneg HF0.out], rfl, hidn (by rw [Int.toNat_of_nonneg HF0.out]; show free = free + ((0 : Nat) : Int); omega), hidn rfl, hidn (Below.refl _ _)⟩
  case round =>
    obtain ⟨k, z, s, hk, rfl, rfl, rfl, HZ, HS, HBr⟩ := hrel
    by_cases hlt : k < n
    · have hlt2 : (k : Int) < (n : Int) := by omega
      obtain ⟨f, hf⟩ : ∃ f, R[k]? = some f := ⟨_, List.getElem?_eq_getElem (by rw [← HNn.out]; exact hlt)⟩
      obtain ⟨ga, rfl, hga, hca⟩ := own_at HR.out (by omega)
      have c0 : wr.cell? ⟨ga, k, none⟩ = some (.string f.name) := (HBr.out.cell (p := ⟨ga, k, none⟩) hga).trans (hca k _ (by rw [List.getElem?_map, List.getElem?_map, hf]; rfl))
      have hp := place_rise HV.out hf
      obtain ⟨_, hMf⟩ := place_view HV.out hp hf
      have hlen : f.l.length ≤ 100000 := sumL_at hf HRL.out.2
      have hne : 0 < f.l.length := List.length_pos_iff.2 (ry_ok HY2.out hf)
      have hns : f.name.size ≤ 24 := (HY2.out.ok f (List.mem_of_getElem? hf)).1
      have hls := lastN_lt HV.out (view_at hf)
      have hsn := sumTo_next (view_at hf)
      have hsl := sumTo_le (viewY R) (k + 1)
      obtain ⟨nm, hnm⟩ : ∃ nm, nm = f.name := ⟨_, rfl⟩
      obtain ⟨x, hx⟩ : ∃ x, x = f.l.length := ⟨_, rfl⟩
      rw [← hnm] at c0 hp hMf hns hls
      rw [← hx] at hlen hne
      have hxM : Hid (x = (M nm.data.toList).length) := hidn (by rw [hx]; show f.l.length = ((⟨M, free, fuse⟩ : St).M nm.data.toList).length; rw [hMf, List.length_map])
      have hxY : Hid (x = (extY R nm).length) := hidn (by rw [hx, extY_at hp hf])
      have hnz : nm.size ≤ maxLen := by unfold maxLen; omega
      have HSM := HRL.out.2
      rw [← sum_view] at HSM
      have hzz : (z : Int) = free + (sumTo (viewY R) k : Int) := HZ.out
      have hf1 : free ≤ 60 := by have := HFR.out; omega
      have hsn2 : sumTo (viewY R) (k + 1) = sumTo (viewY R) k + x := by rw [hsn, hx]; simp
      have hz6 : z + x ≤ 1000000 := by omega
      have HZ2 : Hid (((z + x : Nat) : Int) = free + (sumTo (viewY R) (k + 1) : Int)) := hidn (by rw [hsn2]; omega)
      have HS2 : Hid (nm = lastN (viewY R) (k + 1)) := hidn (by
        show nm = (((viewY R)[k]?).map Prod.fst).getD ⟨#[]⟩
        rw [view_at hf, hnm]; rfl)
      have hle : Op.bytesLess s.toList nm.toList = true := by rw [Go.Proofs.bytesLess_eq, ByteArray.toList_eq, ByteArray.toList_eq, HS.out]; exact decide_eq_true hls
      have hle2 : Op.bytesLess nm.toList s.toList = false := by
        rw [Go.Proofs.bytesLess_eq, ByteArray.toList_eq, ByteArray.toList_eq, HS.out]
        exact decide_eq_false (List.lt_asymm hls)
      have hle3 : (nm.toList == s.toList) = false := by
        rw [ByteArray.toList_eq, ByteArray.toList_eq, HS.out]
        refine beq_eq_false_iff_ne.2 fun e => ?_
        rw [e] at hls
        exact List.lt_irrefl _ hls
      have hx1 : decide ((x : Int) < 1) = false := by simp; omega
      have hx2 : ¬ ((x : Int) < 1) := by omega
      have hadd : IntKind.i64.wrap ((z : Int) + (x : Int)) = ((z + x : Nat) : Int) := by rw [IntKind.wrap_i64]; omega
      obtain ⟨zx, hzx⟩ : ∃ zx, zx = z + x := ⟨_, rfl⟩
      rw [← hzx] at HZ2 hadd
      clear hca hf hp hMf hns hls hsn hsl hnm hx HSM hzz hf1 hsn2 hz6 hzx hne hlen HZ HS
      go_wp2_with fail
      refine (extents_disk _ d Fd 40 M free fuse (HD2.out.below HBr.out) nm hnz x hxM).mono ?_
      rintro e w3 ⟨rfl, rfl⟩
      clear c0
      go_wp2_with fail
      refine (extents_disk _ d Fd 40 M free fuse (HD2.out.below HBr.out) nm hnz x hxM).mono ?_
      rintro e w3 ⟨rfl, rfl⟩
      go_wp2_with fail
      refine (extentsY_any _ y Fy fa fc R room fuse (HY2.out.below HF2.out HBr.out) (fun k hk => Nat.lt_of_lt_of_le (HF2.out k hk) HBr.out.size) nm HRL.out.1 x hxY).mono ?_
      rintro e w4 ⟨rfl, hb4⟩
      have HB4 := hidn (HBr.out.trans (hb4.mono HBr.out.size))
      clear hb4
      go_wp2_with fail
      refine (extents_disk _ d Fd 40 M free fuse (HD2.out.below HB4.out) nm hnz x hxM).mono ?_
      rintro e w5 ⟨rfl, rfl⟩
      go_wp2
      go_roundw
      case rel => exact ⟨k + 1, zx, nm, hlt, by simp, rfl, rfl, HZ2, HS2, HB4⟩
      case measure => simp [intOf]; omega
    · have hlt2 : ¬ (k : Int) < (n : Int) := by omega
      have hzr : z = room := by
        have h1 := HZ.out
        have h2 : sumTo (viewY R) k = sumV (viewY R) := by unfold sumTo; rw [List.take_of_length_le (by rw [view_length, ← HNn.out]; omega)]
        rw [h2] at h1
        have := HFR.out
        omega
      subst hzr
      have hfd : (0 : Int) ≤ free := HF0.out
      clear HZ HS
      go_wp2_with fail
      refine (freeP_any _ d Fd 40 M free fuse (HD2.out.below HBr.out)).mono ?_
      rintro e w3 ⟨rfl, rfl⟩
      go_wp2_with fail
      refine (awake3_any _).mono ?_
      rintro e w4 ⟨rfl, hb4⟩
      have HB4 := hidn (HW.out.trans ((HB2.out.trans ((HBr.out.trans (hb4.mono HBr.out.size)).mono HB2.out.size)).mono HW.out.size))
      clear hb4
      go_wp2
      go_ret
      exact ⟨rfl, HB4.out⟩
end Go.Proofs.Ytpiohhljcjobfaa
