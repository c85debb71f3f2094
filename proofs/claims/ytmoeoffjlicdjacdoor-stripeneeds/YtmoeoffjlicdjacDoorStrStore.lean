/- Stripes: what one file has of a text is stored. -/
import Derived.Test.YtmoeoffjlicdjacDoorStrWrite
namespace Go.Proofs.YtmoeoffjlicdjacDoor
open Go.RowKit Go.Maps
set_option linter.unusedVariables false

/-- What a file's extent has of a text. -/
def payS (zs : List Nat) (f i : Nat) : List Nat := if f < 3 then partS zs f i else accS zs i 3
theorem payS_ok {zs : List Nat} (h : ∀ x ∈ zs, x < 256) (f i : Nat) : (payS zs f i).length ≤ 106 ∧ ∀ x ∈ payS zs f i, x < 256 := by
  unfold payS
  split
  · exact ⟨Nat.le_trans (partS_le zs f i) (by omega), partS_mem h f i⟩
  · exact ⟨Nat.le_of_eq (accS_ok h i 3).1, (accS_ok h i 3).2⟩
theorem slotOf_any (w : World) (a : Option Addr) (len cap : Nat) (zs : List Nat) (hB : Bs w a len zs) (hcap : len ≤ cap) (hlen : len ≤ 100000) (f i : Nat) (hf : f < 4) (hi : i ≤ 1000000) (L : List Nat) (HL : Hid (L = slotF zs f i)) :
    Calls Tryd.prog 61 #[.slice a len cap, .int .i64 f, .int .i64 i] w fun e w' => e = .returned (.agg (vb L).toArray) ∧ Below w.heap.size w w' := by
  by_cases h3 : f < 3
  · exact slotOf_data w a len cap zs hB hcap hlen f i h3 hi L (hidn (by rw [HL.out]; unfold slotF; rw [if_pos h3]))
  · obtain rfl : f = 3 := by omega
    exact slotOf_par w a len cap zs hB hcap hlen i hi L (hidn (by rw [HL.out]; unfold slotF; rw [if_neg (by omega)]))
theorem payload_any (w : World) (zs L : List Nat) (f i : Nat) (hf : f < 4) (HL : Hid (L = slotF zs f i)) (hz : ∀ x ∈ zs, x < 256) :
    Calls Tryd.prog 48 #[.agg (vb L).toArray, .int .i64 f] w fun e w' => ∃ b o m c, e = .returned (.tuple #[.slice (some ⟨b, o, none⟩) m c, .bool true]) ∧ m ≤ 106 ∧ w.heap.size ≤ b ∧ Bs w' (some ⟨b, o, none⟩) m (payS zs f i) ∧ Below w.heap.size w w' := by
  by_cases h3 : f < 3
  · have e : payS zs f i = partS zs f i := by unfold payS; rw [if_pos h3]
    rw [e]
    have h := payload_part w (partS zs f i) L f (partS zs f i).length h3 (hidn (by rw [HL.out]; unfold slotF; rw [if_pos h3])) rfl (partS_le zs f i) (partS_mem hz f i)
    exact h.mono fun e w' hh => by
      obtain ⟨b, h1, h2, h3, h4⟩ := hh
      exact ⟨b, 1, _, 105, h1, Nat.le_trans (partS_le zs f i) (by omega), h2, h3, h4⟩
  · obtain rfl : f = 3 := by omega
    have e : payS zs 3 i = accS zs i 3 := by unfold payS; rw [if_neg (by omega)]
    rw [e]
    have eL : L = accS zs i 3 := by rw [HL.out]; unfold slotF; rw [if_neg (by omega)]
    rw [eL]
    exact (payload_par w (accS zs i 3) (accS_ok hz i 3).1 (accS_ok hz i 3).2).mono fun e w' hh => by
      obtain ⟨b, h1, h2, h3, h4⟩ := hh
      exact ⟨b, 0, 106, 106, h1, by omega, h2, h3, h4⟩

def fileS (fn : ByteArray) (g : Nat) (zs : List Nat) (f k : Nat) : List Ext := (List.range k).map fun j => zeroE.wrote (frameB (nums fn) j g (payS zs f j))
theorem fileS_length (s : ByteArray) (g : Nat) (zs : List Nat) (f k : Nat) : (fileS s g zs f k).length = k := by simp [fileS]
theorem fileS_succ (s : ByteArray) (g : Nat) (zs : List Nat) (f k : Nat) : fileS s g zs f (k + 1) = fileS s g zs f k ++ [zeroE.wrote (frameB (nums s) k g (payS zs f k))] := by simp [fileS, List.range_succ]

set_option maxHeartbeats 2000000 in
theorem sstore_new (w : World) (d g : Nat) (F : Nat → Prop) (N : Nat) (M : List UInt8 → List Ext) (free : Int) (h : DiskOf w d F N M free (-1)) (hS : Sound5 w F) (sb f : Nat) (f0 f1 f2 f3 fn : ByteArray) (hA : StripeAt w sb d f0 f1 f2 f3 g) (hsb : ¬ F sb) (hf : f < 4) (HFN : Hid (fn = nameF f0 f1 f2 f3 f)) (hs : nameB fn.data.toList = true) (hM : M fn.data.toList = []) (hg : g ≤ 4611686018427387904)
    (a : Option Addr) (len cap : Nat) (zs : List Nat) (hB : BsF F w a len zs) (hcap : len ≤ cap) (hlen : len ≤ 100000) (E : Nat) (HE : Hid (E = grpB len)) (hN : N + E < maxLen) (hfr : (E : Int) ≤ free) (hfr2 : free ≤ 1000000) :
    Calls Tryd.prog 44 #[.pointer (some ⟨sb, 0, none⟩), .int .i64 f, .slice a len cap] w fun e w' => e = .returned (.int .i64 0) ∧ ∃ F', DiskOf w' d F' (N + E) (upd M fn.data.toList ((fileS fn g zs f E).map Ext.synced)) (free - E) (-1) ∧ Gr F F' w w' := by
  have hsm : fn.size ≤ maxLen := by have := (name_size hs).2; unfold maxLen; omega
  have hE1 : 1 ≤ E ∧ E ≤ 400 := by
    rw [HE.out]; unfold grpB
    split <;> omega
  have HSM := hidn hsm
  have HSN := hidn hs
  have HM := hidn hM
  have HD := hidn h
  have HSS := hidn hS
  have HB := hidn hB
  have HE1 := hidn hE1
  have HA := hidn hA
  have HF := hidn hf
  have HLT := hidn hA.lt
  have HIX := hidn (fun wx => file_index sb f hf wx)
  have HNAME : Hid (∀ wx : World, StripeAt wx sb d f0 f1 f2 f3 g → wx.cell? ⟨sb, 1 + f, none⟩ = some (.string fn)) := hidn (fun wx hx => by rw [HFN.out]; exact hx.name f hf)
  have hEx := groups_any w (len : Int) (by omega)
  rw [Int.toNat_natCast, ← HE.out] at hEx
  clear hs hM h hS hB hE1 hA hf hsm
  go_enter Tryd.func44, Tryd.ntmps44
  go_wp2_with fail
  refine hEx.mono ?_
  rintro e w0 ⟨rfl, rfl⟩
  clear hEx
  go_wp2_with fail
  go_loopw [14] (fun iv wr => ∃ k : Nat, k ≤ E ∧ iv = .int .i64 k ∧ ∃ F', Hid (DiskOf wr d F' (N + k) (upd M fn.data.toList (fileS fn g zs f k)) (free - k) (-1)) ∧ Hid (Gr F F' w0 wr)) (fun iv _ => E - (intOf iv).toNat)
  case atStart =>
    refine ⟨0, Nat.zero_le _, rfl, F, ?_, hidn (Gr.refl _ _)⟩
    rw [show fileS fn g zs f 0 = [] from rfl, upd_self M _ _ HM.out, Nat.add_zero, show free - ((0 : Nat) : Int) = free by omega]
    exact HD
  case round =>
    obtain ⟨k, hk, rfl, F', HK, HGK⟩ := hrel
    by_cases hlt : k < E
    · have hlt' : decide (k < E) = true := by simpa using hlt
      have hBk := HB.out.gr HGK.out
      obtain ⟨L, hL⟩ : ∃ L, L = slotF zs f k := ⟨_, rfl⟩
      have HL := hidn hL
      obtain ⟨pp, hpp⟩ : ∃ pp, pp = payS zs f k := ⟨_, rfl⟩
      have HPP := hidn hpp
      obtain ⟨fz, hfz⟩ : ∃ fz, fz = frameB (nums fn) k g pp := ⟨_, rfl⟩
      have HFZ := hidn hfz
      have HKL := hidn hlt
      have HZ : Hid (∀ x ∈ zs, x < 256) := hidn hBk.1.2.2.1
      have HBK := hidn hBk
      clear hL hpp hfz hlt hBk
      go_wp2_with fail
      refine (slotOf_any _ a len cap zs HBK.out.1 hcap hlen f k HF.out (by have := HE1.out; have := HKL.out; omega) L HL).mono ?_
      rintro e w2 ⟨rfl, hb2⟩
      go_wp2_with fail
      refine (payload_any _ zs L f k HF.out HL HZ.out).mono ?_
      rintro e w3 ⟨b3, o3, m3, c3, rfl, hm3, hbb3, hB3, hb3⟩
      have hb13 : Below wr.heap.size wr w3 := hb2.trans (hb3.mono hb2.size)
      rw [← HPP.out] at hB3
      have HB3 := hidn hB3
      have HM3 := hidn hm3
      have HB13 := hidn hb13
      have HD3 := hidn (HK.out.below hb13)
      have HG3 := hidn (HGK.out.trans (Gr.of (Keeps.of_below (F := F') hb13)))
      clear hB3 hm3 hbb3 hb2 hb3 hb13
      go_wp2_with fail
      have hA3 := HA.out.gr HG3.out hsb
      have hS3 := HSS.out.gr HG3.out
      have hn3 := HG3.out.not HLT.out hsb
      have hfr' : (1 : Int) ≤ free - k := by have := HKL.out; omega
      refine (stripeWrite_new _ d g F' (N + k) _ (free - k) (-1) HD3.out hS3 sb f f0 f1 f2 f3 fn hA3 hn3 HF.out HFN HSN.out k (k * 385) (hidn (by rw [upd_same, fileS_length])) rfl _ m3 c3 pp fz HB3.out HM3.out hg HFZ (by omega) (by omega) (by omega) (by have := HE1.out; have := HKL.out; omega) (by have := HKL.out; omega) hfr' (by omega)).mono ?_
      rw [upd_upd, upd_same, burnt_none, HFZ.out, HPP.out, ← fileS_succ]
      rintro e w5 ⟨rfl, F5, hD5, hG5⟩
      have HD5 := hidn hD5
      have HG5 := hidn (HG3.out.trans hG5)
      clear hD5 hG5 hA3 hS3 hn3 hfr'
      go_wp2
      go_roundw
      case rel =>
        refine ⟨k + 1, HKL.out, by go_num, F5, ?_, HG5⟩
        have := HD5.out
        rw [show free - (k : Int) - 1 = free - ((k + 1 : Nat) : Int) by omega] at this
        exact this
      case measure => simp [intOf]; have := HKL.out; omega
    · obtain rfl : k = E := by omega
      have hlt' : decide (k < k) = false := by simp
      have HNE : Hid (upd M fn.data.toList (fileS fn g zs f k) fn.data.toList ≠ []) := hidn (by rw [upd_same]; intro e; have := fileS_length fn g zs f k; rw [e] at this; have := HE1.out.1; simp at *; omega)
      have HAK := hidn (HA.out.gr HGK.out hsb)
      go_wp2_with fail
      have hbd : Below wr.heap.size wr wr.drew := (Below.refl _ _).drew
      have hA6 := HAK.out.below hbd
      have hD6 := HK.out.below hbd
      have hG6 := HGK.out.trans (Gr.of (Keeps.of_below (F := F') hbd))
      obtain ⟨w6, hw6⟩ : ∃ w6, w6 = wr.drew := ⟨_, rfl⟩
      rw [← hw6] at hbd hA6 hD6 hG6
      have HW6 := hidn hw6
      have HC6 := hidn (And.intro (HNAME.out _ hA6) hA6.disk)
      have HN6 := hidn (HGK.out.not HLT.out hsb)
      clear hw6
      refine wp_region_noPanic ?_
      refine wp_region_held_drew (S := fun w' => w'.cell? ⟨sb, 1 + f, none⟩ = some (.string fn) ∧ w'.cell? ⟨sb, 0, none⟩ = some (.pointer (some ⟨d, 0, none⟩))) (by kernel_rfl) (HW6.out ▸ HC6.out) (fun hHeld => ?_)
      rw [← HW6.out]
      rw [← HW6.out] at hHeld
      refine drawn_take (i := 0) (v := .pointer (some ⟨sb, 0, none⟩)) (some 35) rfl rfl (by kernel_rfl) (by kernel_rfl) (by kernel_rfl) (fun _ _ _ h => h) (Or.inl ⟨by kernel_rfl, fun wq hw => by go_simp⟩) hHeld ?_
      simp only [Act.put, List.setIfInBounds_toArray, List.set_cons_succ, List.set_cons_zero]
      refine drawn_take (i := 1) (v := .pointer (some ⟨sb, 0, none⟩)) (some 36) rfl rfl (by kernel_rfl) (by kernel_rfl) (by kernel_rfl) (fun _ _ _ h => h) (Or.inl ⟨by kernel_rfl, fun wq hw => by go_simp⟩) hHeld ?_
      simp only [Act.put, List.setIfInBounds_toArray, List.set_cons_succ, List.set_cons_zero]
      refine drawn_take (i := 2) (v := .pointer (some ⟨sb, 0, none⟩)) (some 37) rfl rfl (by kernel_rfl) (by kernel_rfl) (by kernel_rfl) (fun _ _ _ h => h) (Or.inl ⟨by kernel_rfl, fun wq hw => by go_simp⟩) hHeld ?_
      simp only [Act.put, List.setIfInBounds_toArray, List.set_cons_succ, List.set_cons_zero]
      refine drawn_take (i := 3) (v := .pointer (some ⟨d, 0, none⟩)) (some 38) rfl rfl (by kernel_rfl) (by kernel_rfl) (by kernel_rfl) (fun _ _ _ h => h) (Or.inl ⟨by kernel_rfl, fun wq hw => load_run (x := .tmp 37) (vx := .pointer (some ⟨sb, 0, none⟩)) (by kernel_rfl) (by kernel_rfl) (load_ptr hw.2)⟩) hHeld ?_
      refine drawn_take (i := 4) (v := .pointer (some ⟨sb, 0, none⟩)) (some 39) rfl rfl (by kernel_rfl) (by kernel_rfl) (by kernel_rfl) (fun _ _ _ h => h) (Or.inl ⟨by kernel_rfl, fun wq hw => by go_simp⟩) hHeld ?_
      refine drawn_take (i := 5) (v := .int .i64 (f : Int)) (some 40) rfl rfl (by kernel_rfl) (by kernel_rfl) (by kernel_rfl) (fun _ _ _ h => h) (Or.inl ⟨by kernel_rfl, fun wq hw => by go_simp⟩) hHeld ?_
      simp only [Act.put, List.setIfInBounds_toArray, List.set_cons_succ, List.set_cons_zero]
      refine drawn_take (i := 6) (v := .pointer (some ⟨sb, 0, none⟩)) (some 41) rfl rfl (by kernel_rfl) (by kernel_rfl) (by kernel_rfl) (fun _ _ _ h => h) (Or.inl ⟨by kernel_rfl, fun wq hw => by go_simp⟩) hHeld ?_
      simp only [Act.put, List.setIfInBounds_toArray, List.set_cons_succ, List.set_cons_zero]
      refine drawn_take (i := 7) (v := .pointer (some ⟨sb, 1, none⟩)) (some 42) rfl rfl (by kernel_rfl) (by kernel_rfl) (by kernel_rfl) (fun _ _ _ h => h) (Or.inl ⟨by kernel_rfl, fun wq hw => by go_simp⟩) hHeld ?_
      simp only [Act.put, List.setIfInBounds_toArray, List.set_cons_succ, List.set_cons_zero]
      refine drawn_take (i := 8) (v := .pointer (some ⟨sb, 1 + f, none⟩)) (some 43) rfl rfl (by kernel_rfl) (by kernel_rfl) (by kernel_rfl) (fun _ _ _ h => h) (Or.inl ⟨by kernel_rfl, fun wq hw => idx_run (x := .tmp 42) (y := .tmp 40) (vx := .pointer (some ⟨sb, 1, none⟩)) (vy := .int .i64 (f : Int)) (by kernel_rfl) (by kernel_rfl) (by kernel_rfl) (HIX.out wq)⟩) hHeld ?_
      simp only [Act.put, List.setIfInBounds_toArray, List.set_cons_succ, List.set_cons_zero]
      refine drawn_take (i := 9) (v := .string fn) (some 44) rfl rfl (by kernel_rfl) (by kernel_rfl) (by kernel_rfl) (fun _ _ _ h => h) (Or.inl ⟨by kernel_rfl, fun wq hw => load_run (x := .tmp 43) (vx := .pointer (some ⟨sb, 1 + f, none⟩)) (by kernel_rfl) (by kernel_rfl) (load_str hw.1)⟩) hHeld ?_
      simp only [Act.put, List.setIfInBounds_toArray, List.set_cons_succ, List.set_cons_zero]

      refine wpAnyH_ready (rs := [10]) (by kernel_rfl) (by simp) ?_
      refine rdy_call (i := 10) rfl rfl (some 45) rfl 38 #[.pointer (some ⟨d, 0, none⟩), .string fn] (sync_call_run (x := 38) (y := 44) (by kernel_rfl) (by kernel_rfl) (by kernel_rfl)) (fun v w' => v = .int .i64 0 ∧ DiskOf w' d F' (N + k) (upd M fn.data.toList ((fileS fn g zs f k).map Ext.synced)) (free - k) (-1) ∧ Gr F' F' w6 w') ((sync_disk _ d F' _ _ _ (-1) hD6 fn HSM.out HNE.out (by omega) (by omega) (by omega)).mono fun e w' hh => ⟨_, hh.1, rfl, by have := hh.2.1; rwa [upd_upd, upd_same, burnt_none] at this, hh.2.2⟩) (fun v w7 hR => ?_) rdy_nil
      obtain ⟨rfl, hD7, hG7⟩ := hR
      have hA7 := hA6.gr hG7 HN6.out
      refine ⟨⟨HNAME.out _ hA7, hA7.disk⟩, fun hHeld => ?_⟩
      simp only [Act.put, List.setIfInBounds_toArray, List.set_cons_succ, List.set_cons_zero]
      refine drawn_take (i := 11) (v := .int .i64 0) (some 6) rfl rfl (by kernel_rfl) (by kernel_rfl) (by kernel_rfl) (fun _ _ _ h => h) (Or.inl ⟨by kernel_rfl, fun wq hw => by go_simp⟩) hHeld ?_
      simp only [Act.put, List.setIfInBounds_toArray, List.set_cons_succ, List.set_cons_zero]
      refine wpAnyH_done (by kernel_rfl) ?_ _
      refine NoPanic.normal ?_
      have HD7 := hidn hD7
      have HG7 := hidn (hG6.trans hG7)
      clear hHeld hA7 hD7 hG7 hA6 hD6 hG6
      go_wp2
      go_ret
      exact ⟨rfl, F', HD7.out, HG7.out⟩
end Go.Proofs.YtmoeoffjlicdjacDoor
