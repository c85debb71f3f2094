/- DiskReads: the law's walk. -/
import Derived.Test.YtpiohhljcjobfaaTwF
namespace Go.Proofs.Ytpiohhljcjobfaa
open Go.RowKit Go.Maps
set_option linter.unusedVariables false

set_option maxHeartbeats 1000000 in
/-- Read, with the row that it makes. -/
theorem diskRead_row (w : World) (d : Nat) (F : Nat → Prop) (N : Nat) (M : List UInt8 → List Ext) (free fuse : Int) (h : DiskOf w d F N M free fuse) (s : ByteArray) (hs : s.size ≤ maxLen) (i n o : Nat) (HN : Hid (n = (M s.data.toList).length)) (hi : i < n) (ho : i * 385 = o) (im : List Nat) (x : Ext) (HX : Hid ((M s.data.toList)[i]? = some x)) (HM : Hid (im = x.rd)) :
    Calls Try.prog 13 #[.pointer (some ⟨d, 0, none⟩), .string s, .int .i64 i] w fun e w' => ∃ b, e = .returned (.tuple #[.slice (some ⟨b, 0, none⟩) 128 128, .int .i64 0]) ∧ w.heap.size ≤ b ∧ Bs w' (some ⟨b, 0, none⟩) 128 im ∧ Below w.heap.size w w' ∧ Row128 w' b := by
  obtain ⟨bm, D, G, C, hI⟩ := h.is
  have hpn := fun (wx : World) (p : Option Addr) => run_eql_pointer_nil (P := Try.prog) wx 71 p (by kernel_rfl)
  obtain ⟨hil, hxe⟩ := List.getElem?_eq_some_iff.1 HX.out
  obtain ⟨_, hrow, hok⟩ := hI.2.2.2.2.2.1 s.data.toList (fun e => by rw [e] at hil; simp at hil)
  obtain ⟨r1, r2, r3, r4⟩ := ext_read hrow hok i hil
  rw [hxe, ho] at r1 r2
  rw [hxe] at r3 r4
  rw [← HM.out] at r2 r3 r4
  have hsz := (zero_of_info Try.infoImage).2
  have hz := (zero_of_info Try.infoImage).1
  obtain ⟨c0, hc0⟩ : ∃ c0, c0 = List.replicate 128 0 := ⟨_, rfl⟩
  rw [← hc0] at hz
  have l0 : (vb c0).toArray.size = 128 := by rw [hc0]; rfl
  have lz : (vb im).toArray.size = 128 := by simp [length_vb, r3]
  have HSZ : Hid ((Try.prog.info? 74).map (·.size) = some (vb im).toArray.size) := hidn (by rw [hsz, lz])
  have HOLD : Hid ((vb c0).toArray.size = (vb im).toArray.size) := hidn (by rw [l0, lz])
  have HONE : Hid ((vb im).toArray.all (·.oneCell') = true) := hidn (by simpa using one_vb im)
  have HL : Hid (im.length = 128) := r3
  have HR2 : Hid _ := r2
  have HR1 : Hid (_ = _) := r1
  have HO : Hid (i * 385 = o) := ho
  clear l0 lz hsz hc0 hrow hok r1 r2 r3 hxe ho hil
  go_enter Try.func13, Try.ntmps13
  go_wp2_with fail
  refine (isMade_any _ d F N M free fuse h).mono ?_
  rintro e w1 ⟨rfl, rfl⟩
  go_wp2_with fail
  refine (at_some _ d F N M free fuse bm D G C hI s hs i n o HN hi HO.out).mono ?_
  rintro e w2 ⟨rfl, rfl⟩
  generalize G s.data.toList = g at *
  go_wp2_with fail
  refine (read_any _ g o x.waits im HL.out HR1.out HR2.out).mono ?_
  rintro e w3 ⟨rfl, hb3⟩
  go_wp2_with (refine wpList_store_row (by rfl) 74 _ _ (by rfl) w3.heap.size (vb im).toArray (by rfl) (by rfl) 74 (vb c0).toArray (heap_alloc_new _ _) HSZ.out HOLD.out HONE.out ?_)
  go_ret2
  refine ⟨w3.heap.size, rfl, hb3.size, ?_, below_setRow (hb3.alloc hb3.size _) hb3.size _, ⟨im, _, setRow_heap _ _ _ (vb im).toArray _ _ (heap_alloc_new w3 (.cells (vb c0).toArray 74)), HL.out, r4⟩⟩
  have := bs_of_block (setRow_heap _ _ _ (vb im).toArray _ _ (heap_alloc_new w3 (.cells (vb c0).toArray 74))) (by rw [HL.out]; decide) r4
  rw [HL.out] at this
  exact this

theorem Two.spoilt {W0 w w' : World} {d N y : Nat} {room : Int} {st : St} (h : Two W0 w d N y room st) (b : Nat) (hb : ∀ k, k < w.heap.size → k ≠ b → w'.heap[k]? = w.heap[k]?) (hs : w.heap.size ≤ w'.heap.size) (hos : w'.os = w.os ∧ w'.tape = w.tape ∧ w'.output = w.output) {W1 : World} (h1 : Two W0 W1 d N y room st) (hbl : Below W1.heap.size W1 w) (hnb : W1.heap.size ≤ b) : Two W0 w' d N y room st := by
  obtain ⟨h0, Fd, Fy, a1, a2, a3, a4, a5⟩ := h1
  have hs1 := hbl.size
  have hs0 := h0.size
  have hk : ∀ k, k < W1.heap.size → w'.heap[k]? = W1.heap[k]? := fun k hk => (hb k (by omega) (by omega)).trans (hbl.block k hk)
  refine ⟨h0.trans ⟨hos.1.trans hbl.os, hos.2.1.trans hbl.tape, hos.2.2.trans hbl.output, by omega, fun i hi => hk i (by omega)⟩, Fd, Fy, a1.other (fun k hk' => hk k (a3 k hk').2), a2.other (fun k hk' => hk k (a4 k hk').2), fun k hk' => ⟨(a3 k hk').1, by have := (a3 k hk').2; omega⟩, fun k hk' => ⟨(a4 k hk').1, by have := (a4 k hk').2; omega⟩, a5⟩

set_option maxHeartbeats 1000000 in
theorem bytesEqual_nil (w : World) (b : Option Addr) (ca cb : Nat) : Calls Try.prog 15 #[.slice none 0 0, .slice none 0 0] w fun e w' => e = .returned (.bool true) ∧ Below w.heap.size w w' :=
  bytesEqual_same w none none 0 0 0 [] (Bs.nil w) (Bs.nil w)

set_option maxHeartbeats 2000000 in
theorem spoil_nil (w : World) (g : Nat) (hg : w.heap[g]? = some (.cells #[.slice none 0 0] 31 (0, 0))) :
    Calls Try.prog 18 #[.slice (some ⟨g, 0, none⟩) 1 1] w fun e w' => e = .returned (.tuple #[]) ∧ Below w.heap.size w w' := by
  have c0 : w.cell? ⟨g, 0, none⟩ = some (.slice none 0 0) := by rw [cell_of_row _ _ _ _ _ _ hg]; rfl
  clear hg
  go_enter Try.func18, Try.ntmps18
  go_wp2
  go_loopw [7] (fun i wr => ∃ k : Nat, k ≤ 1 ∧ i = .int .i64 (k : Int) ∧ wr = w) (fun i _ => 1 - (intOf i).toNat)
  case atStart => exact ⟨0, by omega, rfl, rfl⟩
  case round =>
    obtain ⟨k, hk, rfl, rfl⟩ := hrel
    by_cases h0 : k = 0
    · subst h0
      have hlt : ((0 : Nat) : Int) < 1 := by omega
      clear hk
      go_wp2
      go_loopw [13] (fun i wx => i = .int .i64 0 ∧ wx = wr) (fun i _ => 0)
      case atStart => exact ⟨rfl, rfl⟩
      case round =>
        obtain ⟨rfl, rfl⟩ := hrel
        go_wp2
        go_roundw
        case rel => exact ⟨1, by omega, by simp, trivial⟩
        case measure => simp [intOf]
    · have hk1 : k = 1 := by omega
      subst hk1
      have hlt : ¬ ((1 : Nat) : Int) < 1 := by omega
      go_wp2
      go_end0
      exact ⟨rfl, Below.refl _ _⟩

set_option maxHeartbeats 8000000 in
set_option maxRecDepth 100000 in
theorem diskReads_walk (la : Option Addr) (ll lc : Nat) (sts : List StK) (nm : ByteArray) (hnm : nm.size ≤ maxLen) (i : Int) (w : World) (hM : StsK w la ll sts) :
    Calls Try.prog 4 #[.slice la ll lc, .string nm, .int .i64 i] w fun e w' => e = .returned (.bool true) ∧ Below w.heap.size w w' := by
  have HM := hidn hM
  clear hM
  go_enter Try.func4, Try.ntmps4
  go_wp2_with fail
  refine (disks_any _ 20 (by omega) la ll lc sts HM.out).mono ?_
  rintro e w1 ⟨d, y, rfl, st, hT⟩
  have HT := hidn hT
  clear hT
  go_wp2_with fail
  obtain ⟨hW, Fd, Fy, hD, ⟨fa, fc, R, hY, hV⟩, hFd, hFy, hX⟩ := HT.out
  have HD := hidn (show DiskOf w1 d Fd 40 st.M st.free st.fuse from hD)
  have HY := hidn hY
  have HRL := hidn hV.short
  have HF := hidn (show ∀ k, Fy k → k < w1.heap.size from fun k hk => (hFy k hk).2)
  have HW := hidn hW
  have hlen : (extY R nm).length = (st.M nm.data.toList).length := by rw [ext_len, hV.ext]
  obtain ⟨n, hn⟩ : ∃ n, n = (st.M nm.data.toList).length := ⟨_, rfl⟩
  have hnM : Hid (n = (st.M nm.data.toList).length) := hidn hn
  have hnY : Hid (n = (extY R nm).length) := hidn (by rw [hlen]; exact hn)
  by_cases hi : i < 0 ∨ (n : Int) ≤ i
  · clear hD hY hV hFd hFy hX hW hlen hn
    refine (diskRead_none _ d Fd 40 st.M st.free st.fuse HD.out nm hnm i n hnM hi).mono ?_
    rintro e w2 ⟨rfl, hb2⟩
    have HB2 := hidn hb2
    clear hb2
    go_wp2_with fail
    refine (readY_no _ y Fy fa fc R _ st.fuse (HY.out.below HF.out HB2.out) (fun k hk => Nat.lt_of_lt_of_le (HF.out k hk) HB2.out.size) nm HRL.out.1 i n hnY hi).mono ?_
    rintro e w3 ⟨rfl, hb3⟩
    have HB3 := hidn (HB2.out.trans (hb3.mono HB2.out.size))
    clear hb3 HB2 hi
    go_wp2_with fail
    refine (bytesEqual_nil _ none 0 0).mono ?_
    rintro e w4 ⟨rfl, hb4⟩
    have HB4 := hidn (HB3.out.trans (hb4.mono HB3.out.size))
    clear hb4 HB3
    go_wp2_with fail
    refine (extents_disk _ d Fd 40 st.M st.free st.fuse (HD.out.below HB4.out) nm hnm n hnM).mono ?_
    rintro e w5 ⟨rfl, rfl⟩
    go_wp2_with fail
    refine (extentsY_any _ y Fy fa fc R _ st.fuse (HY.out.below HF.out HB4.out) (fun k hk => Nat.lt_of_lt_of_le (HF.out k hk) HB4.out.size) nm HRL.out.1 n hnY).mono ?_
    rintro e w6 ⟨rfl, hb6⟩
    have HB6 := hidn (HB4.out.trans (hb6.mono HB4.out.size))
    clear hb6 HB4
    go_wp2_with fail
    refine (spoil_nil _ w6.heap.size (heap_alloc_new _ _)).mono ?_
    rintro e w7 ⟨rfl, hb7⟩
    have HB7 := hidn (HB6.out.trans (((Below.refl _ w6).alloc (Nat.le_refl _) _).trans (hb7.mono (by simp)) |>.mono HB6.out.size))
    clear hb7 HB6
    go_wp2_with fail
    refine (same_any w _ d 40 y 20 st (HT.out.below HB7.out) (by omega)).mono ?_
    rintro e w8 ⟨rfl, hb8⟩
    have HB8 := hidn (HW.out.trans ((HB7.out.trans (hb8.mono HB7.out.size)).mono HW.out.size))
    clear hb8
    go_wp2
    go_ret
    exact ⟨rfl, HB8.out⟩
  · obtain ⟨j, rfl⟩ : ∃ j : Nat, i = (j : Int) := ⟨i.toNat, by omega⟩
    have hj : j < n := by omega
    obtain ⟨x, hx⟩ : ∃ x, (st.M nm.data.toList)[j]? = some x := ⟨_, List.getElem?_eq_getElem (by rw [← hn]; exact hj)⟩
    obtain ⟨k, f, c, hp, hf, hc, hcx, hfl⟩ : ∃ k f c, placeY R nm = some k ∧ R[k]? = some f ∧ f.l[j]? = some c ∧ c.x = x ∧ f.l.length ≤ 1000000 := by
      cases hp : placeY R nm with
      | none => rw [(place_view_no hV hp).1] at hx; simp at hx
      | some k =>
        obtain ⟨f, hf, _⟩ := place_at hp
        obtain ⟨_, hM⟩ := place_view hV hp hf
        rw [hM, List.getElem?_map] at hx
        obtain ⟨c, hc, e⟩ := Option.map_eq_some_iff.1 hx
        have := sumL_at hf hV.short.2
        exact ⟨k, f, c, rfl, hf, hc, e, by omega⟩
    have hok : x.ok := by rw [← hcx]; exact ((hY.ok f (List.mem_of_getElem? hf)).2.2) c (List.mem_of_getElem? hc)
    have hrdl : x.rd.length = 128 ∧ ∀ z ∈ x.rd, z < 256 := by
      obtain ⟨o1, o2, o3⟩ := hok
      unfold Ext.rd
      split
      · exact o3
      · exact o1
    have HP := hidn (show placeY R nm = some k ∧ R[k]? = some f ∧ f.l[j]? = some c ∧ c.x = x ∧ f.l.length ≤ 1000000 from ⟨hp, hf, hc, hcx, hfl⟩)
    have HX := hidn hx
    have HRD := hidn hrdl
    obtain ⟨ii, hii⟩ : ∃ ii, ii = x.rd := ⟨_, rfl⟩
    have HII := hidn hii
    clear hD hY hV hFd hFy hX hW hlen hn hi hx hp hf hc hcx hfl hok hrdl hii
    refine (diskRead_row _ d Fd 40 st.M st.free st.fuse HD.out nm hnm j n (j * 385) hnM hj rfl ii x HX HII).mono ?_
    rintro e w2 ⟨b, rfl, hbn, hbs, hb2, hrow⟩
    have HB2 := hidn hb2
    have HBS := hidn hbs
    have HRW := hidn hrow
    have HBN := hidn hbn
    clear hb2 hbs hrow hbn
    go_wp2_with fail
    refine (readY_yes _ y Fy fa fc R _ st.fuse (HY.out.below HF.out HB2.out) (fun k hk => Nat.lt_of_lt_of_le (HF.out k hk) HB2.out.size) nm HRL.out.1 j k f c HP.out.1 HP.out.2.1 HP.out.2.2.1 HP.out.2.2.2.2).mono ?_
    rintro e w3 ⟨q, rfl, him, hq, hb3⟩
    rw [HP.out.2.2.2.1] at him
    have HEQ := hidn (bytesEqual_same w3 (some ⟨b, 0, none⟩) (some ⟨q.1, 0, none⟩) 128 128 q.2 ii (HBS.out.below hb3) (by rw [HII.out]; exact him.bs HRD.out.1 HRD.out.2))
    have HB3 := hidn (HB2.out.trans (hb3.mono HB2.out.size))
    have HB23 := hidn hb3
    obtain ⟨q1, q2⟩ := q
    clear him hq hb3
    go_wp2_with fail
    refine HEQ.out.mono ?_
    rintro e w4 ⟨rfl, hb4⟩
    have HB4 := hidn (HB3.out.trans (hb4.mono HB3.out.size))
    have HB24 := hidn (HB23.out.trans (hb4.mono HB23.out.size))
    clear hb4 HB3 HB23 HEQ
    go_wp2_with fail
    refine (extents_disk _ d Fd 40 st.M st.free st.fuse (HD.out.below HB4.out) nm hnm n hnM).mono ?_
    rintro e w5 ⟨rfl, rfl⟩
    go_wp2_with fail
    refine (extentsY_any _ y Fy fa fc R _ st.fuse (HY.out.below HF.out HB4.out) (fun k hk => Nat.lt_of_lt_of_le (HF.out k hk) HB4.out.size) nm HRL.out.1 n hnY).mono ?_
    rintro e w6 ⟨rfl, hb6⟩
    have HB6 := hidn (HB4.out.trans (hb6.mono HB4.out.size))
    have HB26 := hidn (HB24.out.trans (hb6.mono HB24.out.size))
    clear hb6 HB4 HB24
    go_wp2_with fail
    obtain ⟨wv, hwv⟩ : ∃ wv, wv = w6.alloc (.cells #[.slice (some ⟨b, 0, none⟩) 128 128] 31) := ⟨_, rfl⟩
    have hb7 : Below w6.heap.size w6 wv := by rw [hwv]; exact (Below.refl _ _).alloc (Nat.le_refl _) _
    have hblt : b < w2.heap.size := by
      obtain ⟨cs, t, h1, _⟩ := HRW.out
      exact (Array.getElem?_eq_some_iff.1 h1).1
    have hs26 := HB26.out.size
    have hro : Row128 wv b := by
      obtain ⟨cs, t, h1, h2, h3⟩ := HRW.out
      refine ⟨cs, t, ?_, h2, h3⟩
      exact (hb7.block b (by omega)).trans ((HB26.out.block b hblt).trans h1)
    have HV7 := hidn (HB6.out.trans (hb7.mono HB6.out.size))
    rw [← hwv]
    refine (spoil_one wv w6.heap.size b 128 (by rw [hwv]; exact heap_alloc_new _ _) hro (by omega)).mono ?_
    rintro e w7 ⟨rfl, hk7⟩
    have HT7 : Hid (Two w w7 d 40 y 20 st) := hidn (Two.spoilt (HT.out.below HV7.out) b (fun k hk hn => hk7.block k hk hn) hk7.size ⟨hk7.os, hk7.tape, hk7.output⟩ HT.out HV7.out HBN.out)
    clear hb7 hro hk7 hwv hblt hs26
    go_wp2_with fail
    refine (same_any w _ d 40 y 20 st HT7.out (by omega)).mono ?_
    rintro e w8 ⟨rfl, hb8⟩
    have HB8 := hidn (HT7.out.1.trans (hb8.mono HT7.out.1.size))
    clear hb8
    go_wp2
    go_ret
    exact ⟨rfl, HB8.out⟩
end Go.Proofs.Ytpiohhljcjobfaa
