/- PairHalf: the law's walk. -/
import Derived.Test.YtdigblglehchbaaDoorPairOne
import Derived.Test.YtdigblglehchbaaDoorPairAwake
namespace Go.Proofs.YtdigblglehchbaaDoor
open Go.RowKit Go.Maps
set_option linter.unusedVariables false
theorem gen_of (gI : Int) : ∃ g : Nat, (IntKind.u64.wrap gI).tmod 4611686018427387905 = (g : Int) ∧ g ≤ 4611686018427387904 := by
  have h0 : 0 ≤ IntKind.u64.wrap gI := by rw [IntKind.wrap_u64]; omega
  refine ⟨((IntKind.u64.wrap gI).tmod 4611686018427387905).toNat, ?_, ?_⟩
  · rw [Int.toNat_of_nonneg (Int.tmod_nonneg _ h0)]
  · have h1 := Int.tmod_nonneg 4611686018427387905 h0
    have h2 := Int.tmod_lt_of_pos (IntKind.u64.wrap gI) (show (0 : Int) < 4611686018427387905 by omega)
    omega
theorem DiskOf.other {w w' : World} {d N : Nat} {F : Nat → Prop} {M : List UInt8 → List Ext} {free fuse : Int} (h : DiskOf w d F N M free fuse) (hb : ∀ k, F k → w'.heap[k]? = w.heap[k]?) : DiskOf w' d F N M free fuse := by
  obtain ⟨bm, D, G, C, h1, h2, h3, h4, h5, h6, h7⟩ := h
  refine ⟨bm, D, G, C, (hb d h2).trans h1, h2, h3, ?_, h5, fun s hs => ?_, h7⟩
  · obtain ⟨es, clock, hbk, Ft, hs, hD⟩ := h4
    exact ⟨es, clock, (hb bm h3.1).trans hbk, Ft, hs, hD⟩
  · obtain ⟨a1, a2, a3⟩ := h6 s hs
    refine ⟨a1, ?_, a3⟩
    obtain ⟨hl, hr⟩ := a2
    refine ⟨hl, ?_⟩
    rcases hr with hr | ⟨g, cap, cur, hv, hg, hh, r⟩
    · exact .inl hr
    · refine .inr ⟨g, cap, cur, hv, hg, ?_, r⟩
      cases hv
      exact (hb _ (h3.2 s hs)).trans hh
def MendI (d dc : Nat) (F Fc : Nat → Prop) (N : Nat) (free : Int) (g : Nat) (pp : List Nat) (E k : Nat) (w : World) : Prop :=
  ∃ M, DiskOf w d F N M free (-1) ∧ PairS M g pp E k ∧ Sound5 w F ∧ DiskOf w dc Fc N (diskP g pp E) free (-1) ∧ ∀ j, Fc j → j < w.heap.size
theorem MendI.below {d dc N E k g : Nat} {F Fc : Nat → Prop} {free : Int} {pp : List Nat} {w w' : World} (h : MendI d dc F Fc N free g pp E k w) (hb : Below w.heap.size w w') : MendI d dc F Fc N free g pp E k w' := by
  obtain ⟨M, h1, h2, h3, h4, h5⟩ := h
  exact ⟨M, h1.below hb, h2, h3.below hb, h4.below hb, fun j hj => Nat.lt_of_lt_of_le (h5 j hj) hb.size⟩
theorem mendI_next {d dc N E k g : Nat} {F Fc : Nat → Prop} {free : Int} {pp : List Nat} {w w' : World} {M' : List UInt8 → List Ext} (hNC : ∀ j, Fc j → ¬ F j) (h3 : Sound5 w F) (h4 : DiskOf w dc Fc N (diskP g pp E) free (-1)) (h5 : ∀ j, Fc j → j < w.heap.size)
    (hG : Gr F F w w') (hD : DiskOf w' d F N M' free (-1)) (hS : PairS M' g pp E k) : MendI d dc F Fc N free g pp E k w' :=
  ⟨M', hD, hS, h3.gr hG, h4.other (fun j hj => hG.1.block j (h5 j hj) (hNC j hj)), fun j hj => Nat.lt_of_lt_of_le (h5 j hj) hG.1.size⟩
def Files2 (w : World) (fb : Nat) : Prop := w.heap[fb]? = some (.cells #[.string nmA, .string nmB] 9 (0, 0))
theorem Files2.lt {w : World} {fb : Nat} (h : Files2 w fb) : fb < w.heap.size := (Array.getElem?_eq_some_iff.1 h).1
theorem Files2.below {w w' : World} {fb : Nat} (h : Files2 w fb) (hb : Below w.heap.size w w') : Files2 w' fb := (hb.block _ h.lt).trans h
def nmK (k : Nat) : ByteArray := if k = 0 then nmA else nmB
theorem Files2.at {w : World} {fb : Nat} (h : Files2 w fb) (f : Nat) (hf : f < 2) : w.cell? ⟨fb, f, none⟩ = some (.string (nmK f)) := by
  unfold Files2 at h
  match f, hf with
  | 0, _ => simp [World.cell?, h, nmK]
  | 1, _ => simp [World.cell?, h, nmK]
theorem nmK_size (k : Nat) : (nmK k).size ≤ maxLen := by unfold nmK; split <;> decide
theorem pairS_read {M : List UInt8 → List Ext} {g : Nat} {pp : List Nat} {E : Nat} (hS : PairS M g pp E E) (k i : Nat) (hi : i < E) : ∃ x, (M (nmK k).data.toList)[i]? = some x ∧ zF (nmK k) g pp i = x.rd := by
  obtain ⟨xa, hxa⟩ := hS.a.at hi
  obtain ⟨xb, hxb⟩ := hS.b.at hi
  obtain ⟨h1, h2⟩ := hS.done i xa xb hi hxa hxb
  unfold nmK
  split
  · exact ⟨xa, hxa, h1.symm⟩
  · exact ⟨xb, hxb, h2.symm⟩
theorem pairS_len {M : List UInt8 → List Ext} {g : Nat} {pp : List Nat} {E n : Nat} (hS : PairS M g pp E n) (k : Nat) : E = (M (nmK k).data.toList).length := by
  unfold nmK
  split
  · exact hS.a.1.symm
  · exact hS.b.1.symm
theorem diskP_S (g : Nat) (pp : List Nat) (E : Nat) (hz : ∀ x ∈ pp, x < 256) : PairS (diskP g pp E) g pp E E := by
  refine ⟨by rw [diskP_A]; exact filesF_bad _ _ _ hz _, by rw [diskP_B]; exact filesF_bad _ _ _ hz _, diskP_o g pp E, ?_, ?_⟩
  · intro j xa xb hxa hxb
    rw [diskP_A] at hxa
    rw [diskP_B] at hxb
    have hj := (filesF_bad nmA g pp hz E).lt hxa
    rw [filesF_at _ _ _ _ _ hj] at hxa hxb
    cases hxa
    cases hxb
    exact .inl ⟨rfl, .inl rfl⟩
  · intro j xa xb hj hxa hxb
    rw [diskP_A, filesF_at _ _ _ _ _ hj] at hxa
    rw [diskP_B, filesF_at _ _ _ _ _ hj] at hxb
    cases hxa
    cases hxb
    exact ⟨rfl, rfl⟩
set_option maxHeartbeats 4000000 in
set_option maxRecDepth 100000 in
theorem pairHalf_walkA (a : Option Addr) (len cap : Nat) (zs : List Nat) (gI : Int) (ia : Option Addr) (il ic : Nat) (xs : List Int) (w : World) (hB : Bs w a len zs) (hcap : len ≤ cap) (hcm : cap ≤ maxLen) (hX : Ils w ia il xs) (hT : CrcTab w) :
    Calls Tryd.prog 3 #[.slice a len cap, .int .i64 gI, .bool false, .slice ia il ic] w fun e w' => e = .returned (.bool true) ∧ Below w.heap.size w w' := by
  obtain ⟨m, hm⟩ : ∃ m, m = min len 600 := ⟨_, rfl⟩
  have hmn : (if (600 : Int) < (len : Int) then (600 : Int) else (len : Int)) = (m : Int) := by split <;> omega
  have hmn2 : min (len : Int) 600 = (m : Int) := by omega
  have hBm := bs_cut hB m (by omega)
  obtain ⟨pp, hpp⟩ : ∃ pp, pp = zs.take m := ⟨_, rfl⟩
  rw [← hpp] at hBm
  obtain ⟨E, hE⟩ : ∃ E, E = extB m := ⟨_, rfl⟩
  have hE6 : 1 ≤ E ∧ E ≤ 6 := by rw [hE]; unfold extB; split <;> omega
  have hmc : (m : Int) ≤ (cap : Int) := by omega
  have hmc' : m ≤ cap := by omega
  have hm6 : m ≤ 600 := by omega
  have HE := hidn hE
  have HBm := hidn hBm
  have HZ : Hid (∀ x ∈ pp, x < 256) := hidn hBm.2.2.1
  have HPL : Hid (pp.length = m) := hidn hBm.1
  have hsx : nmX.size ≤ 1000 := by decide
  obtain ⟨g, hg1, hg2⟩ := gen_of gI
  have hgi : IntKind.i64.wrap (g : Int) = (g : Int) := by rw [IntKind.wrap_i64]; omega
  have hgW : wrap64 (g : Int) = (g : Int) := by unfold wrap64; omega
  have HG := hidn hg2
  have HT := hidn hT
  have hil := hX.2.1
  unfold maxLen at hil
  have HX := hidn hX
  clear hpp hE hm hBm hB hT hX hg2
  go_enter Tryd.func3, Tryd.ntmps3
  go_wp2_with fail
  refine (new_any _ 20 (by omega)).mono ?_
  rintro e w1 ⟨rfl, hD1, hb1, hs1⟩
  have hB1 : BsF (fun k => w.heap.size ≤ k ∧ k < w.heap.size + 2) w1 a m pp := by
    refine ⟨HBm.out.below hb1, fun x hx hl hF => ?_⟩
    have e : (x.add 0).block = x.block := by unfold Addr.add; split <;> rfl
    have := block_lt_of_cell (HBm.out.2.2.2.2 x hx 0 hl)
    omega
  have hS1 : Sound5 w1 (fun k => w.heap.size ≤ k ∧ k < w.heap.size + 2) := ⟨HT.out.below hb1, fun hF => by have := HT.out.lt; omega, fun k hk => by rw [hs1]; exact hk.2⟩
  have HD1 := hidn hD1
  have HS1 := hidn hS1
  have HB1 := hidn hB1
  have HBL1 := hidn hb1
  clear hD1 hS1 hB1 hb1 hs1
  go_wp2_with fail
  refine (store_new _ _ _ 0 _ 20 HD1.out HS1.out rfl nmX hsx nmX_A nmX_B rfl rfl g HG.out a m cap pp HB1.out hmc' (by omega) E HE (by unfold maxLen; omega) (by omega) (by omega)).mono ?_
  rw [fileA_x, fileB_x, filesF_eq, filesF_eq]
  rintro e w2 ⟨rfl, F2, hD2, hG2⟩
  obtain ⟨N2, hN2⟩ : ∃ N2, N2 = 0 + E + E := ⟨_, rfl⟩
  obtain ⟨fr, hfr⟩ : ∃ fr : Int, fr = 20 - (E : Int) - (E : Int) := ⟨_, rfl⟩
  rw [← hN2] at hD2
  have HD2 : Hid (DiskOf w2 (w.heap.size + 1) F2 N2 (diskP g pp E) fr (-1)) := hidn (by rw [hfr]; exact hD2)
  have HS2 := hidn (HS1.out.gr hG2)
  have HB2 := hidn (HBL1.out.trans (hG2.1.below HBL1.out.size (fun k hk => hk.1)))
  have HF2 : Hid (∀ k, F2 k → w.heap.size ≤ k) := hidn (hG2.ge HBL1.out.size (fun k hk => hk.1))
  have hN12 : N2 ≤ 12 := by omega
  clear hD2 hG2 HD1 HS1 HB1 HBL1 hN2 hfr
  go_wp2_with fail
  refine (copy_disk _ _ F2 _ _ _ _ HD2.out (by omega) (fun s => by have := diskP_len g pp E s; omega)).mono ?_
  rintro e w3 ⟨dc, rfl, ⟨Fc, hDc, hFc⟩, hb3⟩
  have HDc := hidn hDc
  have HFc := hidn (fun k hk => (hFc k hk).2)
  have HD3 := hidn (HD2.out.below hb3)
  have HS3 := hidn (HS2.out.below hb3)
  have HB3 := hidn (HB2.out.trans (hb3.mono HB2.out.size))
  have HNC : Hid (∀ k, Fc k → ¬ F2 k) := hidn (fun k hk hF => by have := HS2.out.lt _ hF; have := (hFc k hk).1; omega)
  clear hDc hFc hb3 HD2 HS2 HB2
  go_wp2_with fail
  refine (half_any _ _ F2 N2 (diskP g pp E) fr (-1) HD3.out nmA (by decide) E hE6.1 (by omega) (zF nmA g pp) (by rw [diskP_A]; exact filesF_bad _ _ _ HZ.out _) ia il ic xs (fun wr hr => HX.out.below (HB3.out.trans (hr.1.below HB3.out.size HF2.out)))).mono ?_
  rintro e w4 ⟨rfl, l, hl, hD4, hG4⟩
  have HL := hidn hl
  have HD4 := hidn hD4
  have HS4 := hidn (HS3.out.gr hG4)
  have HC4 := hidn (HDc.out.other (fun j hj => hG4.1.block j (HFc.out j hj) (HNC.out j hj)))
  have HFc4 : Hid (∀ k, Fc k → k < w4.heap.size) := hidn (fun k hk => Nat.lt_of_lt_of_le (HFc.out k hk) hG4.1.size)
  have HB4 := hidn (HB3.out.trans (hG4.1.below HB3.out.size HF2.out))
  clear hl hD4 hG4 HD3 HS3 HDc HFc HB3
  go_wp2_with fail
  have hlen : ∀ s, (diskP g pp E s).length = (upd (diskP g pp E) nmA.data.toList l s).length := fun s => by
    by_cases hs : s = nmA.data.toList
    · rw [hs, upd_same, diskP_A, filesF_length, HL.out.1]
    · rw [upd_other _ _ _ _ hs]
  refine (told_any _ _ dc F2 Fc N2 N2 _ (diskP g pp E) fr (-1) fr (-1) HD4.out HC4.out (by omega) hlen (fun s => by rw [← hlen]; have := diskP_len g pp E s; omega)).mono ?_
  clear hlen
  rintro e w5 ⟨b, rfl, htold, hb5⟩
  have HB5 := hidn (HB4.out.trans (hb5.mono HB4.out.size))
  cases b with
  | false =>
    clear htold hb5
    go_wp2_with fail
    refine (awake5_any _ (HT.out.below HB5.out)).mono ?_
    rintro e w6 ⟨rfl, hb6⟩
    have HB6 := hidn (HB5.out.trans (hb6.mono HB5.out.size))
    clear hb6
    go_wp2_with fail
    go_ret
    exact ⟨rfl, HB6.out⟩
  | true =>
    have HPS := hidn (told_pairA HZ.out HL.out (htold rfl))
    have HI5 : Hid (MendI (w.heap.size + 1) dc F2 Fc N2 fr g pp E 0 w5) := hidn (MendI.below ⟨_, HD4.out, HPS.out, HS4.out, HC4.out, HFc4.out⟩ hb5)
    clear htold hb5 HD4 HPS HS4 HC4 HFc4 HL HB4
    obtain ⟨M5, i1, i2, i3, i4, i5⟩ := HI5.out
    have I1 := hidn i1
    have I2 := hidn i2
    have I3 := hidn i3
    clear i1 i2 i3 i4 i5
    go_wp2_with fail
    refine (load_full _ _ F2 N2 M5 fr (-1) I1.out I3.out.tab (I2.out.o _ nm_empty.1 nm_empty.2) nmX (by decide) g E m (by omega) (by rw [fileA_x]; exact I2.out.a.1.symm) (by rw [fileB_x]; exact I2.out.b.1.symm) pp HPL.out HE.out HZ.out (fun i hi wx hbx => get_half wx _ F2 N2 M5 fr (-1) (I1.out.below hbx) (I3.out.tab.below hbx) g HG.out pp HZ.out E 0 (by omega) I2.out i hi)).mono ?_
    rintro e w6 ⟨oa, oc, rfl, hB6, hb6⟩
    have HBO := hidn hB6
    have HB6 := hidn (HB5.out.trans (hb6.mono HB5.out.size))
    have HI6 := hidn (HI5.out.below hb6)
    clear hB6 hb6 HI5 HB5 I1 I2 I3
    go_wp2_with fail
    refine (equal_any _ _ _ _ _ _ _ _ _ HBO.out (HBm.out.below HB6.out)).mono ?_
    rw [decide_eq_true rfl]
    rintro e w6' ⟨rfl, rfl⟩
    clear HBO M5
    go_wp2_with fail
    obtain ⟨M6, i1, i2, i3, i4, i5⟩ := HI6.out
    refine (extents_disk _ _ F2 N2 M6 fr (-1) i1 nmA (by decide) E (hidn i2.a.1.symm)).mono ?_
    clear i1 i2 i3 i4 i5 M6
    rintro e w6' ⟨rfl, rfl⟩
    go_wp2_with fail
    go_loopw [75] (fun iv wr => ∃ i : Nat, i ≤ E ∧ iv = .int .i64 (i : Int) ∧ Hid (MendI (w.heap.size + 1) dc F2 Fc N2 fr g pp E i wr) ∧ Hid (Below w.heap.size w wr)) (fun iv _ => E - (intOf iv).toNat)
    case atStart => exact ⟨0, Nat.zero_le _, rfl, HI6, HB6⟩
    case round =>
      obtain ⟨i, hi, rfl, HI, HB⟩ := hrel
      by_cases hlt : i < E
      · have hlt2 : (i : Int) < (E : Int) := by omega
        obtain ⟨M, i1, i2, i3, i4, i5⟩ := HI.out
        have I1 := hidn i1
        have I2 := hidn i2
        have I3 := hidn i3
        have I4 := hidn i4
        have I5 := hidn i5
        obtain ⟨xa, hxa⟩ := i2.a.at hlt
        obtain ⟨xb, hxb⟩ := i2.b.at hlt
        have HXA := hidn hxa
        have HXB := hidn hxb
        have hi31 : i ≤ 2147483647 := by omega
        clear i1 i2 i3 i4 i5 hxa hxb HI
        go_wp2_with fail
        refine (pmend_any _ _ F2 N2 M fr I1.out I3.out nmX (by decide) nmX_A nmX_B i E g hlt hi31 HG.out (by rw [fileA_x]; exact I2.out.a.1.symm) (by rw [fileB_x]; exact I2.out.b.1.symm) xa xb (by rw [fileA_x]; exact HXA.out) (by rw [fileB_x]; exact HXB.out) (partP pp i) _ (partP_le pp i) (zF nmA g pp i) (zF nmB g pp i) (hidn (by rw [fileA_x]; rfl)) (hidn (by rw [fileB_x]; rfl)) (get_half _ _ F2 N2 M fr (-1) I1.out I3.out.tab g HG.out pp HZ.out E i (by omega) I2.out i hlt)).mono ?_
        rw [fileA_x, fileB_x]
        rintro e w7 ⟨mb, rfl, hD7, hG7⟩
        have HI7 : Hid (MendI (w.heap.size + 1) dc F2 Fc N2 fr g pp E (i + 1) w7) := hidn (mendI_next HNC.out I3.out I4.out I5.out hG7 hD7 (pairS_mend HZ.out I2.out xa xb HXA.out HXB.out))
        have HB7 : Hid (Below w.heap.size w w7) := hidn (HB.out.trans (hG7.1.below HB.out.size HF2.out))
        clear hD7 hG7 HXA HXB I1 I2 I3 I4 I5
        go_wp2_with fail
        exact ⟨⟨i + 1, by omega, by go_num, HI7, HB7⟩, by simp [intOf]; omega⟩
      · have hlt2 : ¬ (i : Int) < (E : Int) := by omega
        have hiE : i = E := by omega
        rw [hiE] at HI
        have HI8 := HI
        have HB8 := HB
        clear HI HB hiE HI6 HB6
        go_wp2_with fail
        obtain ⟨fb, hfb⟩ : ∃ fb, fb = wr.heap.size := ⟨_, rfl⟩
        obtain ⟨w9, hw9⟩ : ∃ w9, w9 = wr.alloc (.cells #[.string ⟨#[120, 46, 97]⟩, .string ⟨#[120, 46, 98]⟩] 9) := ⟨_, rfl⟩
        have hb9 : Below wr.heap.size wr w9 := by rw [hw9]; exact (Below.refl _ _).alloc (Nat.le_refl _) _
        have hfA : Files2 w9 fb := by rw [hw9, hfb]; exact heap_alloc_new _ _
        have HI9 := hidn (HI8.out.below hb9)
        have HB9 := hidn (HB8.out.trans (hb9.mono HB8.out.size))
        have HF9 := hidn hfA
        rw [← hw9, ← hfb]
        clear hw9 hfb hb9 hfA HI8 HB8 hlt hlt2 hi
        go_loopw [89] (fun kv wr => ∃ k : Nat, k ≤ 2 ∧ kv = .int .i64 (k : Int) ∧ Hid (MendI (w.heap.size + 1) dc F2 Fc N2 fr g pp E E wr) ∧ Hid (Files2 wr fb) ∧ Hid (Below w.heap.size w wr)) (fun kv _ => 2 - (intOf kv).toNat)
        case atStart => exact ⟨0, by omega, rfl, HI9, HF9, HB9⟩
        case round =>
          obtain ⟨k, hk, rfl, HI, HF, HB⟩ := hrel
          by_cases hk2 : k < 2
          · have hk2i : (k : Int) < 2 := by omega
            have hck := HF.out.at k hk2
            obtain ⟨nk, hnk⟩ : ∃ nk, nk = nmK k := ⟨_, rfl⟩
            rw [← hnk] at hck
            have HNK := hidn hnk
            have HLC : Hid (E = (diskP g pp E nk.data.toList).length) := hidn (by rw [hnk]; exact pairS_len (diskP_S g pp E HZ.out) k)
            clear hnk
            go_wp2_with fail
            obtain ⟨M, i1, i2, i3, i4, i5⟩ := HI.out
            refine (extents_disk _ _ Fc N2 _ fr (-1) i4 nk (by rw [HNK.out]; exact nmK_size k) E HLC).mono ?_
            clear i1 i2 i3 i4 i5 M
            rintro e w10 ⟨rfl, rfl⟩
            go_wp2_with fail
            have HIk := HI
            have HFk := HF
            have HBk := HB
            clear hck HI HF HB HI9 HF9 HB9
            go_loopw [96] (fun iv wr => ∃ i : Nat, i ≤ E ∧ iv = .int .i64 (i : Int) ∧ Hid (MendI (w.heap.size + 1) dc F2 Fc N2 fr g pp E E wr) ∧ Hid (Files2 wr fb) ∧ Hid (Below w.heap.size w wr)) (fun iv _ => E - (intOf iv).toNat)
            case atStart => exact ⟨0, Nat.zero_le _, rfl, HIk, HFk, HBk⟩
            case round =>
              obtain ⟨i, hi, rfl, HI, HF, HB⟩ := hrel
              by_cases hiE : i < E
              · have hiE2 : (i : Int) < (E : Int) := by omega
                obtain ⟨M, i1, i2, i3, i4, i5⟩ := HI.out
                obtain ⟨x, hx, hrx⟩ := pairS_read i2 k i hiE
                obtain ⟨y, hy, hry⟩ := pairS_read (diskP_S g pp E HZ.out) k i hiE
                have HLE := hidn (pairS_len i2 k)
                have HXX := hidn hx
                have HYY := hidn hy
                have HRX := hidn hrx
                have HRY := hidn hry
                have I1 := hidn i1
                have I4 := hidn i4
                have HSZ := hidn (nmK_size k)
                clear i1 i2 i3 i4 i5 hx hy hrx hry
                obtain ⟨im, him⟩ : ∃ im, im = zF (nmK k) g pp i := ⟨_, rfl⟩
                rw [← him] at HRX HRY
                clear him
                go_wp2_with fail
                refine (diskRead_some _ _ F2 _ M _ _ I1.out nk (by rw [HNK.out]; exact HSZ.out) i E (i * 385) (hidn (by rw [HNK.out]; exact HLE.out)) hiE rfl im x (hidn (by rw [HNK.out]; exact HXX.out)) HRX).mono ?_
                rintro e w15 ⟨b5, rfl, _, hB5, hb5⟩
                have HB5 := hidn hB5
                have HD5 := hidn (I4.out.below hb5)
                have HI5 := hidn (HI.out.below hb5)
                have HF5 := hidn (HF.out.below hb5)
                have HBB5 := hidn (HB.out.trans (hb5.mono HB.out.size))
                clear hB5 hb5 HI HF HB
                go_wp2_with fail
                refine (diskRead_some _ _ Fc _ _ _ _ HD5.out nk (by rw [HNK.out]; exact HSZ.out) i E (i * 385) HLC hiE rfl im y (hidn (by rw [HNK.out]; exact HYY.out)) HRY).mono ?_
                rintro e w16 ⟨b6, rfl, _, hB6, hb6⟩
                have HB6 := hidn hB6
                have HB5' := hidn (HB5.out.below hb6)
                have HI6 := hidn (HI5.out.below hb6)
                have HF6 := hidn (HF5.out.below hb6)
                have HBB6 := hidn (HBB5.out.trans (hb6.mono HBB5.out.size))
                clear hB6 hb6
                go_wp2_with fail
                refine (equal_any _ _ _ _ _ _ _ _ _ HB5'.out HB6.out).mono ?_
                rw [decide_eq_true rfl]
                rintro e w16' ⟨rfl, rfl⟩
                go_wp2_with fail
                exact ⟨⟨i + 1, by omega, by go_num, HI6, HF6, HBB6⟩, by simp [intOf]; omega⟩
              · have hiE2 : ¬ (i : Int) < (E : Int) := by omega
                go_wp2_with fail
                exact ⟨⟨k + 1, by omega, by go_num, HI, HF, HB⟩, by simp [intOf]; omega⟩
          · have hk2i : ¬ (k : Int) < 2 := by omega
            obtain ⟨M, i1, i2, i3, i4, i5⟩ := HI.out
            have I1 := hidn i1
            have HTT := hidn (tot_two hE6.2 i2)
            have HBD := hidn (pairS_bad i2)
            clear i1 i2 i3 i4 i5 HI
            go_wp2_with fail
            refine (damaged_disk _ _ F2 _ M _ _ I1.out (by omega) HTT.out).mono ?_
            rintro e wa ⟨va, rfl, ⟨tsa, hna, hra⟩, ba⟩
            rw [spots_none HBD.out] at hra
            obtain ⟨aa, ac, rfl⟩ : ∃ aa ac, va = .slice aa 0 ac := by
              rcases hra.2 with ⟨h1, h2⟩ | ⟨g, cap, cur, h1, _⟩
              · exact ⟨none, 0, h1⟩
              · exact ⟨_, cap, h1⟩
            have HBa := hidn (HB.out.trans (ba.mono HB.out.size))
            clear hra hna ba
            go_wp2_with fail
            exact bodyPost_ret (v := .bool true) (by simp [results, Tryd.results3, go_sem]) rfl ⟨rfl, HBa.out⟩
set_option maxHeartbeats 4000000 in
set_option maxRecDepth 100000 in
theorem pairHalf_walkB (a : Option Addr) (len cap : Nat) (zs : List Nat) (gI : Int) (ia : Option Addr) (il ic : Nat) (xs : List Int) (w : World) (hB : Bs w a len zs) (hcap : len ≤ cap) (hcm : cap ≤ maxLen) (hX : Ils w ia il xs) (hT : CrcTab w) :
    Calls Tryd.prog 3 #[.slice a len cap, .int .i64 gI, .bool true, .slice ia il ic] w fun e w' => e = .returned (.bool true) ∧ Below w.heap.size w w' := by
  obtain ⟨m, hm⟩ : ∃ m, m = min len 600 := ⟨_, rfl⟩
  have hmn : (if (600 : Int) < (len : Int) then (600 : Int) else (len : Int)) = (m : Int) := by split <;> omega
  have hmn2 : min (len : Int) 600 = (m : Int) := by omega
  have hBm := bs_cut hB m (by omega)
  obtain ⟨pp, hpp⟩ : ∃ pp, pp = zs.take m := ⟨_, rfl⟩
  rw [← hpp] at hBm
  obtain ⟨E, hE⟩ : ∃ E, E = extB m := ⟨_, rfl⟩
  have hE6 : 1 ≤ E ∧ E ≤ 6 := by rw [hE]; unfold extB; split <;> omega
  have hmc : (m : Int) ≤ (cap : Int) := by omega
  have hmc' : m ≤ cap := by omega
  have hm6 : m ≤ 600 := by omega
  have HE := hidn hE
  have HBm := hidn hBm
  have HZ : Hid (∀ x ∈ pp, x < 256) := hidn hBm.2.2.1
  have HPL : Hid (pp.length = m) := hidn hBm.1
  have hsx : nmX.size ≤ 1000 := by decide
  obtain ⟨g, hg1, hg2⟩ := gen_of gI
  have hgi : IntKind.i64.wrap (g : Int) = (g : Int) := by rw [IntKind.wrap_i64]; omega
  have hgW : wrap64 (g : Int) = (g : Int) := by unfold wrap64; omega
  have HG := hidn hg2
  have HT := hidn hT
  have hil := hX.2.1
  unfold maxLen at hil
  have HX := hidn hX
  clear hpp hE hm hBm hB hT hX hg2
  go_enter Tryd.func3, Tryd.ntmps3
  go_wp2_with fail
  refine (new_any _ 20 (by omega)).mono ?_
  rintro e w1 ⟨rfl, hD1, hb1, hs1⟩
  have hB1 : BsF (fun k => w.heap.size ≤ k ∧ k < w.heap.size + 2) w1 a m pp := by
    refine ⟨HBm.out.below hb1, fun x hx hl hF => ?_⟩
    have e : (x.add 0).block = x.block := by unfold Addr.add; split <;> rfl
    have := block_lt_of_cell (HBm.out.2.2.2.2 x hx 0 hl)
    omega
  have hS1 : Sound5 w1 (fun k => w.heap.size ≤ k ∧ k < w.heap.size + 2) := ⟨HT.out.below hb1, fun hF => by have := HT.out.lt; omega, fun k hk => by rw [hs1]; exact hk.2⟩
  have HD1 := hidn hD1
  have HS1 := hidn hS1
  have HB1 := hidn hB1
  have HBL1 := hidn hb1
  clear hD1 hS1 hB1 hb1 hs1
  go_wp2_with fail
  refine (store_new _ _ _ 0 _ 20 HD1.out HS1.out rfl nmX hsx nmX_A nmX_B rfl rfl g HG.out a m cap pp HB1.out hmc' (by omega) E HE (by unfold maxLen; omega) (by omega) (by omega)).mono ?_
  rw [fileA_x, fileB_x, filesF_eq, filesF_eq]
  rintro e w2 ⟨rfl, F2, hD2, hG2⟩
  obtain ⟨N2, hN2⟩ : ∃ N2, N2 = 0 + E + E := ⟨_, rfl⟩
  obtain ⟨fr, hfr⟩ : ∃ fr : Int, fr = 20 - (E : Int) - (E : Int) := ⟨_, rfl⟩
  rw [← hN2] at hD2
  have HD2 : Hid (DiskOf w2 (w.heap.size + 1) F2 N2 (diskP g pp E) fr (-1)) := hidn (by rw [hfr]; exact hD2)
  have HS2 := hidn (HS1.out.gr hG2)
  have HB2 := hidn (HBL1.out.trans (hG2.1.below HBL1.out.size (fun k hk => hk.1)))
  have HF2 : Hid (∀ k, F2 k → w.heap.size ≤ k) := hidn (hG2.ge HBL1.out.size (fun k hk => hk.1))
  have hN12 : N2 ≤ 12 := by omega
  clear hD2 hG2 HD1 HS1 HB1 HBL1 hN2 hfr
  go_wp2_with fail
  refine (copy_disk _ _ F2 _ _ _ _ HD2.out (by omega) (fun s => by have := diskP_len g pp E s; omega)).mono ?_
  rintro e w3 ⟨dc, rfl, ⟨Fc, hDc, hFc⟩, hb3⟩
  have HDc := hidn hDc
  have HFc := hidn (fun k hk => (hFc k hk).2)
  have HD3 := hidn (HD2.out.below hb3)
  have HS3 := hidn (HS2.out.below hb3)
  have HB3 := hidn (HB2.out.trans (hb3.mono HB2.out.size))
  have HNC : Hid (∀ k, Fc k → ¬ F2 k) := hidn (fun k hk hF => by have := HS2.out.lt _ hF; have := (hFc k hk).1; omega)
  clear hDc hFc hb3 HD2 HS2 HB2
  go_wp2_with fail
  refine (half_any _ _ F2 N2 (diskP g pp E) fr (-1) HD3.out nmB (by decide) E hE6.1 (by omega) (zF nmB g pp) (by rw [diskP_B]; exact filesF_bad _ _ _ HZ.out _) ia il ic xs (fun wr hr => HX.out.below (HB3.out.trans (hr.1.below HB3.out.size HF2.out)))).mono ?_
  rintro e w4 ⟨rfl, l, hl, hD4, hG4⟩
  have HL := hidn hl
  have HD4 := hidn hD4
  have HS4 := hidn (HS3.out.gr hG4)
  have HC4 := hidn (HDc.out.other (fun j hj => hG4.1.block j (HFc.out j hj) (HNC.out j hj)))
  have HFc4 : Hid (∀ k, Fc k → k < w4.heap.size) := hidn (fun k hk => Nat.lt_of_lt_of_le (HFc.out k hk) hG4.1.size)
  have HB4 := hidn (HB3.out.trans (hG4.1.below HB3.out.size HF2.out))
  clear hl hD4 hG4 HD3 HS3 HDc HFc HB3
  go_wp2_with fail
  have hlen : ∀ s, (diskP g pp E s).length = (upd (diskP g pp E) nmB.data.toList l s).length := fun s => by
    by_cases hs : s = nmB.data.toList
    · rw [hs, upd_same, diskP_B, filesF_length, HL.out.1]
    · rw [upd_other _ _ _ _ hs]
  refine (told_any _ _ dc F2 Fc N2 N2 _ (diskP g pp E) fr (-1) fr (-1) HD4.out HC4.out (by omega) hlen (fun s => by rw [← hlen]; have := diskP_len g pp E s; omega)).mono ?_
  clear hlen
  rintro e w5 ⟨b, rfl, htold, hb5⟩
  have HB5 := hidn (HB4.out.trans (hb5.mono HB4.out.size))
  cases b with
  | false =>
    clear htold hb5
    go_wp2_with fail
    refine (awake5_any _ (HT.out.below HB5.out)).mono ?_
    rintro e w6 ⟨rfl, hb6⟩
    have HB6 := hidn (HB5.out.trans (hb6.mono HB5.out.size))
    clear hb6
    go_wp2_with fail
    go_ret
    exact ⟨rfl, HB6.out⟩
  | true =>
    have HPS := hidn (told_pairB HZ.out HL.out (htold rfl))
    have HI5 : Hid (MendI (w.heap.size + 1) dc F2 Fc N2 fr g pp E 0 w5) := hidn (MendI.below ⟨_, HD4.out, HPS.out, HS4.out, HC4.out, HFc4.out⟩ hb5)
    clear htold hb5 HD4 HPS HS4 HC4 HFc4 HL HB4
    obtain ⟨M5, i1, i2, i3, i4, i5⟩ := HI5.out
    have I1 := hidn i1
    have I2 := hidn i2
    have I3 := hidn i3
    clear i1 i2 i3 i4 i5
    go_wp2_with fail
    refine (load_full _ _ F2 N2 M5 fr (-1) I1.out I3.out.tab (I2.out.o _ nm_empty.1 nm_empty.2) nmX (by decide) g E m (by omega) (by rw [fileA_x]; exact I2.out.a.1.symm) (by rw [fileB_x]; exact I2.out.b.1.symm) pp HPL.out HE.out HZ.out (fun i hi wx hbx => get_half wx _ F2 N2 M5 fr (-1) (I1.out.below hbx) (I3.out.tab.below hbx) g HG.out pp HZ.out E 0 (by omega) I2.out i hi)).mono ?_
    rintro e w6 ⟨oa, oc, rfl, hB6, hb6⟩
    have HBO := hidn hB6
    have HB6 := hidn (HB5.out.trans (hb6.mono HB5.out.size))
    have HI6 := hidn (HI5.out.below hb6)
    clear hB6 hb6 HI5 HB5 I1 I2 I3
    go_wp2_with fail
    refine (equal_any _ _ _ _ _ _ _ _ _ HBO.out (HBm.out.below HB6.out)).mono ?_
    rw [decide_eq_true rfl]
    rintro e w6' ⟨rfl, rfl⟩
    clear HBO M5
    go_wp2_with fail
    obtain ⟨M6, i1, i2, i3, i4, i5⟩ := HI6.out
    refine (extents_disk _ _ F2 N2 M6 fr (-1) i1 nmB (by decide) E (hidn i2.b.1.symm)).mono ?_
    clear i1 i2 i3 i4 i5 M6
    rintro e w6' ⟨rfl, rfl⟩
    go_wp2_with fail
    go_loopw [75] (fun iv wr => ∃ i : Nat, i ≤ E ∧ iv = .int .i64 (i : Int) ∧ Hid (MendI (w.heap.size + 1) dc F2 Fc N2 fr g pp E i wr) ∧ Hid (Below w.heap.size w wr)) (fun iv _ => E - (intOf iv).toNat)
    case atStart => exact ⟨0, Nat.zero_le _, rfl, HI6, HB6⟩
    case round =>
      obtain ⟨i, hi, rfl, HI, HB⟩ := hrel
      by_cases hlt : i < E
      · have hlt2 : (i : Int) < (E : Int) := by omega
        obtain ⟨M, i1, i2, i3, i4, i5⟩ := HI.out
        have I1 := hidn i1
        have I2 := hidn i2
        have I3 := hidn i3
        have I4 := hidn i4
        have I5 := hidn i5
        obtain ⟨xa, hxa⟩ := i2.a.at hlt
        obtain ⟨xb, hxb⟩ := i2.b.at hlt
        have HXA := hidn hxa
        have HXB := hidn hxb
        have hi31 : i ≤ 2147483647 := by omega
        clear i1 i2 i3 i4 i5 hxa hxb HI
        go_wp2_with fail
        refine (pmend_any _ _ F2 N2 M fr I1.out I3.out nmX (by decide) nmX_A nmX_B i E g hlt hi31 HG.out (by rw [fileA_x]; exact I2.out.a.1.symm) (by rw [fileB_x]; exact I2.out.b.1.symm) xa xb (by rw [fileA_x]; exact HXA.out) (by rw [fileB_x]; exact HXB.out) (partP pp i) _ (partP_le pp i) (zF nmA g pp i) (zF nmB g pp i) (hidn (by rw [fileA_x]; rfl)) (hidn (by rw [fileB_x]; rfl)) (get_half _ _ F2 N2 M fr (-1) I1.out I3.out.tab g HG.out pp HZ.out E i (by omega) I2.out i hlt)).mono ?_
        rw [fileA_x, fileB_x]
        rintro e w7 ⟨mb, rfl, hD7, hG7⟩
        have HI7 : Hid (MendI (w.heap.size + 1) dc F2 Fc N2 fr g pp E (i + 1) w7) := hidn (mendI_next HNC.out I3.out I4.out I5.out hG7 hD7 (pairS_mend HZ.out I2.out xa xb HXA.out HXB.out))
        have HB7 : Hid (Below w.heap.size w w7) := hidn (HB.out.trans (hG7.1.below HB.out.size HF2.out))
        clear hD7 hG7 HXA HXB I1 I2 I3 I4 I5
        go_wp2_with fail
        exact ⟨⟨i + 1, by omega, by go_num, HI7, HB7⟩, by simp [intOf]; omega⟩
      · have hlt2 : ¬ (i : Int) < (E : Int) := by omega
        have hiE : i = E := by omega
        rw [hiE] at HI
        have HI8 := HI
        have HB8 := HB
        clear HI HB hiE HI6 HB6
        go_wp2_with fail
        obtain ⟨fb, hfb⟩ : ∃ fb, fb = wr.heap.size := ⟨_, rfl⟩
        obtain ⟨w9, hw9⟩ : ∃ w9, w9 = wr.alloc (.cells #[.string ⟨#[120, 46, 97]⟩, .string ⟨#[120, 46, 98]⟩] 9) := ⟨_, rfl⟩
        have hb9 : Below wr.heap.size wr w9 := by rw [hw9]; exact (Below.refl _ _).alloc (Nat.le_refl _) _
        have hfA : Files2 w9 fb := by rw [hw9, hfb]; exact heap_alloc_new _ _
        have HI9 := hidn (HI8.out.below hb9)
        have HB9 := hidn (HB8.out.trans (hb9.mono HB8.out.size))
        have HF9 := hidn hfA
        rw [← hw9, ← hfb]
        clear hw9 hfb hb9 hfA HI8 HB8 hlt hlt2 hi
        go_loopw [89] (fun kv wr => ∃ k : Nat, k ≤ 2 ∧ kv = .int .i64 (k : Int) ∧ Hid (MendI (w.heap.size + 1) dc F2 Fc N2 fr g pp E E wr) ∧ Hid (Files2 wr fb) ∧ Hid (Below w.heap.size w wr)) (fun kv _ => 2 - (intOf kv).toNat)
        case atStart => exact ⟨0, by omega, rfl, HI9, HF9, HB9⟩
        case round =>
          obtain ⟨k, hk, rfl, HI, HF, HB⟩ := hrel
          by_cases hk2 : k < 2
          · have hk2i : (k : Int) < 2 := by omega
            have hck := HF.out.at k hk2
            obtain ⟨nk, hnk⟩ : ∃ nk, nk = nmK k := ⟨_, rfl⟩
            rw [← hnk] at hck
            have HNK := hidn hnk
            have HLC : Hid (E = (diskP g pp E nk.data.toList).length) := hidn (by rw [hnk]; exact pairS_len (diskP_S g pp E HZ.out) k)
            clear hnk
            go_wp2_with fail
            obtain ⟨M, i1, i2, i3, i4, i5⟩ := HI.out
            refine (extents_disk _ _ Fc N2 _ fr (-1) i4 nk (by rw [HNK.out]; exact nmK_size k) E HLC).mono ?_
            clear i1 i2 i3 i4 i5 M
            rintro e w10 ⟨rfl, rfl⟩
            go_wp2_with fail
            have HIk := HI
            have HFk := HF
            have HBk := HB
            clear hck HI HF HB HI9 HF9 HB9
            go_loopw [96] (fun iv wr => ∃ i : Nat, i ≤ E ∧ iv = .int .i64 (i : Int) ∧ Hid (MendI (w.heap.size + 1) dc F2 Fc N2 fr g pp E E wr) ∧ Hid (Files2 wr fb) ∧ Hid (Below w.heap.size w wr)) (fun iv _ => E - (intOf iv).toNat)
            case atStart => exact ⟨0, Nat.zero_le _, rfl, HIk, HFk, HBk⟩
            case round =>
              obtain ⟨i, hi, rfl, HI, HF, HB⟩ := hrel
              by_cases hiE : i < E
              · have hiE2 : (i : Int) < (E : Int) := by omega
                obtain ⟨M, i1, i2, i3, i4, i5⟩ := HI.out
                obtain ⟨x, hx, hrx⟩ := pairS_read i2 k i hiE
                obtain ⟨y, hy, hry⟩ := pairS_read (diskP_S g pp E HZ.out) k i hiE
                have HLE := hidn (pairS_len i2 k)
                have HXX := hidn hx
                have HYY := hidn hy
                have HRX := hidn hrx
                have HRY := hidn hry
                have I1 := hidn i1
                have I4 := hidn i4
                have HSZ := hidn (nmK_size k)
                clear i1 i2 i3 i4 i5 hx hy hrx hry
                obtain ⟨im, him⟩ : ∃ im, im = zF (nmK k) g pp i := ⟨_, rfl⟩
                rw [← him] at HRX HRY
                clear him
                go_wp2_with fail
                refine (diskRead_some _ _ F2 _ M _ _ I1.out nk (by rw [HNK.out]; exact HSZ.out) i E (i * 385) (hidn (by rw [HNK.out]; exact HLE.out)) hiE rfl im x (hidn (by rw [HNK.out]; exact HXX.out)) HRX).mono ?_
                rintro e w15 ⟨b5, rfl, _, hB5, hb5⟩
                have HB5 := hidn hB5
                have HD5 := hidn (I4.out.below hb5)
                have HI5 := hidn (HI.out.below hb5)
                have HF5 := hidn (HF.out.below hb5)
                have HBB5 := hidn (HB.out.trans (hb5.mono HB.out.size))
                clear hB5 hb5 HI HF HB
                go_wp2_with fail
                refine (diskRead_some _ _ Fc _ _ _ _ HD5.out nk (by rw [HNK.out]; exact HSZ.out) i E (i * 385) HLC hiE rfl im y (hidn (by rw [HNK.out]; exact HYY.out)) HRY).mono ?_
                rintro e w16 ⟨b6, rfl, _, hB6, hb6⟩
                have HB6 := hidn hB6
                have HB5' := hidn (HB5.out.below hb6)
                have HI6 := hidn (HI5.out.below hb6)
                have HF6 := hidn (HF5.out.below hb6)
                have HBB6 := hidn (HBB5.out.trans (hb6.mono HBB5.out.size))
                clear hB6 hb6
                go_wp2_with fail
                refine (equal_any _ _ _ _ _ _ _ _ _ HB5'.out HB6.out).mono ?_
                rw [decide_eq_true rfl]
                rintro e w16' ⟨rfl, rfl⟩
                go_wp2_with fail
                exact ⟨⟨i + 1, by omega, by go_num, HI6, HF6, HBB6⟩, by simp [intOf]; omega⟩
              · have hiE2 : ¬ (i : Int) < (E : Int) := by omega
                go_wp2_with fail
                exact ⟨⟨k + 1, by omega, by go_num, HI, HF, HB⟩, by simp [intOf]; omega⟩
          · have hk2i : ¬ (k : Int) < 2 := by omega
            obtain ⟨M, i1, i2, i3, i4, i5⟩ := HI.out
            have I1 := hidn i1
            have HTT := hidn (tot_two hE6.2 i2)
            have HBD := hidn (pairS_bad i2)
            clear i1 i2 i3 i4 i5 HI
            go_wp2_with fail
            refine (damaged_disk _ _ F2 _ M _ _ I1.out (by omega) HTT.out).mono ?_
            rintro e wa ⟨va, rfl, ⟨tsa, hna, hra⟩, ba⟩
            rw [spots_none HBD.out] at hra
            obtain ⟨aa, ac, rfl⟩ : ∃ aa ac, va = .slice aa 0 ac := by
              rcases hra.2 with ⟨h1, h2⟩ | ⟨g, cap, cur, h1, _⟩
              · exact ⟨none, 0, h1⟩
              · exact ⟨_, cap, h1⟩
            have HBa := hidn (HB.out.trans (ba.mono HB.out.size))
            clear hra hna ba
            go_wp2_with fail
            exact bodyPost_ret (v := .bool true) (by simp [results, Tryd.results3, go_sem]) rfl ⟨rfl, HBa.out⟩
theorem pairHalf_walk (a : Option Addr) (len cap : Nat) (zs : List Nat) (gI : Int) (wh : Bool) (ia : Option Addr) (il ic : Nat) (xs : List Int) (w : World) (hB : Bs w a len zs) (hcap : len ≤ cap) (hcm : cap ≤ maxLen) (hX : Ils w ia il xs) (hT : CrcTab w) :
    Calls Tryd.prog 3 #[.slice a len cap, .int .i64 gI, .bool wh, .slice ia il ic] w fun e w' => e = .returned (.bool true) ∧ Below w.heap.size w w' := by
  cases wh
  · exact pairHalf_walkA a len cap zs gI ia il ic xs w hB hcap hcm hX hT
  · exact pairHalf_walkB a len cap zs gI ia il ic xs w hB hcap hcm hX hT
end Go.Proofs.YtdigblglehchbaaDoor
