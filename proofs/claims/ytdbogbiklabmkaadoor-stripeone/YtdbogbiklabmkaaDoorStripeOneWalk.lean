/- StripeOne: the law's walk. -/
import Derived.Test.YtdbogbiklabmkaaDoorStrOne
namespace Go.Proofs.YtdbogbiklabmkaaDoor
open Go.RowKit Go.Maps
set_option linter.unusedVariables false
theorem shr_mod (x : Int) : ∃ p : Nat, wrap64 ((IntKind.u64.wrap (x / 4)).tmod 128) = (p : Int) ∧ p < 128 := by
  have hU : 0 ≤ IntKind.u64.wrap (x / 4) := by rw [IntKind.wrap_u64]; omega
  have h1 : (IntKind.u64.wrap (x / 4)).tmod 128 = IntKind.u64.wrap (x / 4) % 128 := Int.tmod_eq_emod_of_nonneg hU
  have h2 := Int.emod_nonneg (IntKind.u64.wrap (x / 4)) (show (128 : Int) ≠ 0 by omega)
  have h3 := Int.emod_lt_of_pos (IntKind.u64.wrap (x / 4)) (show (0 : Int) < 128 by omega)
  rw [h1]
  generalize IntKind.u64.wrap (x / 4) % 128 = r at *
  refine ⟨r.toNat, ?_, by omega⟩
  unfold wrap64
  omega
set_option maxHeartbeats 4000000 in
set_option maxRecDepth 100000 in
theorem stripeOne_walk (a : Option Addr) (len cap : Nat) (zs : List Nat) (ia : Option Addr) (il ic : Nat) (xs : List Int) (w : World) (hB : Bs w a len zs) (hcap : len ≤ cap) (hcm : cap ≤ maxLen) (hX : Ils w ia il xs) (hT : CrcTab w) :
    Calls Tryd.prog 3 #[.slice a len cap, .slice ia il ic] w fun e w' => e = .returned (.bool true) ∧ Below w.heap.size w w' := by
  obtain ⟨m, hm⟩ : ∃ m, m = min len 1500 := ⟨_, rfl⟩
  have hmn : (if (1500 : Int) < (len : Int) then (1500 : Int) else (len : Int)) = (m : Int) := by split <;> omega
  have hmn2 : min (len : Int) 1500 = (m : Int) := by omega
  have hBm := bs_cut6 hB m (by omega)
  obtain ⟨pp, hpp⟩ : ∃ pp, pp = zs.take m := ⟨_, rfl⟩
  rw [← hpp] at hBm
  obtain ⟨E, hE⟩ : ∃ E, E = grpB m := ⟨_, rfl⟩
  have hE6 : 1 ≤ E ∧ E ≤ 5 := by rw [hE]; unfold grpB; split <;> omega
  have hmc : (m : Int) ≤ (cap : Int) := by omega
  have hm6 : m ≤ 1500 := by omega
  have HE := hidn hE
  have hGl := fun wx => groups_any wx (m : Int) (by omega)
  rw [Int.toNat_natCast, ← hE] at hGl
  have HBm := hidn hBm
  have hmc' : m ≤ cap := by omega
  have HT := hidn hT
  have hil := hX.2.1
  unfold maxLen at hil
  have HX := hidn hX
  have hfsd := fs4 xs
  obtain ⟨fs, hfs⟩ : ∃ fs, fs = fsOf xs := ⟨_, rfl⟩
  have HFS := hidn hfs
  clear hpp hE hm hBm hB hT hX hfs hfsd
  go_enter Tryd.func3, Tryd.ntmps3
  go_wp2_with fail
  refine (new_any _ 40 (by omega)).mono ?_
  rintro e w1 ⟨rfl, hD1, hb1, hs1⟩
  have HD1 := hidn hD1
  have HS1 := hidn hs1
  clear hD1 hs1
  go_wp2_with fail
  refine (storeX w w1 hb1 HS1.out _ HD1.out HT.out 4 (by omega) a m cap pp HBm.out hmc' hm6 E HE).mono ?_
  rintro e w2 ⟨rfl, F2, hD2, hS2, hF2, hb2⟩
  have HD2 := hidn hD2
  have HS2 := hidn hS2
  have HF2 := hidn hF2
  have HB2 := hidn hb2
  clear hD2 hS2 hF2 hb1 hb2
  go_wp2_with fail
  refine (copy_disk _ _ F2 _ _ _ _ HD2.out (by have := hE6.2; omega) (diskX_len 4 pp E (by omega))).mono ?_
  rintro e w3 ⟨dc, rfl, ⟨Fc, hDc, hFc⟩, hb3⟩
  have HDc := hidn hDc
  have HFc := hidn hFc
  have HD3 := hidn (HD2.out.below hb3)
  have HS3 := hidn (HS2.out.below hb3)
  have HB3 := hidn (HB2.out.trans (hb3.mono HB2.out.size))
  have HNC : Hid (∀ k, Fc k → ¬ F2 k) := hidn (fun k hk hF => by have := HS2.out.lt _ hF; have := (hFc k hk).1; omega)
  clear hDc hFc hb3 HD2 HS2 HB2
  go_wp2_with fail
  obtain ⟨fb, hfb⟩ : ∃ fb, fb = w3.heap.size := ⟨_, rfl⟩
  obtain ⟨w4, hw4⟩ : ∃ w4, w4 = w3.alloc (.cells #[.string ⟨#[120, 46, 48]⟩, .string ⟨#[120, 46, 49]⟩, .string ⟨#[120, 46, 50]⟩, .string ⟨#[120, 46, 112]⟩] 9) := ⟨_, rfl⟩
  have hb34 : Below w3.heap.size w3 w4 := by rw [hw4]; exact (Below.refl _ _).alloc (Nat.le_refl _) _
  have hfA : FilesAt w4 fb := by rw [hw4, hfb]; exact heap_alloc_new _ _
  have HNF : Hid (¬ F2 fb) := hidn (fun hF => by have := HS3.out.lt _ hF; omega)
  have HI4 : Hid (OneI (w.heap.size + 1) dc fb F2 Fc (4 * E) (40 - 4 * E) pp E (bdO fs 0 0) w4) := hidn (by
    rw [bdO_none fs 0 0 (Nat.le_refl _)]
    exact ⟨_, HD3.out.below hb34, turned_diskX 4 pp E, clean_diskX 4 pp E, HS3.out.below hb34, HDc.out.below hb34, hfA, fun k hk => Nat.lt_of_lt_of_le (HFc.out k hk).2 hb34.size⟩)
  have HB4 := hidn (HB3.out.trans (hb34.mono HB3.out.size))
  rw [← hw4, ← hfb]
  clear hw4 hfb hb34 hfA HD3 HS3 HDc HFc HB3
  refine (hGl _).mono ?_
  rintro e w4' ⟨rfl, rfl⟩
  go_wp2_with fail
  go_loopw [48] (fun iv wr => ∃ i : Nat, i ≤ il ∧ iv = .int .i64 (i : Int) ∧ Hid (OneI (w.heap.size + 1) dc fb F2 Fc (4 * E) (40 - 4 * E) pp E (bdO fs 0 (min i E)) wr) ∧ Below w.heap.size w wr) (fun iv _ => il - (intOf iv).toNat)
  case atStart => exact ⟨0, Nat.zero_le _, rfl, by rw [Nat.zero_min]; exact HI4, HB4.out⟩
  case round =>
    obtain ⟨i, hi, rfl, hI, hb⟩ := hrel
    by_cases hlt : i < il
    · have hlt2 : (i : Int) < (il : Int) := by omega
      obtain ⟨x, hx⟩ : ∃ x, xs[i]? = some x := ⟨_, List.getElem?_eq_getElem (by rw [HX.out.1]; exact hlt)⟩
      obtain ⟨xb, xo, rfl, cx⟩ := (HX.out.below hb).at hx
      have HXI := hidn hx
      clear hx
      by_cases hiE : i < E
      · have hiE2 : (i : Int) < (E : Int) := by omega
        obtain ⟨M, k1, k2, k3, k4, k5, k6, k7⟩ := hI.out
        obtain ⟨u, hu, hub⟩ := uwrap6 x
        obtain ⟨f, hf⟩ : ∃ f, f = u % 4 := ⟨_, rfl⟩
        have hfm : (u : Int).tmod 4 = (f : Int) := by rw [Int.tmod_eq_emod_of_nonneg (by omega)]; omega
        have hfw : IntKind.u64.wrap (f : Int) = (f : Int) := by rw [IntKind.wrap_u64]; omega
        have hfi : IntKind.i64.wrap (f : Int) = (f : Int) := by rw [IntKind.wrap_i64]; omega
        have hf4 : f < 4 := by omega
        have hf4i : (f : Int) < 4 := by omega
        have hcf := k6.at f hf4
        obtain ⟨nf, hnf⟩ : ∃ nf, nf = nameX f := ⟨_, rfl⟩
        rw [← hnf] at hcf
        have HNFE := hidn hnf
        have HFU := hidn hf
        have K1 := hidn k1
        have K2 := hidn k2
        have K3 := hidn k3
        have K4 := hidn k4
        have K5 := hidn k5
        have K6 := hidn k6
        have K7 := hidn k7
        obtain ⟨p, hp, hp128⟩ := shr_mod x
        obtain ⟨q, hq, hq256⟩ : ∃ q : Nat, x / 512 % 256 = (q : Int) ∧ q < 256 := ⟨(x / 512 % 256).toNat, by omega, by omega⟩
        obtain ⟨mk, hmk⟩ : ∃ mk, mk = q ||| 1 := ⟨_, rfl⟩
        have hor : bits .or .u8 (q : Int) 1 = (mk : Int) := by rw [hmk]; exact bits_or_u .u8 rfl q 1 hq256 (by decide)
        have HMK : Hid (mk < 256 ∧ mk ≠ 0) := hidn (by
          rw [hmk]
          refine ⟨Nat.or_lt_two_pow (n := 8) hq256 (by decide), fun h => ?_⟩
          have := congrArg (fun x => x.testBit 0) h
          simp at this)
        have HFI : Hid (f = fs i) := hidn (by
          rw [HFS.out, HFU.out]
          unfold fsOf
          rw [List.getD_eq_getElem?_getD, HXI.out]
          show u % 4 = (IntKind.u64.wrap x).toNat % 4
          rw [hu, Int.toNat_natCast])
        have hmin1 : min i E = i := by omega
        have HMIN : Hid (min (i + 1) E = i + 1) := hidn (by omega)
        rw [hmin1] at K2 K3
        clear hf hnf k1 k2 k3 k4 k5 k6 k7 hub hmk hmin1 hI
        go_wp2_with fail
        obtain ⟨y, hy, _⟩ := K2.out.ext f hf4 i hiE
        refine (rot_some _ _ F2 _ M _ _ K1.out nf (by rw [HNFE.out]; exact nameX_size f hf4) i E (i * 385) (hidn (by rw [HNFE.out]; exact K2.out.len f hf4)) hiE rfl p mk hp128 HMK.out.1 y (hidn (by rw [HNFE.out]; exact hy))).mono ?_
        rintro e w5 ⟨rfl, hD5, hG5⟩
        rw [HNFE.out] at hD5
        have hT5 := K2.out.rot HBm.out.2.2.1 f i hf4 hiE (by unfold bdO; simp) y hy p mk hp128 HMK.out.1 HMK.out.2
        have hC5 := clean_rot K3.out f i hf4 y p mk
        rw [HFI.out] at hT5 hC5 hD5
        rw [bdO_more] at hT5 hC5
        have HI5 : Hid (OneI (w.heap.size + 1) dc fb F2 Fc (4 * E) (40 - 4 * E) pp E (bdO fs 0 (min (i + 1) E)) w5) := hidn (by
          rw [HMIN.out]
          exact oneI_next HNC.out HNF.out K4.out K5.out K6.out K7.out hG5 hD5 hT5 hC5)
        have HB5 := hidn (hb.trans (hG5.1.below hb.size HF2.out))
        clear hD5 hG5 hT5 hC5 hy
        go_wp2_with fail
        exact ⟨⟨i + 1, by omega, by go_num, HI5, HB5.out⟩, by simp [intOf]; omega⟩
      · have hiE2 : ¬ (i : Int) < (E : Int) := by omega
        have HI5 : Hid (OneI (w.heap.size + 1) dc fb F2 Fc (4 * E) (40 - 4 * E) pp E (bdO fs 0 (min (i + 1) E)) wr) := hidn (by
          have h1 : min (i + 1) E = min i E := by omega
          rw [h1]
          exact hI.out)
        clear hI
        go_wp2_with fail
        exact ⟨⟨i + 1, by omega, by go_num, HI5, hb⟩, by simp [intOf]; omega⟩
    · have hlt2 : ¬ (i : Int) < (il : Int) := by omega
      have hil2 : i = il := by omega
      obtain ⟨W, hW⟩ : ∃ W, W = min i E := ⟨_, rfl⟩
      rw [← hW] at hI
      have HW : Hid (W = min il E) := hidn (by rw [hW, hil2])
      obtain ⟨M, k1, k2, k3, k4, k5, k6, k7⟩ := hI.out
      have HP := hidn (partsO2 wr _ F2 _ M _ _ 4 pp E m k1 k4.tab HBm.out.1 hm6 HE HBm.out.2.2.1 (by omega) (bdO fs 0 W) k2 (fun j f k _ _ _ hb hne => bdO_one fs 0 W j f k hb hne))
      have K1 := hidn k1
      have K2 := hidn k2
      have HIW := hI
      clear hI k1 k2 k3 k4 k5 k6 k7 hW hil2
      go_wp2_with fail
      refine (sPart_any _ _ F2 _ M _ _ K1.out K2.out.nil ⟨#[120]⟩ x0 x1 x2 x3 (by decide) (hidn (by decide +kernel)) (hidn (by decide +kernel)) (hidn (by decide +kernel)) (hidn (by decide +kernel)) 4 0 m pp m HBm.out.1 (by omega) HBm.out.2.2.1 (by omega) (by omega) False HP).mono ?_
      rintro r w7 ⟨hb7, (⟨_, hbad⟩ | ⟨_, a7, c7, rfl, hB7⟩)⟩
      · exfalso
        rcases hbad with h | h
        · omega
        · exact h
      have e7 : (pp.drop 0).take m = pp := by rw [List.drop_zero, List.take_of_length_le (by rw [HBm.out.1]; exact Nat.le_refl _)]
      rw [e7] at hB7
      have HBB7 := hidn hB7
      have HI7 := hidn (HIW.out.below hb7)
      have HB7 := hidn (hb.trans (hb7.mono hb.size))
      clear hb7 hB7 e7 HIW K1 K2 HP hb
      go_wp2_with fail
      refine (equal_any _ _ _ _ _ _ _ _ _ HBB7.out (HBm.out.below HB7.out)).mono ?_
      rw [decide_eq_true rfl]
      rintro e w7' ⟨rfl, rfl⟩
      clear hlt hlt2 hi
      go_wp2_with fail
      go_loopw [92] (fun iv wr => ∃ i : Nat, i ≤ E ∧ iv = .int .i64 (i : Int) ∧ Hid (OneI (w.heap.size + 1) dc fb F2 Fc (4 * E) (40 - 4 * E) pp E (bdO fs i W) wr) ∧ Below w.heap.size w wr) (fun iv _ => E - (intOf iv).toNat)
      case atStart => exact ⟨0, Nat.zero_le _, rfl, HI7, HB7.out⟩
      case round =>
        obtain ⟨i, hi, rfl, hI, hb⟩ := hrel
        by_cases hiE : i < E
        · have hiE2 : (i : Int) < (E : Int) := by omega
          obtain ⟨M, k1, k2, k3, k4, k5, k6, k7⟩ := hI.out
          have HLK := hidn (fun (w5 : World) (sb : Nat) (hA : StripeAt w5 sb (w.heap.size + 1) x0 x1 x2 x3 4) (hb5 : Below wr.heap.size wr w5) => lookT w5 _ F2 _ M _ _ (k1.below hb5) (k4.tab.below hb5) 4 (by omega) pp HBm.out.2.2.1 E (by omega) (bdO fs i W) k2 sb i hA hiE)
          have K1 := hidn k1
          have K2 := hidn k2
          have K3 := hidn k3
          have K4 := hidn k4
          have K5 := hidn k5
          have K6 := hidn k6
          have K7 := hidn k7
          clear k1 k2 k3 k4 k5 k6 k7
          by_cases hiW : i < W
          · have hil3 : (i : Int) < (il : Int) := by have := HW.out; omega
            obtain ⟨f, hf⟩ : ∃ f, f = fs i := ⟨_, rfl⟩
            have hf4 : f < 4 := by rw [hf, HFS.out]; exact fs4 xs i
            have hbf : bdO fs i W f i = true := by unfold bdO; rw [hf]; simp [hiW]
            obtain ⟨r1, r2, r3⟩ := rest_one HBm.out.2.2.1 (bdO fs i W) i f hf4 hbf (fun k hk hne => bdO_one fs i W i f k hbf hne)
            rw [r1, r2, r3] at HLK
            obtain ⟨xo, hxo, _⟩ := K2.out.ext f hf4 i hiE
            have HXO := hidn hxo
            have HF := hidn hf
            clear hf hbf r1 r2 r3 hxo hI
            go_wp2_with fail
            refine (smend_ok _ _ F2 _ M _ K1.out K2.out.nil ⟨#[120]⟩ x0 x1 x2 x3 (by decide) (hidn (by decide +kernel)) (hidn (by decide +kernel)) (hidn (by decide +kernel)) (hidn (by decide +kernel)) 4 i (by omega) (by omega) pp HBm.out.2.2.1 (slotF pp f i) f hf4 (hidn rfl) (nameX f) (hidn rfl) (nameX_ok f hf4) E (hidn (K2.out.len f hf4)) hiE xo HXO K4.out HLK).mono ?_
            rintro r w8 ⟨rfl, hD8, hG8⟩
            have hT8 := K2.out.mend f i hf4 hiE xo
            have hC8 := clean_mend K3.out f i hf4 xo (frameB (nums (nameX f)) i 4 (payS pp f i))
            rw [HF.out] at hT8 hC8 hD8
            rw [bdO_less fs i W hiW] at hT8 hC8
            have HI8 := hidn (oneI_next HNC.out HNF.out K4.out K5.out K6.out K7.out hG8 hD8 hT8 hC8)
            have HB8 := hidn (hb.trans (hG8.1.below hb.size HF2.out))
            clear hD8 hG8 hT8 hC8 hb
            go_wp2_with fail
            exact ⟨⟨i + 1, by omega, by go_num, HI8, HB8.out⟩, by simp [intOf]; omega⟩
          · have hil3 : ¬ (i : Int) < (il : Int) := by have := HW.out; omega
            have ho : ∀ k, k < 4 → bdO fs i W k i = false := fun k _ => by
              unfold bdO
              rw [show decide (i ≤ i ∧ i < W) = false from decide_eq_false (by omega)]
              rfl
            rw [rest_none HBm.out.2.2.1 (bdO fs i W) i ho] at HLK
            have HI8' : Hid (OneI (w.heap.size + 1) dc fb F2 Fc (4 * E) (40 - 4 * E) pp E (bdO fs (i + 1) W) wr) := hidn (by rw [← bdO_idle fs i W hiW]; exact hI.out)
            clear ho hI
            go_wp2_with fail
            refine (smend_none _ _ F2 _ M _ _ K1.out K2.out.nil ⟨#[120]⟩ x0 x1 x2 x3 (by decide) (hidn (by decide +kernel)) (hidn (by decide +kernel)) (hidn (by decide +kernel)) (hidn (by decide +kernel)) 4 i (by omega) _ (restS_ok (slotX_ok HBm.out.2.2.1 _ i) _ 4).1 (restS_ok (slotX_ok HBm.out.2.2.1 _ i) _ 4).2 _ HLK).mono ?_
            rintro r w8 ⟨rfl, hb8⟩
            have HI8 := hidn (HI8'.out.below hb8)
            have HB8 := hidn (hb.trans (hb8.mono hb.size))
            clear hb8 hb
            go_wp2_with fail
            exact ⟨⟨i + 1, by omega, by go_num, HI8, HB8.out⟩, by simp [intOf]; omega⟩
        · have hiE2 : ¬ (i : Int) < (E : Int) := by omega
          have HI9 : Hid (OneI (w.heap.size + 1) dc fb F2 Fc (4 * E) (40 - 4 * E) pp E (fun _ _ => false) wr) := hidn (by
            rw [← bdO_none fs i W (by have := HW.out; omega)]
            exact hI.out)
          have HB9 := hidn hb
          clear hI hb HI7 HB7 hi
          go_wp2_with fail
          clear hiE hiE2
          go_loopw [114] (fun kv wr => ∃ k : Nat, k ≤ 4 ∧ kv = .int .i64 (k : Int) ∧ Hid (OneI (w.heap.size + 1) dc fb F2 Fc (4 * E) (40 - 4 * E) pp E (fun _ _ => false) wr) ∧ Below w.heap.size w wr) (fun kv _ => 4 - (intOf kv).toNat)
          case atStart => exact ⟨0, by omega, rfl, HI9, HB9.out⟩
          case round =>
            obtain ⟨k, hk, rfl, hI, hb⟩ := hrel
            by_cases hk4 : k < 4
            · have hk4i : (k : Int) < 4 := by omega
              have hck : wr.cell? ⟨fb, k, none⟩ = some (.string (nameX k)) := by obtain ⟨M, _, _, _, _, _, k6, _⟩ := hI.out; exact k6.at k hk4
              obtain ⟨nk, hnk⟩ : ∃ nk, nk = nameX k := ⟨_, rfl⟩
              rw [← hnk] at hck
              have HNK := hidn hnk
              clear hnk
              go_wp2_with fail
              clear hck
              have HIk := hI
              have HBk := hidn hb
              clear hI hb HI9 HB9
              go_loopw [119] (fun iv wr => ∃ i : Nat, i ≤ E ∧ iv = .int .i64 (i : Int) ∧ Hid (OneI (w.heap.size + 1) dc fb F2 Fc (4 * E) (40 - 4 * E) pp E (fun _ _ => false) wr) ∧ Below w.heap.size w wr) (fun iv _ => E - (intOf iv).toNat)
              case atStart => exact ⟨0, Nat.zero_le _, rfl, HIk, HBk.out⟩
              case round =>
                obtain ⟨i, hi, rfl, hI, hb⟩ := hrel
                by_cases hiE : i < E
                · have hiE2 : (i : Int) < (E : Int) := by omega
                  obtain ⟨M, k1, k2, k3, k4, k5, k6, k7⟩ := hI.out
                  obtain ⟨x, hx, _, _, hrd⟩ := k2.ext k hk4 i hiE
                  obtain ⟨y, hy, _, _, hrd2⟩ := (turned_diskX 4 pp E).ext k hk4 i hiE
                  obtain ⟨im, him⟩ : ∃ im, im = frameB (nums (nameX k)) i 4 (payS pp k i) := ⟨_, rfl⟩
                  have HRX := hidn (show im = x.rd by rw [him]; exact (hrd rfl).symm)
                  have HRY := hidn (show im = y.rd by rw [him]; exact (hrd2 rfl).symm)
                  have HXX := hidn hx
                  have HYY := hidn hy
                  have K1 := hidn k1
                  have K5 := hidn k5
                  have HLE := hidn (k2.len k hk4)
                  have HLE2 := hidn ((turned_diskX 4 pp E).len k hk4)
                  have HSZ := hidn (nameX_size k hk4)
                  clear k1 k2 k3 k4 k5 k6 k7 hx hy hrd hrd2 him
                  go_wp2_with fail
                  refine (diskRead_some _ _ F2 _ M _ _ K1.out nk (by rw [HNK.out]; exact HSZ.out) i E (i * 385) (hidn (by rw [HNK.out]; exact HLE.out)) hiE rfl im x (hidn (by rw [HNK.out]; exact HXX.out)) HRX).mono ?_
                  rintro e w5 ⟨b5, rfl, _, hB5, hb5⟩
                  have HB5 := hidn hB5
                  have HD5 := hidn (K5.out.below hb5)
                  have HI5 := hidn (hI.out.below hb5)
                  have HBB5 := hidn (hb.trans (hb5.mono hb.size))
                  clear hB5 hb5 hI hb
                  go_wp2_with fail
                  refine (diskRead_some _ _ Fc _ _ _ _ HD5.out nk (by rw [HNK.out]; exact HSZ.out) i E (i * 385) (hidn (by rw [HNK.out]; exact HLE2.out)) hiE rfl im y (hidn (by rw [HNK.out]; exact HYY.out)) HRY).mono ?_
                  rintro e w6 ⟨b6, rfl, _, hB6, hb6⟩
                  have HB6 := hidn hB6
                  have HB5' := hidn (HB5.out.below hb6)
                  have HI6 := hidn (HI5.out.below hb6)
                  have HBB6 := hidn (HBB5.out.trans (hb6.mono HBB5.out.size))
                  clear hB6 hb6
                  go_wp2_with fail
                  refine (equal_any _ _ _ _ _ _ _ _ _ HB5'.out HB6.out).mono ?_
                  rw [decide_eq_true rfl]
                  rintro e w6' ⟨rfl, rfl⟩
                  go_wp2_with fail
                  exact ⟨⟨i + 1, by omega, by go_num, HI6, HBB6.out⟩, by simp [intOf]; omega⟩
                · have hiE2 : ¬ (i : Int) < (E : Int) := by omega
                  go_wp2_with fail
                  exact ⟨⟨k + 1, by omega, by go_num, hI, hb⟩, by simp [intOf]; omega⟩
            · have hk4i : ¬ (k : Int) < 4 := by omega
              obtain ⟨M, k1, k2, k3, k4, k5, k6, k7⟩ := hI.out
              have K1 := hidn k1
              have HTT := hidn (tot_four hE6.2 k2.len k3.other)
              have HBD := hidn (clean_none k2.len k3)
              clear k1 k2 k3 k4 k5 k6 k7 hI
              go_wp2_with fail
              refine (damaged_disk _ _ F2 _ M _ _ K1.out (by omega) HTT.out).mono ?_
              rintro e wa ⟨va, rfl, ⟨tsa, hna, hra⟩, ba⟩
              rw [spots_none HBD.out] at hra
              obtain ⟨aa, ac, rfl⟩ : ∃ aa ac, va = .slice aa 0 ac := by
                rcases hra.2 with ⟨h1, h2⟩ | ⟨g, cap, cur, h1, _⟩
                · exact ⟨none, 0, h1⟩
                · exact ⟨_, cap, h1⟩
              have HBa := hidn (hb.trans (ba.mono hb.size))
              clear hra hna ba
              go_wp2_with fail
              exact bodyPost_ret (v := .bool true) (by simp [results, Tryd.results3, go_sem]) rfl ⟨rfl, HBa.out⟩
end Go.Proofs.YtdbogbiklabmkaaDoor
