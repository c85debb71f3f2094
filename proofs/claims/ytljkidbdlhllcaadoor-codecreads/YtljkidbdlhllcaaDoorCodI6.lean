/- dryrotref11.Decode at bytes that are samples'. -/
import Derived.Test.YtljkidbdlhllcaaDoorCodI5
namespace Go.Proofs.YtljkidbdlhllcaaDoor
open Go.RowKit Go.Joins
set_option linter.unusedVariables false
set_option linter.unusedSimpArgs false

def RAPost (w w' : World) (mm : List Sam) (e : Ending) : Prop :=
  (∃ (v : Value), e = .returned (.tuple #[v, .int .i64 0]) ∧ w'.ownsRow w.heap.size 26 2 v mm.length (vsm mm)) ∧ Below w.heap.size w w'
theorem take_snoc {m : List Sam} {k : Nat} {s : Sam} (hk : k < m.length) (hs : s = samD m k) : m.take k ++ [s] = m.take (k + 1) := by
  rw [hs, List.take_succ_eq_append_getElem hk]
  simp [samD, List.getD_eq_getElem?_getD, hk]
theorem step1 (t0 t1 : Int) (h0 : -9223372036854775808 ≤ t1) (h1 : t1 ≤ 9223372036854775807) : wrap64 (t0 + wrap64 (wrap64 (t1 - t0) - 0)) = t1 := by unfold wrap64; omega
theorem step2 (a b c : Int) (h0 : -9223372036854775808 ≤ c) (h1 : c ≤ 9223372036854775807) : wrap64 (wrap64 (b + wrap64 (b - a)) + wrap64 (wrap64 (c - b) - wrap64 (b - a))) = c := by unfold wrap64; omega
theorem u64_back (t : Int) (h0 : -9223372036854775808 ≤ t) (h1 : t ≤ 9223372036854775807) : wrap64 (u64 t : Int) = t := by rw [u64_nat]; unfold wrap64; omega
theorem xor_back (a b : Nat) : b ^^^ (a ^^^ b) = a := by rw [Nat.xor_comm a b, ← Nat.xor_assoc, Nat.xor_self, Nat.zero_xor]

set_option maxHeartbeats 4000000 in
set_option maxRecDepth 100000 in
theorem rdec_at (a : Option Addr) (len cap : Nat) (zs : List Nat) (mm : List Sam) (w : World) (h : Bs w a len zs) (hl : len ≤ 1000000000) (hcap : len ≤ cap) (hcm : cap ≤ maxLen) (hmo : SamsOK mm) (hmc : canS mm = true) (hp : IsPack zs (encS mm)) :
    Calls Tryd.prog 19 #[.slice a len cap] w fun e w' => RAPost w w' mm e := by
  unfold maxLen at hcm
  by_cases h2 : len < 2
  · exfalso
    have h1 := hp.1
    have h3 := encS_len16 mm
    rw [h.1] at h1
    unfold nb at h1
    omega
  · have hlt : ¬ (len : Int) < 2 := by omega
    obtain ⟨i0, hi, hz0, hz1, hz2⟩ := info_parts Tryd.infoSam
    obtain ⟨b, off, rfl, hbw, hc⟩ := h.pos (by omega)
    have hz := h.2.2.1
    have hzl := h.1
    have h2c : (2 : Int) ≤ (cap : Int) := by omega
    have h2l : (2 : Int) ≤ (len : Int) := by omega
    obtain ⟨n, hn⟩ : ∃ n, n = getB 0 (zs.take 2) := ⟨_, rfl⟩
    have hnb : n ≤ 65535 := by
      rw [hn]
      have := getB_lt (zs.take 2) (fun x hx => hz x (List.mem_of_mem_take hx))
      rw [List.length_take, hzl, show min 2 len = 2 from by omega] at this
      omega
    have hsp := (pack_split hz ((canS_iff mm).1 hmc).1 (by omega)).1 hp
    have hnl : mm.length = n := by rw [hn]; exact hsp.1.symm
    have HBODY : Hid (At (zs.drop 2) (8 * (zs.drop 2).length) 0 (bodyTo mm n)) := hidn (by rw [← hnl]; exact (pack_at hsp.2).1)
    have HNL := hidn hnl
    have HZL := hidn hzl
    have HN := hidn hn
    clear hzl hn hsp hnl
    obtain ⟨ra, hra⟩ : ∃ ra, (if cap = 2 then some (⟨b, off, none⟩ : Addr) else some ⟨b, off + 2, none⟩) = ra := ⟨_, rfl⟩
    have hrb : ∀ x, ra = some x → x.block = b := by
      intro x hx
      rw [← hra] at hx
      split at hx <;> (cases hx; rfl)
    have hBr : Bs w ra (len - 2) (zs.drop 2) := by
      obtain ⟨h1, h3, h4, h5, h6⟩ := h
      refine ⟨by rw [List.length_drop, h1], by omega, fun x hx => h4 x (List.mem_of_mem_drop hx), ?_, fun x hx j hj => ?_⟩
      · intro hn; rw [← hra] at hn; split at hn <;> cases hn
      · rw [← hra, if_neg (by omega)] at hx
        cases hx
        rw [add_none, show off + 2 + j = off + (2 + j) from by omega, hc (2 + j) (by omega)]
        simp [List.getD_eq_getElem?_getD, List.getElem?_drop]
    go_enter Tryd.func19, Tryd.ntmps19
    go_wp2_with fail
    refine (refGet_some b off 2 cap (zs.take 2) _ (fun x hx => hz x (List.mem_of_mem_take hx)) (by rw [List.length_take, HZL.out]; omega) (by omega) (by omega) (fun j hj => ?_)).mono ?_
    · rw [hc j (by omega)]
      simp [List.getD_eq_getElem?_getD, hj]
    rintro e w1 ⟨rfl, rfl⟩
    rw [← HN.out]
    have hnw : IntKind.i64.wrap (n : Int) = (n : Int) := i64_nat _ (by omega)
    obtain ⟨m, hm⟩ : ∃ m, m = len - 2 := ⟨_, rfl⟩
    obtain ⟨cm, hcm2⟩ : ∃ cm, cm = cap - 2 := ⟨_, rfl⟩
    rw [← hm] at hBr
    have HM := hidn hm
    have HCM := hidn hcm2
    have HRA := hidn hra
    have hml : m ≤ 1000000000 := by omega
    have hlen2 : (zs.drop 2).length = m := by rw [List.length_drop, HZL.out, HM.out]
    obtain ⟨ys, hys⟩ : ∃ ys, ys = zs.drop 2 := ⟨_, rfl⟩
    rw [← hys] at hBr hlen2 HBODY
    have HYS := hidn hys
    have HL2 := hidn hlen2
    obtain ⟨r, hr⟩ : ∃ r, r = w1.heap.size := ⟨_, rfl⟩
    have hII : II (w1.alloc (.cells #[.slice ra m cm, .int .i64 0, .bool false] 64)) r (ra, cm) ys 0 false := by
      refine ⟨?_, ?_, Nat.zero_le _, by rw [hlen2]; exact hml, fun x hx => by rw [hrb x hx]; omega⟩
      · rw [hr, hlen2]
        exact heap_alloc_new w1 _
      · rw [hlen2]
        exact hBr.below ((Below.refl _ _).alloc (Nat.le_refl _) _)
    have B3 : Below w1.heap.size w1 (w1.alloc (.cells #[.slice ra m cm, .int .i64 0, .bool false] 64)) := (Below.refl _ _).alloc (Nat.le_refl _) _
    have hsz3 : (w1.alloc (.cells #[.slice ra m cm, .int .i64 0, .bool false] 64)).heap.size = r + 1 := by rw [hr]; simp
    have hSb : ∀ x, ra = some x → x.block < r := fun x hx => by rw [hrb x hx]; omega
    have HR := hidn hr
    have HBW := hidn (h.below B3)
    clear hm hcm2 hc hr hlen2 hys hBr
    go_wp2_with fail
    clear hra
    rw [← HM.out, ← HCM.out, ← HR.out]
    generalize hW3 : w1.alloc (.cells #[.slice ra m cm, .int .i64 0, .bool false] 64) = W3 at *
    clear hW3
    go_loopw [7, 27] (fun lv iv wr => ∃ (k : Nat), k ≤ n ∧ iv = .int .i64 (k : Int) ∧ wr.ownsRow (r + 1) 26 2 lv k (vsm (mm.take k)) ∧ II wr r (ra, cm) ys (bodyTo mm k).length false ∧ Kr r W3 wr) (fun _ iv _ => n - (intOf iv).toNat)
    case atStart => exact ⟨0, Nat.zero_le _, rfl, World.ownsRow_nil _ _ _ _, hII, Kr.refl _ _⟩
    case round =>
      obtain ⟨k, hk, rfl, hown, hii, hkr⟩ := hrel
      obtain ⟨la, lc, rfl⟩ := own_slice hown
      obtain ⟨l, hl9⟩ : ∃ l, l = mm.take k := ⟨_, rfl⟩
      obtain ⟨q, hq9⟩ : ∃ q, q = (bodyTo mm k).length := ⟨_, rfl⟩
      obtain ⟨bd, hbd⟩ : ∃ bd, bd = false := ⟨_, rfl⟩
      rw [← hl9] at hown
      rw [← hq9, ← hbd] at hii
      have HL9 := hidn hl9
      have HQ9 := hidn hq9
      have hso : SamsOK l := by
        intro i
        by_cases hik : i < k
        · rw [hl9, samD_take hik]; exact hmo i
        · have : samD l i = ⟨0, 0⟩ := by
            unfold samD
            rw [List.getD_eq_getElem?_getD, List.getElem?_eq_none (by rw [hl9, List.length_take]; omega)]
            rfl
          rw [this]; exact samOK_zero
      have HSA : Hid (∀ i, i < k → samD l i = samD mm i) := hidn (fun i hi => by rw [hl9, samD_take hi])
      have hke : k = l.length := by rw [hl9, List.length_take, HNL.out]; omega
      have HAT1 : Hid (k < n → At ys (8 * ys.length) q (encOne mm k)) := hidn (fun hkn => by
        have h9 := at_body_le (k := k + 1) HBODY.out (by omega)
        have e9 : bodyTo mm (k + 1) = bodyTo mm k ++ encOne mm k := rfl
        rw [e9] at h9
        have := (at_app.1 h9).2
        rw [Nat.zero_add, ← hq9] at this
        exact this)
      have HPLACE : Hid ((bodyTo mm (k + 1)).length = q + (encOne mm k).length) := hidn (by
        have e9 : bodyTo mm (k + 1) = bodyTo mm k ++ encOne mm k := rfl
        rw [e9, List.length_append, hq9])
      obtain ⟨tk, htk⟩ : ∃ tk, tk = (samD mm k).t := ⟨_, rfl⟩
      obtain ⟨vk, hvk⟩ : ∃ vk, vk = (samD mm k).v := ⟨_, rfl⟩
      have tkr : -9223372036854775808 ≤ tk ∧ tk ≤ 9223372036854775807 := by rw [htk]; exact ⟨(hmo k).1, (hmo k).2.1⟩
      have vkl : vk < 18446744073709551616 := by rw [hvk]; exact (hmo k).2.2
      have HSK : Hid ((⟨tk, vk⟩ : Sam) = samD mm k) := hidn (by rw [htk, hvk])
      have HTK := hidn htk
      have HVK := hidn hvk
      subst hbd
      clear hl9 hq9 htk hvk
      have HK := hidn hke
      have hsz := hkr.2.2.2.1
      rw [hsz3] at hsz
      by_cases hlt2 : k < n
      · have hkn : (k : Int) < (n : Int) := by omega
        obtain ⟨sp, hsp⟩ : ∃ sp, sp = wr.heap.size := ⟨_, rfl⟩
        have hD : DJ W3 (wr.alloc (.cells #[.int .i64 0, .int .u64 0] 26)) r sp (ra, cm) ys (.slice la k lc) l q false 0 0 := by
          refine ⟨hii.below ((Below.refl _ _).alloc (Nat.le_refl _) _), by rw [hsp]; exact heap_alloc_new wr _, by rw [← hke]; exact hown.alloc _, hkr.trans (Kr.of_below ((Below.refl _ _).alloc (Nat.le_refl _) _)), hsz3, by omega, fun h => ?_, hSb⟩
          have := (hown.lt _ h).2
          omega
        have HSP := hidn hsp
        clear hsp hown hii hkr hke
        by_cases hk0 : k = 0
        · have hkz : ((k : Int) == 0) = true := by simp; omega
          have hA := HAT1.out hlt2
          have eA : encOne mm k = lowBits (Go.Proofs.YtljkidbdlhllcaaDoor.u64 tk) 64 ++ lowBits vk 64 := by rw [HTK.out, HVK.out, hk0]; rfl
          have HPL : Hid ((bodyTo mm (k + 1)).length = q + 64 + 64) := hidn (by rw [HPLACE.out, eA, List.length_append, lowBits_length, lowBits_length])
          rw [eA] at hA
          obtain ⟨A1, A2⟩ := at_app.1 hA
          rw [lowBits_length] at A2
          clear hk0 hA eA
          go_wp2_with fail
          rw [← HSP.out]
          generalize hW4 : wr.alloc (.cells #[.int .i64 0, .int .u64 0] 26) = W4 at *
          refine (itake_any r ys q 64 false _ hD.1 (by omega)).mono ?_
          rintro e w2 ⟨x2, q2, b2, rfl, hx2, i2, k2, hal⟩
          obtain ⟨hx2e, rfl, rfl⟩ := it_of A1 (u64_lt _) hal
          obtain ⟨n2, hn1, hn2, hn3, hn4⟩ := i64_of_u64 x2 hx2
          have hn5 : n2 = tk := by rw [← hn2, hx2e]; exact u64_back tk tkr.1 tkr.2
          subst hn5
          clear hx2e hal A1
          have hD2 := hD.kr i2 k2
          have hD3 := hD2.set.1 n2
          have c2 : w2.cell? ⟨sp, 0, none⟩ = some (.int .i64 0) := cell_of_row _ _ _ _ _ _ hD2.2.1
          have f2 : w2.frozen? ⟨sp, 0, none⟩ = false := unfrozen_of_block hD2.2.1 _
          clear hD hD2 i2 k2 hx2 hW4
          go_wp2_with fail
          generalize w2.setCell ⟨sp, 0, none⟩ (.int .i64 n2) = W5 at *
          refine (itake_any r ys (q + 64) 64 false _ hD3.1 (by omega)).mono ?_
          rintro e w6 ⟨x6, q6, b6, rfl, hx6, i6, k6, hal⟩
          obtain ⟨hx6e, rfl, rfl⟩ := it_of A2 vkl hal
          subst hx6e
          clear hal A2
          have hx6' : x6 < 18446744073709551616 := hx6
          have hD6 := hD3.kr i6 k6
          have hD7 := hD6.set.2 (x6 : Int)
          have c6 : w6.cell? ⟨sp, 1, none⟩ = some (.int .u64 0) := cell_of_row _ _ _ _ _ _ hD6.2.1
          have f6 : w6.frozen? ⟨sp, 1, none⟩ = false := unfrozen_of_block hD6.2.1 _
          clear hD3 hD6 i6 k6 hx6
          generalize hW7 : w6.setCell ⟨sp, 1, none⟩ (.int .u64 (x6 : Int)) = W7 at *
          have hown8 := hD7.2.2.1
          have hii8 := hD7.1
          have hkr8 := hD7.2.2.2.1
          rw [← HK.out] at hown8
          have x0 : W7.cell? ⟨sp, 0, none⟩ = some (.int .i64 n2) := cell_of_row _ _ _ _ _ _ hD7.2.1
          have x1 : W7.cell? ⟨sp, 1, none⟩ = some (.int .u64 (x6 : Int)) := cell_of_row _ _ _ _ _ _ hD7.2.1
          have xb : W7.cell? ⟨r, 2, none⟩ = some (.bool false) := cell_of_row _ _ _ _ _ _ hii8.1
          have hs8 := hkr8.2.2.2.1
          rw [hsz3] at hs8
          clear hD7
          go_wp2_with (at_builtin; refine wpList_append_own _ rfl _ _ 22 rfl (r + 1) 26 i0 (.agg #[.int .i64 0, .int .u64 0]) 2 16 Tryd.underlying22 hi hz0 hz1 hz2 rfl (by decide) _ _ _ rfl (hown8.alloc _) ⟨W7.heap.size, 0, none⟩ 1 1 [.int .i64 n2, .int .u64 (x6 : Int)] rfl rfl ?c1 ?c2 ?c3 ?c4 ?c5 ?_)
          case c1 =>
            intro j u hj
            match j, hj with
            | 0, hj => simp at hj; subst hj; simp [Addr.add]
            | 1, hj => simp at hj; subst hj; simp [Addr.add]
          case c2 => intro u hu; simp at hu; rcases hu with rfl | rfl <;> rfl
          case c3 => unfold maxLen; omega
          case c4 => omega
          case c5 => simp; omega
          intro v9 W9 hown9 hgrow9 _
          have hb9 : Below (r + 1) W7 W9 := ((Below.refl (r + 1) W7).alloc hs8 _).grown hgrow9 (by simp; omega) (fun k hk => (hown8.lt k hk).1)
          have HF : Hid (W9.ownsRow (r + 1) 26 2 v9 (k + 1) (vsm (mm.take (k + 1))) ∧ II W9 r (ra, cm) ys (bodyTo mm (k + 1)).length false ∧ Kr r W3 W9) := hidn ⟨by
              rw [← take_snoc (by rw [HNL.out]; exact hlt2) HSK.out, ← HL9.out, vsm_app]
              exact hown9, by rw [HPL.out]; exact ii_belowB hii8 (by omega) (fun x hx => by have := hSb x hx; omega) hb9, hkr8.thenBelow (by rw [hsz3]; exact hb9)⟩
          clear hown8 hown9 hgrow9 hii8 hkr8 hb9
          go_wp2_with fail
          go_roundw
          case rel => exact ⟨k + 1, by omega, by go_num, HF.out.1, HF.out.2.1, HF.out.2.2⟩
          case measure => simp [intOf]; omega
        · have hkz : ((k : Int) == 0) = false := by simp; omega
          obtain ⟨j, hj⟩ : ∃ j, k = j + 1 := ⟨k - 1, by omega⟩
          have hji : (k : Int) - 1 = (j : Int) := by omega
          have hjl : j < l.length := by rw [← HK.out]; omega
          have hjk : (j : Int) < (k : Int) := by omega
          obtain ⟨g, rfl⟩ : ∃ g, la = some ⟨g, 0, none⟩ := by
            rcases hD.2.2.1.2 with ⟨h1, h2⟩ | ⟨g, c', cur, h1, _⟩
            · rw [← HK.out] at h2; omega
            · injection h1 with h1 _ _; exact ⟨g, h1⟩
          obtain ⟨tj, htj⟩ : ∃ tj, tj = (samD l j).t := ⟨_, rfl⟩
          obtain ⟨vj, hvj⟩ : ∃ vj, vj = (samD l j).v := ⟨_, rfl⟩
          have hvjl : vj < 18446744073709551616 := by rw [hvj]; exact (hso j).2.2
          have HAT : Hid (∀ w' q b t v, DJ W3 w' r sp (ra, cm) ys (.slice (some ⟨g, 0, none⟩) k lc) l q b t v → w'.cell? ⟨g, j * 2, none⟩ = some (.int .i64 tj) ∧ w'.cell? ⟨g, j * 2 + 1, none⟩ = some (.int .u64 (vj : Int))) := hidn (fun w' q b t v hd => by rw [htj, hvj]; exact hd.at hjl)
          have HTJ : Hid (tj = (samD mm j).t) := hidn (by rw [htj, HSA.out j (by omega)])
          have HVJ : Hid (vj = (samD mm j).v) := hidn (by rw [hvj, HSA.out j (by omega)])
          clear hk0 htj hvj
          by_cases hk1 : k = 1
          · have hkz1 : ((k : Int) == 1) = true := by simp; omega
            have hk0i : (0 : Int) < (k : Int) := by omega
            have hj0 : j = 0 := by omega
            subst hj0
            have HK1 := hidn hk1
            have HENC : Hid (∀ dd xx, dd = wrap64 (wrap64 (tk - tj) - 0) → xx = vk ^^^ vj → encOne mm k = intBits dd ++ turned xx) := hidn (fun dd xx h1 h2 => by rw [h1, h2, HTK.out, HTJ.out, HVK.out, HVJ.out, hk1]; rfl)
            clear hk1 hj hji
            obtain ⟨dd, hdd⟩ : ∃ dd, dd = wrap64 (wrap64 (tk - tj) - 0) := ⟨_, rfl⟩
            obtain ⟨xx, hxx⟩ : ∃ xx, xx = vk ^^^ vj := ⟨_, rfl⟩
            have eA : encOne mm k = intBits dd ++ turned xx := HENC.out dd xx hdd hxx
            have hA := HAT1.out hlt2
            rw [eA] at hA
            obtain ⟨A1, A2⟩ := at_app.1 hA
            have HPL : Hid ((bodyTo mm (k + 1)).length = q + (intBits dd).length + (turned xx).length) := hidn (by rw [HPLACE.out, eA, List.length_append]; omega)
            have ddr : -9223372036854775808 ≤ dd ∧ dd ≤ 9223372036854775807 := by rw [hdd]; exact wrap64_rng _
            have hxl : xx < 18446744073709551616 := by rw [hxx]; exact Nat.xor_lt_two_pow (n := 64) vkl hvjl
            have hxor : bits BinOp.xor IntKind.u64 (vj : Int) (xx : Int) = (vk : Int) := by rw [bits_xor_u .u64 rfl _ _ hvjl hxl, hxx, xor_back]
            have HTN : Hid (wrap64 (tj + dd) = tk) := hidn (by rw [hdd]; exact step1 tj tk tkr.1 tkr.2)
            clear hdd hxx eA hA
            go_wp2_with fail
            rw [← HSP.out]
            have hDe := hD.drew
            generalize hW4 : (wr.alloc (.cells #[.int .i64 0, .int .u64 0] 26)).drew = We at *
            clear hD
            refine wp_region_noPanic ?_
            refine wp_region_held_drew (S := fun w' => w'.cell? ⟨g, 0, none⟩ = some (.int .i64 tj)) (by kernel_rfl) (by rw [hW4]; exact (HAT.out _ _ _ _ _ hDe).1) (fun hHeld => ?_)
            rw [hW4] at hHeld ⊢
            refine drawn_take (i := 0) (v := .slice (some ⟨g, 0, none⟩) k lc) (some 77) rfl rfl (by kernel_rfl) (by kernel_rfl) (by kernel_rfl) (fun _ _ _ h => h) (Or.inl ⟨by kernel_rfl, fun wq hw => by go_simp⟩) hHeld ?_
            simp only [Act.put, List.setIfInBounds_toArray, List.set_cons_succ, List.set_cons_zero]
            refine drawn_take (i := 1) (v := .pointer (some ⟨g, 0, none⟩)) (some 78) rfl rfl (by kernel_rfl) (by kernel_rfl) (by kernel_rfl) (fun _ _ _ h => h) (Or.inl ⟨by kernel_rfl, fun wq hw => by go_simp; intro h9; omega⟩) hHeld ?_
            simp only [Act.put, List.setIfInBounds_toArray, List.set_cons_succ, List.set_cons_zero]
            refine drawn_take (i := 2) (v := .pointer (some ⟨g, 0, none⟩)) (some 79) rfl rfl (by kernel_rfl) (by kernel_rfl) (by kernel_rfl) (fun _ _ _ h => h) (Or.inl ⟨by kernel_rfl, fun wq hw => by go_simp⟩) hHeld ?_
            simp only [Act.put, List.setIfInBounds_toArray, List.set_cons_succ, List.set_cons_zero]
            refine drawn_take (i := 3) (v := .int .i64 tj) (some 80) rfl rfl (by kernel_rfl) (by kernel_rfl) (by kernel_rfl) (fun _ _ _ h => h) (Or.inl ⟨by kernel_rfl, fun wq hw => by have q9 := hw; go_simp⟩) hHeld ?_
            simp only [Act.put, List.setIfInBounds_toArray, List.set_cons_succ, List.set_cons_zero]
            refine drawn_take (i := 4) (v := .pointer (some ⟨r, 0, none⟩)) (some 81) rfl rfl (by kernel_rfl) (by kernel_rfl) (by kernel_rfl) (fun _ _ _ h => h) (Or.inl ⟨by kernel_rfl, fun wq hw => by go_simp⟩) hHeld ?_
            simp only [Act.put, List.setIfInBounds_toArray, List.set_cons_succ, List.set_cons_zero]
            refine wpAnyH_ready (rs := [5]) (by kernel_rfl) (by simp) ?_
            refine rdy_call (i := 5) rfl rfl (some 82) rfl 36 #[.pointer (some ⟨r, 0, none⟩)] (rd_iint (x0 := 81) (ts := #[62]) (by kernel_rfl) (by kernel_rfl)) (fun v w' => v = .int .i64 dd ∧ II w' r (ra, cm) ys (q + (intBits dd).length) false ∧ Kr r We w') ((iint_at r ys q false dd _ hDe.1 ddr.1 ddr.2 A1).mono fun e w' h => ⟨_, h.1, rfl, h.2⟩) (fun r w9 hR => ?_) rdy_nil
            obtain ⟨rfl, i2, k2⟩ := hR
            have hD2 := hDe.kr i2 k2
            refine ⟨(HAT.out _ _ _ _ _ hD2).1, fun hHeld => ?_⟩
            simp only [Act.put, List.setIfInBounds_toArray, List.set_cons_succ, List.set_cons_zero]
            refine drawn_take (i := 6) (v := .int .i64 (wrap64 (tj + dd))) (some 83) rfl rfl (by kernel_rfl) (by kernel_rfl) (by kernel_rfl) (fun _ _ _ h => h) (Or.inl ⟨by kernel_rfl, fun wq hw => by go_simp; exact i64_w64 _⟩) hHeld ?_
            simp only [Act.put, List.setIfInBounds_toArray, List.set_cons_succ, List.set_cons_zero]
            rw [HTN.out]
            refine drawn_take (i := 7) (v := .pointer (some ⟨sp, 0, none⟩)) (some 84) rfl rfl (by kernel_rfl) (by kernel_rfl) (by kernel_rfl) (fun _ _ _ h => h) (Or.inl ⟨by kernel_rfl, fun wq hw => by go_simp⟩) hHeld ?_
            simp only [Act.put, List.setIfInBounds_toArray, List.set_cons_succ, List.set_cons_zero]
            have c2 : w9.cell? ⟨sp, 0, none⟩ = some (.int .i64 0) := cell_of_row _ _ _ _ _ _ hD2.2.1
            have f2 : w9.frozen? ⟨sp, 0, none⟩ = false := unfrozen_of_block hD2.2.1 _
            have hD3 := hD2.set.1 tk
            refine wpAnyH_ready (rs := [8]) (by kernel_rfl) (by simp) ?_
            refine rdy_unit (i := 8) rfl rfl none rfl (w9.setCell ⟨sp, 0, none⟩ (.int .i64 tk)) (by go_simp) ((HAT.out _ _ _ _ _ hD3).1) (fun hHeld => ?_) rdy_nil
            simp only [Act.put]
            refine wpAnyH_done (by kernel_rfl) ?_ _
            refine NoPanic.normal ?_
            clear hHeld
            clear c2 f2 hD2 i2 k2 hDe hW4
            generalize w9.setCell ⟨sp, 0, none⟩ (.int .i64 tk) = W5 at *
            go_wp2_with fail
            have hDf := hD3.drew
            generalize hW6 : W5.drew = Wf at *
            clear hD3
            refine wp_region_noPanic ?_
            refine wp_region_held_drew (S := fun w' => w'.cell? ⟨g, 1, none⟩ = some (.int .u64 (vj : Int))) (by kernel_rfl) (by rw [hW6]; exact (HAT.out _ _ _ _ _ hDf).2) (fun hHeld => ?_)
            rw [hW6] at hHeld ⊢
            refine drawn_take (i := 0) (v := .slice (some ⟨g, 0, none⟩) k lc) (some 85) rfl rfl (by kernel_rfl) (by kernel_rfl) (by kernel_rfl) (fun _ _ _ h => h) (Or.inl ⟨by kernel_rfl, fun wq hw => by go_simp⟩) hHeld ?_
            simp only [Act.put, List.setIfInBounds_toArray, List.set_cons_succ, List.set_cons_zero]
            refine drawn_take (i := 1) (v := .pointer (some ⟨g, 0, none⟩)) (some 86) rfl rfl (by kernel_rfl) (by kernel_rfl) (by kernel_rfl) (fun _ _ _ h => h) (Or.inl ⟨by kernel_rfl, fun wq hw => by go_simp; intro h9; omega⟩) hHeld ?_
            simp only [Act.put, List.setIfInBounds_toArray, List.set_cons_succ, List.set_cons_zero]
            refine drawn_take (i := 2) (v := .pointer (some ⟨g, 1, none⟩)) (some 87) rfl rfl (by kernel_rfl) (by kernel_rfl) (by kernel_rfl) (fun _ _ _ h => h) (Or.inl ⟨by kernel_rfl, fun wq hw => by go_simp⟩) hHeld ?_
            simp only [Act.put, List.setIfInBounds_toArray, List.set_cons_succ, List.set_cons_zero]
            refine drawn_take (i := 3) (v := .int .u64 (vj : Int)) (some 88) rfl rfl (by kernel_rfl) (by kernel_rfl) (by kernel_rfl) (fun _ _ _ h => h) (Or.inl ⟨by kernel_rfl, fun wq hw => by have q9 := hw; go_simp⟩) hHeld ?_
            simp only [Act.put, List.setIfInBounds_toArray, List.set_cons_succ, List.set_cons_zero]
            refine drawn_take (i := 4) (v := .pointer (some ⟨r, 0, none⟩)) (some 89) rfl rfl (by kernel_rfl) (by kernel_rfl) (by kernel_rfl) (fun _ _ _ h => h) (Or.inl ⟨by kernel_rfl, fun wq hw => by go_simp⟩) hHeld ?_
            simp only [Act.put, List.setIfInBounds_toArray, List.set_cons_succ, List.set_cons_zero]
            refine wpAnyH_ready (rs := [5]) (by kernel_rfl) (by simp) ?_
            refine rdy_call (i := 5) rfl rfl (some 90) rfl 37 #[.pointer (some ⟨r, 0, none⟩)] (rd_ixor (x0 := 89) (ts := #[62]) (by kernel_rfl) (by kernel_rfl)) (fun v w' => v = .int .u64 (xx : Int) ∧ II w' r (ra, cm) ys (q + (intBits dd).length + (turned xx).length) false ∧ Kr r Wf w') ((ixor_at r ys (q + (intBits dd).length) false xx _ hDf.1 hxl A2).mono fun e w' h => ⟨_, h.1, rfl, h.2⟩) (fun r w9 hR => ?_) rdy_nil
            obtain ⟨rfl, i6, k6⟩ := hR
            have hD6 := hDf.kr i6 k6
            refine ⟨(HAT.out _ _ _ _ _ hD6).2, fun hHeld => ?_⟩
            simp only [Act.put, List.setIfInBounds_toArray, List.set_cons_succ, List.set_cons_zero]
            refine drawn_take (i := 6) (v := .int .u64 (vk : Int)) (some 91) rfl rfl (by kernel_rfl) (by kernel_rfl) (by kernel_rfl) (fun _ _ _ h => h) (Or.inl ⟨by kernel_rfl, fun wq hw => by go_simp⟩) hHeld ?_
            simp only [Act.put, List.setIfInBounds_toArray, List.set_cons_succ, List.set_cons_zero]
            refine drawn_take (i := 7) (v := .pointer (some ⟨sp, 1, none⟩)) (some 92) rfl rfl (by kernel_rfl) (by kernel_rfl) (by kernel_rfl) (fun _ _ _ h => h) (Or.inl ⟨by kernel_rfl, fun wq hw => by go_simp⟩) hHeld ?_
            simp only [Act.put, List.setIfInBounds_toArray, List.set_cons_succ, List.set_cons_zero]
            have c6 : w9.cell? ⟨sp, 1, none⟩ = some (.int .u64 0) := cell_of_row _ _ _ _ _ _ hD6.2.1
            have f6 : w9.frozen? ⟨sp, 1, none⟩ = false := unfrozen_of_block hD6.2.1 _
            have hD7 := hD6.set.2 (vk : Int)
            refine wpAnyH_ready (rs := [8]) (by kernel_rfl) (by simp) ?_
            refine rdy_unit (i := 8) rfl rfl none rfl (w9.setCell ⟨sp, 1, none⟩ (.int .u64 (vk : Int))) (by go_simp) ((HAT.out _ _ _ _ _ hD7).2) (fun hHeld => ?_) rdy_nil
            simp only [Act.put]
            refine wpAnyH_done (by kernel_rfl) ?_ _
            refine NoPanic.normal ?_
            clear hHeld
            clear c6 f6 hD6 i6 k6 hDf hW6 hxor
            generalize w9.setCell ⟨sp, 1, none⟩ (.int .u64 (vk : Int)) = W7 at *
            have hown8 := hD7.2.2.1
            have hii8 := hD7.1
            have hkr8 := hD7.2.2.2.1
            rw [← HK.out] at hown8
            have x0 : W7.cell? ⟨sp, 0, none⟩ = some (.int .i64 tk) := cell_of_row _ _ _ _ _ _ hD7.2.1
            have x1 : W7.cell? ⟨sp, 1, none⟩ = some (.int .u64 (vk : Int)) := cell_of_row _ _ _ _ _ _ hD7.2.1
            have xb : W7.cell? ⟨r, 2, none⟩ = some (.bool false) := cell_of_row _ _ _ _ _ _ hii8.1
            have hs8 := hkr8.2.2.2.1
            rw [hsz3] at hs8
            clear hD7
            go_wp2_with (at_builtin; refine wpList_append_own _ rfl _ _ 22 rfl (r + 1) 26 i0 (.agg #[.int .i64 0, .int .u64 0]) 2 16 Tryd.underlying22 hi hz0 hz1 hz2 rfl (by decide) _ _ _ rfl (hown8.alloc _) ⟨W7.heap.size, 0, none⟩ 1 1 [.int .i64 tk, .int .u64 (vk : Int)] rfl rfl ?c1 ?c2 ?c3 ?c4 ?c5 ?_)
            case c1 =>
              intro j u hj
              match j, hj with
              | 0, hj => simp at hj; subst hj; simp [Addr.add]
              | 1, hj => simp at hj; subst hj; simp [Addr.add]
            case c2 => intro u hu; simp at hu; rcases hu with rfl | rfl <;> rfl
            case c3 => unfold maxLen; omega
            case c4 => omega
            case c5 => simp; omega
            intro v9 W9 hown9 hgrow9 _
            have hb9 : Below (r + 1) W7 W9 := ((Below.refl (r + 1) W7).alloc hs8 _).grown hgrow9 (by simp; omega) (fun k hk => (hown8.lt k hk).1)
            have HF : Hid (W9.ownsRow (r + 1) 26 2 v9 (k + 1) (vsm (mm.take (k + 1))) ∧ II W9 r (ra, cm) ys (bodyTo mm (k + 1)).length false ∧ Kr r W3 W9) := hidn ⟨by
                rw [← take_snoc (by rw [HNL.out]; exact hlt2) HSK.out, ← HL9.out, vsm_app]
                exact hown9, by rw [HPL.out]; exact ii_belowB hii8 (by omega) (fun x hx => by have := hSb x hx; omega) hb9, hkr8.thenBelow (by rw [hsz3]; exact hb9)⟩
            clear hown8 hown9 hgrow9 hii8 hkr8 hb9
            go_wp2_with fail
            go_roundw
            case rel => exact ⟨k + 1, by omega, by go_num, HF.out.1, HF.out.2.1, HF.out.2.2⟩
            case measure => simp [intOf]; omega
          · have hkz1 : ((k : Int) == 1) = false := by simp; omega
            obtain ⟨i, hij⟩ : ∃ i, j = i + 1 := ⟨j - 1, by omega⟩
            have hii2 : (k : Int) - 2 = (i : Int) := by omega
            have hik : (i : Int) < (k : Int) := by omega
            obtain ⟨ti, hti⟩ : ∃ ti, ti = (samD l i).t := ⟨_, rfl⟩
            have HAI : Hid (∀ w' q b t v, DJ W3 w' r sp (ra, cm) ys (.slice (some ⟨g, 0, none⟩) k lc) l q b t v → w'.cell? ⟨g, i * 2, none⟩ = some (.int .i64 ti)) := hidn (fun w' q b t v hd => by rw [hti]; exact (hd.at (by omega)).1)
            have HENC : Hid (∀ dd xx, dd = wrap64 (wrap64 (tk - tj) - wrap64 (tj - ti)) → xx = vk ^^^ vj → encOne mm k = intBits dd ++ turned xx) := hidn (fun dd xx h1 h2 => by rw [h1, h2, HTK.out, HTJ.out, HVK.out, HVJ.out, hti, HSA.out i (by omega), hj, hij]; rfl)
            clear hk1 hj hij hti
            obtain ⟨dd, hdd⟩ : ∃ dd, dd = wrap64 (wrap64 (tk - tj) - wrap64 (tj - ti)) := ⟨_, rfl⟩
            obtain ⟨xx, hxx⟩ : ∃ xx, xx = vk ^^^ vj := ⟨_, rfl⟩
            have eA : encOne mm k = intBits dd ++ turned xx := HENC.out dd xx hdd hxx
            have hA := HAT1.out hlt2
            rw [eA] at hA
            obtain ⟨A1, A2⟩ := at_app.1 hA
            have HPL : Hid ((bodyTo mm (k + 1)).length = q + (intBits dd).length + (turned xx).length) := hidn (by rw [HPLACE.out, eA, List.length_append]; omega)
            have ddr : -9223372036854775808 ≤ dd ∧ dd ≤ 9223372036854775807 := by rw [hdd]; exact wrap64_rng _
            have hxl : xx < 18446744073709551616 := by rw [hxx]; exact Nat.xor_lt_two_pow (n := 64) vkl hvjl
            have hxor : bits BinOp.xor IntKind.u64 (vj : Int) (xx : Int) = (vk : Int) := by rw [bits_xor_u .u64 rfl _ _ hvjl hxl, hxx, xor_back]
            have HTN : Hid (wrap64 (wrap64 (tj + wrap64 (tj - ti)) + dd) = tk) := hidn (by rw [hdd]; exact step2 ti tj tk tkr.1 tkr.2)
            clear hdd hxx eA hA
            go_wp2_with fail
            rw [← HSP.out]
            have hDe := hD.drew
            generalize hW4 : (wr.alloc (.cells #[.int .i64 0, .int .u64 0] 26)).drew = We at *
            clear hD
            refine wp_region_noPanic ?_
            refine wp_region_held_drew (S := fun w' => w'.cell? ⟨g, j * 2, none⟩ = some (.int .i64 tj) ∧ w'.cell? ⟨g, i * 2, none⟩ = some (.int .i64 ti)) (by kernel_rfl) (by rw [hW4]; exact ⟨(HAT.out _ _ _ _ _ hDe).1, HAI.out _ _ _ _ _ hDe⟩) (fun hHeld => ?_)
            rw [hW4] at hHeld ⊢
            refine drawn_take (i := 0) (v := .slice (some ⟨g, 0, none⟩) k lc) (some 32) rfl rfl (by kernel_rfl) (by kernel_rfl) (by kernel_rfl) (fun _ _ _ h => h) (Or.inl ⟨by kernel_rfl, fun wq hw => by go_simp⟩) hHeld ?_
            simp only [Act.put, List.setIfInBounds_toArray, List.set_cons_succ, List.set_cons_zero]
            refine drawn_take (i := 1) (v := .int .i64 (k : Int)) (some 33) rfl rfl (by kernel_rfl) (by kernel_rfl) (by kernel_rfl) (fun _ _ _ h => h) (Or.inl ⟨by kernel_rfl, fun wq hw => by go_simp⟩) hHeld ?_
            simp only [Act.put, List.setIfInBounds_toArray, List.set_cons_succ, List.set_cons_zero]
            refine drawn_take (i := 2) (v := .int .i64 (j : Int)) (some 34) rfl rfl (by kernel_rfl) (by kernel_rfl) (by kernel_rfl) (fun _ _ _ h => h) (Or.inl ⟨by kernel_rfl, fun wq hw => by go_simp; exact i64_nat _ (by omega)⟩) hHeld ?_
            simp only [Act.put, List.setIfInBounds_toArray, List.set_cons_succ, List.set_cons_zero]
            refine drawn_take (i := 3) (v := .pointer (some ⟨g, j * 2, none⟩)) (some 35) rfl rfl (by kernel_rfl) (by kernel_rfl) (by kernel_rfl) (fun _ _ _ h => h) (Or.inl ⟨by kernel_rfl, fun wq hw => by go_simp⟩) hHeld ?_
            simp only [Act.put, List.setIfInBounds_toArray, List.set_cons_succ, List.set_cons_zero]
            refine drawn_take (i := 4) (v := .pointer (some ⟨g, j * 2, none⟩)) (some 36) rfl rfl (by kernel_rfl) (by kernel_rfl) (by kernel_rfl) (fun _ _ _ h => h) (Or.inl ⟨by kernel_rfl, fun wq hw => by go_simp⟩) hHeld ?_
            simp only [Act.put, List.setIfInBounds_toArray, List.set_cons_succ, List.set_cons_zero]
            refine drawn_take (i := 5) (v := .int .i64 tj) (some 37) rfl rfl (by kernel_rfl) (by kernel_rfl) (by kernel_rfl) (fun _ _ _ h => h) (Or.inl ⟨by kernel_rfl, fun wq hw => by have q9 := hw.1; go_simp⟩) hHeld ?_
            simp only [Act.put, List.setIfInBounds_toArray, List.set_cons_succ, List.set_cons_zero]
            refine drawn_take (i := 6) (v := .slice (some ⟨g, 0, none⟩) k lc) (some 38) rfl rfl (by kernel_rfl) (by kernel_rfl) (by kernel_rfl) (fun _ _ _ h => h) (Or.inl ⟨by kernel_rfl, fun wq hw => by go_simp⟩) hHeld ?_
            simp only [Act.put, List.setIfInBounds_toArray, List.set_cons_succ, List.set_cons_zero]
            refine drawn_take (i := 7) (v := .int .i64 (k : Int)) (some 39) rfl rfl (by kernel_rfl) (by kernel_rfl) (by kernel_rfl) (fun _ _ _ h => h) (Or.inl ⟨by kernel_rfl, fun wq hw => by go_simp⟩) hHeld ?_
            simp only [Act.put, List.setIfInBounds_toArray, List.set_cons_succ, List.set_cons_zero]
            refine drawn_take (i := 8) (v := .int .i64 (j : Int)) (some 40) rfl rfl (by kernel_rfl) (by kernel_rfl) (by kernel_rfl) (fun _ _ _ h => h) (Or.inl ⟨by kernel_rfl, fun wq hw => by go_simp; exact i64_nat _ (by omega)⟩) hHeld ?_
            simp only [Act.put, List.setIfInBounds_toArray, List.set_cons_succ, List.set_cons_zero]
            refine drawn_take (i := 9) (v := .pointer (some ⟨g, j * 2, none⟩)) (some 41) rfl rfl (by kernel_rfl) (by kernel_rfl) (by kernel_rfl) (fun _ _ _ h => h) (Or.inl ⟨by kernel_rfl, fun wq hw => by go_simp⟩) hHeld ?_
            simp only [Act.put, List.setIfInBounds_toArray, List.set_cons_succ, List.set_cons_zero]
            refine drawn_take (i := 10) (v := .pointer (some ⟨g, j * 2, none⟩)) (some 42) rfl rfl (by kernel_rfl) (by kernel_rfl) (by kernel_rfl) (fun _ _ _ h => h) (Or.inl ⟨by kernel_rfl, fun wq hw => by go_simp⟩) hHeld ?_
            simp only [Act.put, List.setIfInBounds_toArray, List.set_cons_succ, List.set_cons_zero]
            refine drawn_take (i := 11) (v := .int .i64 tj) (some 43) rfl rfl (by kernel_rfl) (by kernel_rfl) (by kernel_rfl) (fun _ _ _ h => h) (Or.inl ⟨by kernel_rfl, fun wq hw => by have q9 := hw.1; go_simp⟩) hHeld ?_
            simp only [Act.put, List.setIfInBounds_toArray, List.set_cons_succ, List.set_cons_zero]
            refine drawn_take (i := 12) (v := .slice (some ⟨g, 0, none⟩) k lc) (some 44) rfl rfl (by kernel_rfl) (by kernel_rfl) (by kernel_rfl) (fun _ _ _ h => h) (Or.inl ⟨by kernel_rfl, fun wq hw => by go_simp⟩) hHeld ?_
            simp only [Act.put, List.setIfInBounds_toArray, List.set_cons_succ, List.set_cons_zero]
            refine drawn_take (i := 13) (v := .int .i64 (k : Int)) (some 45) rfl rfl (by kernel_rfl) (by kernel_rfl) (by kernel_rfl) (fun _ _ _ h => h) (Or.inl ⟨by kernel_rfl, fun wq hw => by go_simp⟩) hHeld ?_
            simp only [Act.put, List.setIfInBounds_toArray, List.set_cons_succ, List.set_cons_zero]
            refine drawn_take (i := 14) (v := .int .i64 (i : Int)) (some 46) rfl rfl (by kernel_rfl) (by kernel_rfl) (by kernel_rfl) (fun _ _ _ h => h) (Or.inl ⟨by kernel_rfl, fun wq hw => by go_simp; exact i64_nat _ (by omega)⟩) hHeld ?_
            simp only [Act.put, List.setIfInBounds_toArray, List.set_cons_succ, List.set_cons_zero]
            refine drawn_take (i := 15) (v := .pointer (some ⟨g, i * 2, none⟩)) (some 47) rfl rfl (by kernel_rfl) (by kernel_rfl) (by kernel_rfl) (fun _ _ _ h => h) (Or.inl ⟨by kernel_rfl, fun wq hw => by go_simp⟩) hHeld ?_
            simp only [Act.put, List.setIfInBounds_toArray, List.set_cons_succ, List.set_cons_zero]
            refine drawn_take (i := 16) (v := .pointer (some ⟨g, i * 2, none⟩)) (some 48) rfl rfl (by kernel_rfl) (by kernel_rfl) (by kernel_rfl) (fun _ _ _ h => h) (Or.inl ⟨by kernel_rfl, fun wq hw => by go_simp⟩) hHeld ?_
            simp only [Act.put, List.setIfInBounds_toArray, List.set_cons_succ, List.set_cons_zero]
            refine drawn_take (i := 17) (v := .int .i64 ti) (some 49) rfl rfl (by kernel_rfl) (by kernel_rfl) (by kernel_rfl) (fun _ _ _ h => h) (Or.inl ⟨by kernel_rfl, fun wq hw => by have q9 := hw.2; go_simp⟩) hHeld ?_
            simp only [Act.put, List.setIfInBounds_toArray, List.set_cons_succ, List.set_cons_zero]
            refine drawn_take (i := 18) (v := .int .i64 (wrap64 (tj - ti))) (some 50) rfl rfl (by kernel_rfl) (by kernel_rfl) (by kernel_rfl) (fun _ _ _ h => h) (Or.inl ⟨by kernel_rfl, fun wq hw => by go_simp; exact i64_w64 _⟩) hHeld ?_
            simp only [Act.put, List.setIfInBounds_toArray, List.set_cons_succ, List.set_cons_zero]
            refine drawn_take (i := 19) (v := .int .i64 (wrap64 (tj + wrap64 (tj - ti)))) (some 51) rfl rfl (by kernel_rfl) (by kernel_rfl) (by kernel_rfl) (fun _ _ _ h => h) (Or.inl ⟨by kernel_rfl, fun wq hw => by go_simp; exact i64_w64 _⟩) hHeld ?_
            simp only [Act.put, List.setIfInBounds_toArray, List.set_cons_succ, List.set_cons_zero]
            refine drawn_take (i := 20) (v := .pointer (some ⟨r, 0, none⟩)) (some 52) rfl rfl (by kernel_rfl) (by kernel_rfl) (by kernel_rfl) (fun _ _ _ h => h) (Or.inl ⟨by kernel_rfl, fun wq hw => by go_simp⟩) hHeld ?_
            simp only [Act.put, List.setIfInBounds_toArray, List.set_cons_succ, List.set_cons_zero]
            refine wpAnyH_ready (rs := [21]) (by kernel_rfl) (by simp) ?_
            refine rdy_call (i := 21) rfl rfl (some 53) rfl 36 #[.pointer (some ⟨r, 0, none⟩)] (rd_iint (x0 := 52) (ts := #[62]) (by kernel_rfl) (by kernel_rfl)) (fun v w' => v = .int .i64 dd ∧ II w' r (ra, cm) ys (q + (intBits dd).length) false ∧ Kr r We w') ((iint_at r ys q false dd _ hDe.1 ddr.1 ddr.2 A1).mono fun e w' h => ⟨_, h.1, rfl, h.2⟩) (fun r w9 hR => ?_) rdy_nil
            obtain ⟨rfl, i2, k2⟩ := hR
            have hD2 := hDe.kr i2 k2
            refine ⟨⟨(HAT.out _ _ _ _ _ hD2).1, HAI.out _ _ _ _ _ hD2⟩, fun hHeld => ?_⟩
            simp only [Act.put, List.setIfInBounds_toArray, List.set_cons_succ, List.set_cons_zero]
            refine drawn_take (i := 22) (v := .int .i64 (wrap64 (wrap64 (tj + wrap64 (tj - ti)) + dd))) (some 54) rfl rfl (by kernel_rfl) (by kernel_rfl) (by kernel_rfl) (fun _ _ _ h => h) (Or.inl ⟨by kernel_rfl, fun wq hw => by go_simp; exact i64_w64 _⟩) hHeld ?_
            simp only [Act.put, List.setIfInBounds_toArray, List.set_cons_succ, List.set_cons_zero]
            rw [HTN.out]
            refine drawn_take (i := 23) (v := .pointer (some ⟨sp, 0, none⟩)) (some 55) rfl rfl (by kernel_rfl) (by kernel_rfl) (by kernel_rfl) (fun _ _ _ h => h) (Or.inl ⟨by kernel_rfl, fun wq hw => by go_simp⟩) hHeld ?_
            simp only [Act.put, List.setIfInBounds_toArray, List.set_cons_succ, List.set_cons_zero]
            have c2 : w9.cell? ⟨sp, 0, none⟩ = some (.int .i64 0) := cell_of_row _ _ _ _ _ _ hD2.2.1
            have f2 : w9.frozen? ⟨sp, 0, none⟩ = false := unfrozen_of_block hD2.2.1 _
            have hD3 := hD2.set.1 tk
            refine wpAnyH_ready (rs := [24]) (by kernel_rfl) (by simp) ?_
            refine rdy_unit (i := 24) rfl rfl none rfl (w9.setCell ⟨sp, 0, none⟩ (.int .i64 tk)) (by go_simp) (⟨(HAT.out _ _ _ _ _ hD3).1, HAI.out _ _ _ _ _ hD3⟩) (fun hHeld => ?_) rdy_nil
            simp only [Act.put]
            refine wpAnyH_done (by kernel_rfl) ?_ _
            refine NoPanic.normal ?_
            clear hHeld
            clear c2 f2 hD2 i2 k2 hDe hW4
            generalize w9.setCell ⟨sp, 0, none⟩ (.int .i64 tk) = W5 at *
            go_wp2_with fail
            have hDf := hD3.drew
            generalize hW6 : W5.drew = Wf at *
            clear hD3
            refine wp_region_noPanic ?_
            refine wp_region_held_drew (S := fun w' => w'.cell? ⟨g, j * 2 + 1, none⟩ = some (.int .u64 (vj : Int))) (by kernel_rfl) (by rw [hW6]; exact (HAT.out _ _ _ _ _ hDf).2) (fun hHeld => ?_)
            rw [hW6] at hHeld ⊢
            refine drawn_take (i := 0) (v := .slice (some ⟨g, 0, none⟩) k lc) (some 56) rfl rfl (by kernel_rfl) (by kernel_rfl) (by kernel_rfl) (fun _ _ _ h => h) (Or.inl ⟨by kernel_rfl, fun wq hw => by go_simp⟩) hHeld ?_
            simp only [Act.put, List.setIfInBounds_toArray, List.set_cons_succ, List.set_cons_zero]
            refine drawn_take (i := 1) (v := .int .i64 (k : Int)) (some 57) rfl rfl (by kernel_rfl) (by kernel_rfl) (by kernel_rfl) (fun _ _ _ h => h) (Or.inl ⟨by kernel_rfl, fun wq hw => by go_simp⟩) hHeld ?_
            simp only [Act.put, List.setIfInBounds_toArray, List.set_cons_succ, List.set_cons_zero]
            refine drawn_take (i := 2) (v := .int .i64 (j : Int)) (some 58) rfl rfl (by kernel_rfl) (by kernel_rfl) (by kernel_rfl) (fun _ _ _ h => h) (Or.inl ⟨by kernel_rfl, fun wq hw => by go_simp; exact i64_nat _ (by omega)⟩) hHeld ?_
            simp only [Act.put, List.setIfInBounds_toArray, List.set_cons_succ, List.set_cons_zero]
            refine drawn_take (i := 3) (v := .pointer (some ⟨g, j * 2, none⟩)) (some 59) rfl rfl (by kernel_rfl) (by kernel_rfl) (by kernel_rfl) (fun _ _ _ h => h) (Or.inl ⟨by kernel_rfl, fun wq hw => by go_simp⟩) hHeld ?_
            simp only [Act.put, List.setIfInBounds_toArray, List.set_cons_succ, List.set_cons_zero]
            refine drawn_take (i := 4) (v := .pointer (some ⟨g, j * 2 + 1, none⟩)) (some 60) rfl rfl (by kernel_rfl) (by kernel_rfl) (by kernel_rfl) (fun _ _ _ h => h) (Or.inl ⟨by kernel_rfl, fun wq hw => by go_simp⟩) hHeld ?_
            simp only [Act.put, List.setIfInBounds_toArray, List.set_cons_succ, List.set_cons_zero]
            refine drawn_take (i := 5) (v := .int .u64 (vj : Int)) (some 61) rfl rfl (by kernel_rfl) (by kernel_rfl) (by kernel_rfl) (fun _ _ _ h => h) (Or.inl ⟨by kernel_rfl, fun wq hw => by have q9 := hw; go_simp⟩) hHeld ?_
            simp only [Act.put, List.setIfInBounds_toArray, List.set_cons_succ, List.set_cons_zero]
            refine drawn_take (i := 6) (v := .pointer (some ⟨r, 0, none⟩)) (some 62) rfl rfl (by kernel_rfl) (by kernel_rfl) (by kernel_rfl) (fun _ _ _ h => h) (Or.inl ⟨by kernel_rfl, fun wq hw => by go_simp⟩) hHeld ?_
            simp only [Act.put, List.setIfInBounds_toArray, List.set_cons_succ, List.set_cons_zero]
            refine wpAnyH_ready (rs := [7]) (by kernel_rfl) (by simp) ?_
            refine rdy_call (i := 7) rfl rfl (some 63) rfl 37 #[.pointer (some ⟨r, 0, none⟩)] (rd_ixor (x0 := 62) (ts := #[62]) (by kernel_rfl) (by kernel_rfl)) (fun v w' => v = .int .u64 (xx : Int) ∧ II w' r (ra, cm) ys (q + (intBits dd).length + (turned xx).length) false ∧ Kr r Wf w') ((ixor_at r ys (q + (intBits dd).length) false xx _ hDf.1 hxl A2).mono fun e w' h => ⟨_, h.1, rfl, h.2⟩) (fun r w9 hR => ?_) rdy_nil
            obtain ⟨rfl, i6, k6⟩ := hR
            have hD6 := hDf.kr i6 k6
            refine ⟨(HAT.out _ _ _ _ _ hD6).2, fun hHeld => ?_⟩
            simp only [Act.put, List.setIfInBounds_toArray, List.set_cons_succ, List.set_cons_zero]
            refine drawn_take (i := 8) (v := .int .u64 (vk : Int)) (some 64) rfl rfl (by kernel_rfl) (by kernel_rfl) (by kernel_rfl) (fun _ _ _ h => h) (Or.inl ⟨by kernel_rfl, fun wq hw => by go_simp⟩) hHeld ?_
            simp only [Act.put, List.setIfInBounds_toArray, List.set_cons_succ, List.set_cons_zero]
            refine drawn_take (i := 9) (v := .pointer (some ⟨sp, 1, none⟩)) (some 65) rfl rfl (by kernel_rfl) (by kernel_rfl) (by kernel_rfl) (fun _ _ _ h => h) (Or.inl ⟨by kernel_rfl, fun wq hw => by go_simp⟩) hHeld ?_
            simp only [Act.put, List.setIfInBounds_toArray, List.set_cons_succ, List.set_cons_zero]
            have c6 : w9.cell? ⟨sp, 1, none⟩ = some (.int .u64 0) := cell_of_row _ _ _ _ _ _ hD6.2.1
            have f6 : w9.frozen? ⟨sp, 1, none⟩ = false := unfrozen_of_block hD6.2.1 _
            have hD7 := hD6.set.2 (vk : Int)
            refine wpAnyH_ready (rs := [10]) (by kernel_rfl) (by simp) ?_
            refine rdy_unit (i := 10) rfl rfl none rfl (w9.setCell ⟨sp, 1, none⟩ (.int .u64 (vk : Int))) (by go_simp) ((HAT.out _ _ _ _ _ hD7).2) (fun hHeld => ?_) rdy_nil
            simp only [Act.put]
            refine wpAnyH_done (by kernel_rfl) ?_ _
            refine NoPanic.normal ?_
            clear hHeld
            clear c6 f6 hD6 i6 k6 hDf hW6 hxor
            generalize w9.setCell ⟨sp, 1, none⟩ (.int .u64 (vk : Int)) = W7 at *
            have hown8 := hD7.2.2.1
            have hii8 := hD7.1
            have hkr8 := hD7.2.2.2.1
            rw [← HK.out] at hown8
            have x0 : W7.cell? ⟨sp, 0, none⟩ = some (.int .i64 tk) := cell_of_row _ _ _ _ _ _ hD7.2.1
            have x1 : W7.cell? ⟨sp, 1, none⟩ = some (.int .u64 (vk : Int)) := cell_of_row _ _ _ _ _ _ hD7.2.1
            have xb : W7.cell? ⟨r, 2, none⟩ = some (.bool false) := cell_of_row _ _ _ _ _ _ hii8.1
            have hs8 := hkr8.2.2.2.1
            rw [hsz3] at hs8
            clear hD7
            go_wp2_with (at_builtin; refine wpList_append_own _ rfl _ _ 22 rfl (r + 1) 26 i0 (.agg #[.int .i64 0, .int .u64 0]) 2 16 Tryd.underlying22 hi hz0 hz1 hz2 rfl (by decide) _ _ _ rfl (hown8.alloc _) ⟨W7.heap.size, 0, none⟩ 1 1 [.int .i64 tk, .int .u64 (vk : Int)] rfl rfl ?c1 ?c2 ?c3 ?c4 ?c5 ?_)
            case c1 =>
              intro j u hj
              match j, hj with
              | 0, hj => simp at hj; subst hj; simp [Addr.add]
              | 1, hj => simp at hj; subst hj; simp [Addr.add]
            case c2 => intro u hu; simp at hu; rcases hu with rfl | rfl <;> rfl
            case c3 => unfold maxLen; omega
            case c4 => omega
            case c5 => simp; omega
            intro v9 W9 hown9 hgrow9 _
            have hb9 : Below (r + 1) W7 W9 := ((Below.refl (r + 1) W7).alloc hs8 _).grown hgrow9 (by simp; omega) (fun k hk => (hown8.lt k hk).1)
            have HF : Hid (W9.ownsRow (r + 1) 26 2 v9 (k + 1) (vsm (mm.take (k + 1))) ∧ II W9 r (ra, cm) ys (bodyTo mm (k + 1)).length false ∧ Kr r W3 W9) := hidn ⟨by
                rw [← take_snoc (by rw [HNL.out]; exact hlt2) HSK.out, ← HL9.out, vsm_app]
                exact hown9, by rw [HPL.out]; exact ii_belowB hii8 (by omega) (fun x hx => by have := hSb x hx; omega) hb9, hkr8.thenBelow (by rw [hsz3]; exact hb9)⟩
            clear hown8 hown9 hgrow9 hii8 hkr8 hb9
            go_wp2_with fail
            go_roundw
            case rel => exact ⟨k + 1, by omega, by go_num, HF.out.1, HF.out.2.1, HF.out.2.2⟩
            case measure => simp [intOf]; omega
      · have hke2 : ¬ (k : Int) < (n : Int) := by omega
        have B4 : Below w1.heap.size w1 wr := B3.trans (hkr.below (by rw [← HR.out, hsz3]; omega) (by rw [← HR.out]; exact Nat.le_refl _))
        rw [hke] at hown
        obtain ⟨la', lc', hv, _, hSm⟩ := sm_of_own hown hso
        injection hv with e1 _ e3
        subst e1 e3
        rw [← hke] at hSm
        have hBw := h.below B4
        have HOWN := hidn hown
        clear hke hown hii hkr
        have hlm : l = mm := by rw [HL9.out, show k = mm.length from by rw [HNL.out]; omega, List.take_length]
        have hcan : canS l = true := by rw [hlm]; exact hmc
        go_wp2_with fail
        refine (renc_yes la k lc l _ hSm hcan).mono ?_
        rintro e w5 ⟨v5, z5, rfl, pk5, own5, b5⟩
        have B5 := B4.trans (b5.mono B4.size)
        obtain ⟨a5, c5, rfl⟩ := own_slice own5
        obtain ⟨a5', c5', hv, hBs5⟩ := bs_of_own own5 pk5.2.1
        injection hv with e1 _ e3
        subst e1 e3
        have hBw5 := hBw.below b5
        have s1 := hBs5.str (cap := c5)
        have s2 := hBw5.str (cap := cap)
        have hzz : ((strB z5).toList == (strB zs).toList) = decide (z5 = zs) := by
          rw [Bool.eq_iff_iff, beq_iff_eq, strB_inj hBs5.2.2.1 hBw5.2.2.1]; simp
        have HO5 : Hid (w5.ownsRow w1.heap.size 26 2 (.slice la l.length lc) l.length (vsm l)) := hidn (by
          have ho5 := own_kr (base := r + 1) HOWN.out (Nat.lt_succ_self r) (Kr.of_below b5)
          obtain ⟨hl5, h5⟩ := ho5
          refine ⟨hl5, ?_⟩
          rcases h5 with h5 | ⟨g5, c5, cur5, hv5, hg5, rs5⟩
          · exact .inl h5
          · exact .inr ⟨g5, c5, cur5, hv5, by rw [← HR.out]; omega, rs5⟩)
        have HB5 := hidn B5
        have HPK := hidn pk5
        rw [HK.out]
        generalize z5.length = zn at *
        generalize strB z5 = S1 at *
        generalize strB zs = S2 at *
        clear own5 b5 hBs5 hBw5 hBw hSm
        have heq : z5 = zs := IsPack.unique pk5 (by rw [hlm]; exact hp)
        rw [decide_eq_true heq] at hzz
        rw [hlm] at HO5 ⊢
        clear heq hlm hcan pk5
        go_wp2_with fail
        exact bodyPost_ret (v := .tuple #[.slice la mm.length lc, .int .i64 0]) (by simp [results, Tryd.results19, go_sem]) rfl ⟨⟨_, rfl, HO5.out⟩, HB5.out⟩
end Go.Proofs.YtljkidbdlhllcaaDoor
