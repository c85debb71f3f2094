/- PostingsBack: numbers that rise, packed, are unpacked as they were. -/
import Derived.Test.YthmknpdhgfmogaaPgM
namespace Go.Proofs.Ythmknpdhgfmogaa
open Go.RowKit
set_option linter.unusedVariables false

/-- Numbers that rise, none above L. -/
def BkR (xs : List Nat) (L : Int) : Prop := RiseN xs ∧ ∀ i, i < xs.length → ((nD xs i : Nat) : Int) ≤ L

theorem nD_snoc (xs : List Nat) (y i : Nat) : nD (xs ++ [y]) i = if i < xs.length then nD xs i else if i = xs.length then y else 0 := by
  unfold nD
  simp only [List.getD_eq_getElem?_getD]
  by_cases h : i < xs.length
  · rw [if_pos h, List.getElem?_append_left h]
  · rw [if_neg h, List.getElem?_append_right (by omega)]
    by_cases h2 : i = xs.length
    · rw [if_pos h2, h2, Nat.sub_self]; rfl
    · rw [if_neg h2, List.getElem?_eq_none (by simp; omega)]; rfl

theorem BkR.snoc {xs : List Nat} {L : Int} {y : Nat} (h : BkR xs L) (hy : L < (y : Int)) (hm : y ≤ 2147483647) : BkR (xs ++ [y]) (y : Int) := by
  obtain ⟨⟨h1, h2⟩, h3⟩ := h
  refine ⟨⟨fun i hi => ?_, fun i hi => ?_⟩, fun i hi => ?_⟩
  · rw [nD_snoc]
    split
    · exact h1 i (by assumption)
    · split <;> omega
  · rw [List.length_append, List.length_singleton] at hi
    rw [nD_snoc, nD_snoc, if_pos (by omega)]
    split
    · exact h2 i (by assumption)
    · rw [if_pos (by omega)]
      have := h3 i (by omega)
      omega
  · rw [List.length_append, List.length_singleton] at hi
    rw [nD_snoc]
    split
    · have := h3 i (by assumption)
      omega
    · rw [if_pos (by omega)]
      exact Int.le_refl _

theorem back_step (n : Int) : ∃ U s : Nat, IntKind.u64.wrap n = (U : Int) ∧ (U : Int) % 16777216 = (s : Int) ∧ (U : Int).tmod 16777216 = (s : Int) ∧ s < 16777216 ∧ wrap64 (s : Int) = (s : Int) := by
  obtain ⟨U, hU⟩ : ∃ U : Nat, U = (n % 18446744073709551616).toNat := ⟨_, rfl⟩
  have h1 : (U : Int) % 16777216 = ((U % 16777216 : Nat) : Int) := by omega
  exact ⟨U, U % 16777216, by rw [IntKind.wrap_u64, hU]; omega, h1, by rw [Int.tmod_eq_emod_of_nonneg (by omega)]; exact h1, Nat.mod_lt _ (by decide), w64_nat _ (Nat.lt_trans (Nat.mod_lt _ (by decide)) (by decide))⟩

theorem up_snoc (xs : List Nat) (y : Nat) : up (xs ++ [y]) = up xs ++ [(y : Int)] := by simp [up]

theorem packB_len {xs : List Nat} (hr : RiseN xs) (hl : xs.length ≤ 100000) : (packB xs).length ≤ 5 + 10 * nblk xs + 40 * nblk xs := by
  have h1 := hdTo_len hr hl (nblk xs) (Nat.le_refl _)
  have h2 := bdTo_len hr (nblk xs)
  unfold packB
  rw [List.length_append]
  omega

theorem own_cap {w : World} {base e n : Nat} {a : Option Addr} {c : Nat} {xs : List Value} (h : w.ownsRow base e 1 (.slice a n c) n xs) : n ≤ c ∧ c ≤ maxLen := by
  rcases h.2 with ⟨e, h0⟩ | ⟨g, cap, cur, e, _, _, h1, h2, _⟩
  · cases e
    exact ⟨Nat.le_refl _, Nat.zero_le _⟩
  · cases e
    exact ⟨h1, h2⟩

set_option maxHeartbeats 8000000 in
set_option maxRecDepth 100000 in
theorem postingsBack_walk (a : Option Addr) (len cap : Nat) (zs : List Int) (w : World) (h : Ils w a len zs) (hlc : len ≤ cap) :
    Calls Try.prog 4 #[.slice a len cap] w fun e w' => e = .returned (.bool true) ∧ Below w.heap.size w w' := by
  obtain ⟨m, hm⟩ : ∃ m, m = min len 80 := ⟨_, rfl⟩
  have HC := hidn (cut25_any a len cap m w hlc hm)
  have hm80 : m ≤ 80 := by omega
  have HI := hidn (h.take m (by omega))
  obtain ⟨ns, hns⟩ : ∃ ns, ns = zs.take m := ⟨_, rfl⟩
  rw [← hns] at HI
  have HNL := hidn HI.out.1
  clear h hm hns
  go_enter Try.func4, Try.ntmps4
  go_wp2_with fail
  refine HC.out.mono ?_
  rintro e w0 ⟨rfl, hw0⟩
  subst hw0
  go_wp2_with fail
  go_loopw [3, 4, 17] (fun uv lv iv wr => ∃ (k : Nat) (xs : List Nat) (L : Int) (ua : Option Addr) (ul uc : Nat), k ≤ m ∧ iv = .int .i64 (k : Int) ∧ lv = .int .i64 L ∧ -1 ≤ L ∧ L ≤ 2147483647 ∧ uv = .slice ua ul uc ∧ Hid (ul = (up xs).length) ∧ ul ≤ k ∧ Hid (BkR xs L) ∧ Hid (wr.ownsRow w0.heap.size 3 1 (.slice ua ul uc) (up xs).length (ivs (up xs))) ∧ Hid (Below w0.heap.size w0 wr)) (fun _ _ iv _ => m - (intOf iv).toNat)
  case atStart => exact ⟨0, [], -1, none, 0, 0, Nat.zero_le _, rfl, rfl, by omega, by omega, rfl, hidn rfl, Nat.le_refl _, hidn ⟨⟨fun i hi => by simp at hi, fun i hi => by simp at hi⟩, fun i hi => by simp at hi⟩, hidn (World.ownsRow_nil _ _ _ _), hidn (Below.refl _ _)⟩
  case round =>
    obtain ⟨k, xs, L, ua, ul, uc, hk, rfl, rfl, hL1, hL2, rfl, HUL, huk, HR, HO, HB⟩ := hrel
    by_cases hlt : k < m
    · have hlt2 : (k : Int) < (m : Int) := by omega
      obtain ⟨n, hn⟩ : ∃ n, ns[k]? = some n := ⟨_, List.getElem?_eq_getElem (by rw [HNL.out]; exact hlt)⟩
      obtain ⟨b, off, ea, hc⟩ := (HI.out.below HB.out).at hn
      subst ea
      obtain ⟨U, s, hw1, hs1, hs2, hs3, hs4⟩ := back_step n
      have HW1 := hidn hw1
      have HS1 := hidn hs1
      have HS2 := hidn hs2
      have HS4 := hidn hs4
      clear hn hw1 hs1 hs2 hs4
      by_cases hle : L ≤ 2130706431
      · obtain ⟨y, hy⟩ : ∃ y : Nat, (y : Int) = L + 1 + s := ⟨(L + 1 + s).toNat, by omega⟩
        have hy1 : L + (1 + (s : Int)) = (y : Int) := by omega
        have hy2 : L < (y : Int) := by omega
        have hy3 : y ≤ 2147483647 := by omega
        have HR2 := hidn (HR.out.snoc hy2 hy3)
        obtain ⟨v', W', hrun, ho', hb'⟩ := appI (l := up xs) HO.out HB.out.size (y : Int) (by rw [← HUL.out]; omega)
        rw [← up_snoc] at ho'
        obtain ⟨ua2, uc2, e2⟩ := own_slice ho'
        subst e2
        have hul2 : (up (xs ++ [y])).length = ul + 1 := by rw [up_snoc, List.length_append, ← HUL.out]; rfl
        have HUL2 : Hid (ul + 1 = (up (xs ++ [y])).length) := hidn hul2.symm
        have HO2 : Hid (W'.ownsRow w0.heap.size 3 1 (.slice ua2 (ul + 1) uc2) (up (xs ++ [y])).length (ivs (up (xs ++ [y])))) := hidn (by rw [HUL2.out]; exact ho')
        have HB2 := hidn (HB.out.trans hb')
        rw [← HUL2.out] at hrun
        have HRUN := hidn hrun
        clear hrun ho' hb' hul2 hy HO
        have hw1 := HW1.out
        have hs1 := HS1.out
        go_wp2_with (at_builtin; refine wpList_app_run2 rfl _ _ 22 22 rfl rfl _ _ _ rfl rfl HRUN.out ?_; clear HRUN)
        go_roundw
        case rel => exact ⟨k + 1, xs ++ [y], (y : Int), ua2, ul + 1, uc2, by omega, by first | rfl | simp, by first | rfl | simp, by omega, by omega, rfl, HUL2, by omega, HR2, HO2, HB2⟩
        case measure => simp [intOf]; omega
      · go_wp2_with fail
        go_roundw
        case rel => exact ⟨k + 1, xs, L, ua, ul, uc, by omega, by first | rfl | simp, by first | rfl | simp, by omega, by omega, rfl, HUL, by omega, HR, HO, HB⟩
        case measure => simp [intOf]; omega
    · have hlt2 : ¬ (k : Int) < (m : Int) := by omega
      have hxl : xs.length = ul := by rw [HUL.out, up_len]
      have hxm : xs.length ≤ 80 := by omega
      have hrise := HR.out.1
      have hcan := canP_up_of hrise (by omega)
      obtain ⟨a9, c9, e9, hI9, hc9⟩ := ils_of_own HO.out
      injection e9 with e91 e92 e93
      subst e91 e93
      clear e92
      rw [← HUL.out] at hI9 hc9
      have HP := hidn (pack_yes ua ul uc xs wr hI9 hrise hcan hc9 (by omega))
      have HI9 := hidn hI9
      have HRI := hidn hrise
      have HXM := hidn hxm
      clear hI9 hcan hrise hxl hxm HO
      go_wp2_with fail
      refine HP.out.mono ?_
      rintro e w2 ⟨b2, v, rfl, own2⟩
      have hpl := packB_len HRI.out (by have := HXM.out; omega)
      have hpm : (packB xs).length ≤ 600 := by have := HXM.out; unfold nblk at hpl; omega
      obtain ⟨va, vc, rfl, hbs⟩ := bs_of_own own2 (packB_lt xs)
      obtain ⟨hvc, hvm⟩ := own_cap own2
      have HB2 := hidn (HB.out.trans (b2.mono HB.out.size))
      have HBW2 := hidn b2
      have HU := hidn (unpack_any va (packB xs).length vc (packB xs) w2 hbs (by omega) hvc hvm)
      have HCL := hidn (fun wx (hx : Below w2.heap.size w2 wx) => sclone_any va (packB xs).length vc (packB xs) wx (hbs.below hx) (by omega))
      obtain ⟨pl, hpe⟩ : ∃ pl, pl = (packB xs).length := ⟨_, rfl⟩
      rw [← hpe] at HU HCL hpm ⊢
      have HPE := hidn hpe
      clear own2 hbs b2 hpl hpe hvc hvm
      go_wp2_with fail
      refine HU.out.mono ?_
      rintro e w3 ⟨b3, ⟨hn3, _⟩ | ⟨l3, g3, hu3, hg3, hll3, rfl, hrow3⟩⟩
      · rw [unpP_pack HRI.out (by have := HXM.out; omega)] at hn3
        cases hn3
      · have el : l3 = xs := by
          rw [unpP_pack HRI.out (by have := HXM.out; omega)] at hu3
          cases hu3
          rfl
        subst el
        have HROW := hidn (ils_row hrow3 (by unfold maxLen; omega))
        have HC3 := hidn (HCL.out w3 b3)
        have HB3 := hidn (HB2.out.trans (b3.mono HB2.out.size))
        obtain ⟨n3, hn3⟩ : ∃ n3, n3 = l3.length := ⟨_, rfl⟩
        have hn9 : n3 = ul := by rw [hn3, HUL.out, up_len]
        subst hn9
        rw [← hn3] at HROW ⊢
        have HBB3 := hidn b3
        clear hrow3 hu3 hg3 hll3 b3 hn3
        go_wp2_with fail
        refine HC3.out.mono ?_
        rintro e w4 ⟨v4, rfl, own4, b4⟩
        obtain ⟨a4, c4, e4⟩ := own_slice own4
        subst e4
        rw [HPE.out] at own4
        have HS4 := Bld.start own4
        obtain ⟨g5, c5, w5, hrun5, hb5⟩ := HS4.app1 b4.size 0 (by rw [← HPE.out]; omega)
        rw [← HPE.out] at hrun5
        have HRUN5 : Hid ((Builtin.append_ #[23, 23] 23 #[.slice a4 pl c4, .slice (some ⟨w4.heap.size, 0, none⟩) 1 1]).run Try.prog (w4.alloc (.cells #[.int .u8 0] 5)) = .ok (.slice (some ⟨g5, 0, none⟩) (pl + 1) c5) w5) := hidn hrun5
        have own5 := hb5.own
        have hl5 : (packB l3 ++ [0]).length = pl + 1 := by rw [List.length_append, ← HPE.out]; rfl
        rw [← HPE.out, hl5] at own5
        obtain ⟨a5, c5', e5, hbs5⟩ := bs_of_own own5 (fun x hx => by
          rw [List.mem_append] at hx
          rcases hx with hx | hx
          · exact packB_lt _ x hx
          · simp at hx; omega)
        cases e5
        obtain ⟨hvc5, hvm5⟩ := own_cap own5
        have HU5 := hidn (unpack_any (some ⟨g5, 0, none⟩) (pl + 1) c5 (packB l3 ++ [0]) w5 hbs5 (by omega) hvc5 hvm5)
        have b45 : Below w3.heap.size w3 w5 := b4.trans hb5.bel
        have HB5 := hidn (HB3.out.trans (b45.mono HB3.out.size))
        have HW15 := hidn (HBW2.out.trans ((HBB3.out.trans (b45.mono HBB3.out.size)).mono HBW2.out.size))
        have HR5 := hidn (HROW.out.below b45)
        clear hrun5 own5 hbs5 own4 HS4 hb5 hl5 b4 b45 hvc5 hvm5
        go_wp2_with (at_builtin; refine wpList_app_run2 rfl _ _ 23 23 rfl rfl _ _ _ rfl rfl HRUN5.out ?_; clear HRUN5)
        refine HU5.out.mono ?_
        rintro e w6 ⟨b6, ⟨_, rfl⟩ | ⟨l6, g6, hu6, _⟩⟩
        · have HE := hidn (equal_same (some ⟨g3, 0, none⟩) ua n3 n3 uc (up l3) w6 (HR5.out.below b6) (HI9.out.below (HW15.out.trans (b6.mono HW15.out.size))))
          have HB6 := hidn (HB5.out.trans (b6.mono HB5.out.size))
          clear b6
          go_wp2_with fail
          refine HE.out.mono ?_
          rintro e w7 ⟨rfl, b7⟩
          have HB7 := hidn (HB6.out.trans (b7.mono HB6.out.size))
          clear b7
          go_wp2_with fail
          go_ret
          exact ⟨rfl, HB7.out⟩
        · rw [unpP_more HRI.out (by have := HXM.out; omega) (by simp)] at hu6
          cases hu6
end Go.Proofs.Ythmknpdhgfmogaa
