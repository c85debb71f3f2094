/- AnchorSaves: the law's walk, an anchor that may not be. -/
import Derived.Test.YtoopdmfijbbfdaaDoorAnQ
import Derived.Test.YtoopdmfijbbfdaaDoorMm
import Derived.Test.YtoopdmfijbbfdaaDoorMk
namespace Go.Proofs.YtoopdmfijbbfdaaDoor
open Go.RowKit Go.Maps
set_option linter.unusedVariables false

theorem ancB_big (z : Int) (h : 4611686018427387904 < z) (y1 y2 y3 y4 y7 y8 y9 : Int) : ancB z y1 y2 y3 y4 y7 y8 y9 = false := by
  have : inN 1 z = false := inN_high h
  simp [ancB, this]

theorem ancB_next (g g2 : Nat) (h : g2 = g + 1) (hb : g2 ≤ 4611686018427387904) (y1 y2 y3 y4 y7 y8 y9 : Int) (hc : ancB (g : Int) y1 y2 y3 y4 y7 y8 y9 = true) : ancB (g2 : Int) y1 y2 y3 y4 y7 y8 1 = true := by
  have h1 : inN 1 (g2 : Int) = true := inN_yes (by omega) (by omega)
  have h2 : inN 0 1 = true := inN_yes (by omega) (by omega)
  simp [ancB] at hc ⊢
  simp [h1, h2, hc]

theorem sav_fell (g : Nat) (p : List Nat) (hg : g ≤ 4611686018427387904) (hp : p.length ≤ 106) : getP (fun s => fellL (fun _ => 0) (savM g p s)) ancN 0 = some (p, g) := by
  rw [again_get (savM g p) _ _ (savM_A g p) (savM_B g p) (p, g) (p, g) (by rw [fell_calmA rfl]; exact rd_sav _ g p hg hp) (by rw [fell_calmA rfl]; exact rd_sav _ g p hg hp)]
  simp

theorem wmod5 (x : Int) : ∃ r : Nat, r < 5 ∧ IntKind.i64.wrap (IntKind.u64.wrap ((IntKind.u64.wrap x).tmod 5)) = (r : Int) ∧ (IntKind.u64.wrap x).tmod 5 = (r : Int) := by
  obtain ⟨u, hu, hlt⟩ := uwrapH x
  rw [hu]
  refine ⟨u % 5, by omega, ?_, ?_⟩
  · rw [Int.tmod_eq_emod_of_nonneg (by omega), IntKind.wrap_u64, IntKind.wrap_i64]
    omega
  · rw [Int.tmod_eq_emod_of_nonneg (by omega)]
    omega

set_option maxRecDepth 100000 in
set_option maxHeartbeats 8000000 in
theorem anchorSaves_no (y0 y1 y2 y3 y4 y5 y6 y7 y8 y9 : Int) (hr : ∀ x ∈ [y0, y1, y2, y3, y4, y5, y6, y7, y8, y9], -9223372036854775808 ≤ x ∧ x ≤ 9223372036854775807) (which : Bool) (tv : Value) (fz : Int) (z : Int) (hzz : IntKind.i64.wrap (y0 + 1) = z) (hcan : ancB z y1 y2 y3 y4 y7 y8 y9 = false) (w : World) (hT : CrcTab w) :
    Calls Tryd.prog 6 #[.agg #[.int .i64 y0, .int .i64 y1, .int .i64 y2, .int .i64 y3, .int .i64 y4, .int .i64 y5, .int .i64 y6, .int .i64 y7, .int .i64 y8, .int .i64 y9], .bool which, tv, .int .i64 fz] w fun e w' => e = .returned (.bool true) ∧ Below w.heap.size w w' := by
  have HT := hidn hT
  have HRg := hidn hr
  have HCN := hidn hcan
  have HZ := hidn hzz
  have HEN := hidn refEncode_no
  have HEY := hidn refEncode_yes
  obtain ⟨wb, hwb⟩ : ∃ wb, wb = w.alloc (.cells #[.int .i64 y0, .int .i64 y1, .int .i64 y2, .int .i64 y3, .int .i64 y4, .int .i64 y5, .int .i64 y6, .int .i64 y7, .int .i64 y8, .int .i64 y9] 23) := ⟨_, rfl⟩
  have HBb : Hid (Below w.heap.size w wb) := hidn (by rw [hwb]; exact below1 _ _)
  have HAb : Hid (wb.heap[w.heap.size]? = some (.cells #[.int .i64 y0, .int .i64 y1, .int .i64 y2, .int .i64 y3, .int .i64 y4, .int .i64 y5, .int .i64 y6, .int .i64 y7, .int .i64 y8, .int .i64 y9] 23 (0, 0))) := hidn (by rw [hwb]; exact heap_alloc_new _ _)
  have HSB : Hid (wb.heap.size = w.heap.size + 1) := hidn (by rw [hwb, World.size_alloc])
  clear hT hcan hr hzz
  go_enter Tryd.func6, Tryd.ntmps6
  go_wp2_with fail
  rw [← hwb]
  clear hwb
  refine (new_any wb 2 (by omega)).mono ?_
  rintro e w1 ⟨rfl, hD1, hb1, hs1⟩
  have HB1 := hidn (HBb.out.trans (hb1.mono HBb.out.size))
  have HA1 := hidn ((hb1.block w.heap.size (by have := HSB.out; omega)).trans HAb.out)
  obtain ⟨hx0, hx1, hx2, hx3, hx4, hx5, hx6, hx7, hx8, hx9⟩ := ten_cells HA1.out
  have HSv := hidn (save_no w1 _ _ _ ⟨fun _ => [], 2, -1⟩ hD1 rfl y0 y1 y2 y3 y4 y5 y6 y7 y8 y9 z HZ.out HCN.out)
  have HS1' : Hid (w.heap.size + 1 ≤ w1.heap.size) := hidn (by have := hb1.size; have := HSB.out; omega)
  clear hD1 hb1 hs1
  go_wp2_with fail
  refine HSv.out.mono ?_
  clear HSv hx0 hx1 hx2 hx3 hx4 hx5 hx6 hx7 hx8 hx9
  rintro e w2 ⟨rfl, hb2⟩
  have hbA := below1 w2 (.cells #[.int .i64 0, .int .i64 0, .int .i64 0, .int .i64 0, .int .i64 0, .int .i64 0, .int .i64 0, .int .i64 0, .int .i64 0, .int .i64 0] 23)
  have hb2A := hb2.trans (hbA.mono hb2.size)
  have HB2 := hidn (HB1.out.trans (hb2A.mono HB1.out.size))
  have HA2 := hidn ((hb2A.block w.heap.size (by have := HS1'.out; omega)).trans HA1.out)
  obtain ⟨hx0, hx1, hx2, hx3, hx4, hx5, hx6, hx7, hx8, hx9⟩ := ten_cells HA2.out
  have HS2' := hidn hb2A.size
  clear hb2 hbA hb2A HA1 HB1
  cases hcy : ancB y0 y1 y2 y3 y4 y7 y8 y9 with
  | false =>
    have HE := hidn (HEN.out (w2.alloc (.cells #[.int .i64 0, .int .i64 0, .int .i64 0, .int .i64 0, .int .i64 0, .int .i64 0, .int .i64 0, .int .i64 0, .int .i64 0, .int .i64 0] 23)) y0 y1 y2 y3 y4 y5 y6 y7 y8 y9 hcy)
    clear hcy
    go_wp2_with fail
    refine HE.out.mono ?_
    clear HE hx0 hx1 hx2 hx3 hx4 hx5 hx6 hx7 hx8 hx9
    rintro e w3 ⟨rfl, hb3⟩
    have HB3 := hidn (HB2.out.trans (hb3.mono HB2.out.size))
    clear hb3
    have HAW := hidn (awake17_any _ (HT.out.below HB3.out))
    go_wp2_with fail
    refine HAW.out.mono ?_
    rintro e w4 ⟨rfl, hb4⟩
    have hB4 := HB3.out.trans (hb4.mono HB3.out.size)
    go_wp2
    go_ret
    exact ⟨rfl, hB4⟩
  | true =>
    have HE := hidn (HEY.out (w2.alloc (.cells #[.int .i64 0, .int .i64 0, .int .i64 0, .int .i64 0, .int .i64 0, .int .i64 0, .int .i64 0, .int .i64 0, .int .i64 0, .int .i64 0] 23)) y0 y1 y2 y3 y4 y5 y6 y7 y8 y9 hcy)
    have hy0 : 4611686018427387904 ≤ y0 ∧ y0 ≤ 4611686018427387904 := by
      have h1 := HCN.out
      have h2 := HZ.out
      rw [IntKind.wrap_i64] at h2
      simp [ancB, inN] at hcy h1
      by_cases h9 : 4611686018427387904 ≤ y0
      · omega
      · exfalso
        have h3 : z = y0 + 1 := by omega
        have := h1 (by omega) (by omega) (by omega) (by omega) (by omega) (by omega) (by omega) (by omega) (by omega) (by omega)
        omega
    have e1 : (y0 == 0) = false := beq_eq_false_iff_ne.2 (by omega)
    have e1' : decide (y0 = 0) = false := by simp; omega
    have e2 : decide (4611686018427387904 ≤ y0) = true := by simp; omega
    have e3 : decide (y0 ≥ 4611686018427387904) = true := by simp; omega
    clear hcy hy0
    go_wp2_with fail
    refine HE.out.mono ?_
    clear HE hx0 hx1 hx2 hx3 hx4 hx5 hx6 hx7 hx8 hx9
    rintro e w3 ⟨v3, rfl, hown3, hb3⟩
    have HB3 := hidn (HB2.out.trans (hb3.mono HB2.out.size))
    have hx0 := (ten_cells ((hb3.block w.heap.size (by have := HS2'.out; have := HS1'.out; omega)).trans HA2.out)).1
    clear hb3 hown3
    have HAW := hidn (awake17_any _ (HT.out.below HB3.out))
    go_wp2_with fail
    refine HAW.out.mono ?_
    rintro e w4 ⟨rfl, hb4⟩
    have hB4 := HB3.out.trans (hb4.mono HB3.out.size)
    go_wp2
    go_ret
    exact ⟨rfl, hB4⟩
end Go.Proofs.YtoopdmfijbbfdaaDoor

namespace Go.Proofs.YtoopdmfijbbfdaaDoor
open Go.RowKit Go.Maps
set_option linter.unusedVariables false

set_option maxRecDepth 100000 in
set_option maxHeartbeats 16000000 in
theorem anchorSaves_yes (y0 y1 y2 y3 y4 y5 y6 y7 y8 y9 : Int) (hr : ∀ x ∈ [y0, y1, y2, y3, y4, y5, y6, y7, y8, y9], -9223372036854775808 ≤ x ∧ x ≤ 9223372036854775807) (which : Bool) (ia : Option Addr) (il ic : Nat) (xs : List Int) (fz : Int) (g : Nat) (hg : y0 + 1 = (g : Int)) (hcan : ancB (g : Int) y1 y2 y3 y4 y7 y8 y9 = true) (w : World) (hX : Ils w ia il xs) (hT : CrcTab w) :
    Calls Tryd.prog 6 #[.agg #[.int .i64 y0, .int .i64 y1, .int .i64 y2, .int .i64 y3, .int .i64 y4, .int .i64 y5, .int .i64 y6, .int .i64 y7, .int .i64 y8, .int .i64 y9], .bool which, .slice ia il ic, .int .i64 fz] w fun e w' => e = .returned (.bool true) ∧ Below w.heap.size w w' := by
  have HT := hidn hT
  have HRg := hidn hr
  have HCN := hidn hcan
  have HXs := hidn hX
  have hgm : g ≤ 4611686018427387904 := by
    simp [ancB, inN] at hcan
    omega
  obtain ⟨p, hp⟩ : ∃ p, p = wordsB [(g : Int), y1, y2, y3, y4, y5, y6, y7, y8, y9] := ⟨_, rfl⟩
  have hpf : fieldsI p = [(g : Int), y1, y2, y3, y4, y5, y6, y7, y8, y9] := by
    rw [hp]
    refine fields_words _ rfl (fun x hx => ?_)
    simp only [List.mem_cons, List.not_mem_nil, or_false] at hx hr
    rcases hx with rfl | hx
    · omega
    · exact hr x (.inr hx)
  have HPF : Hid (p.length = 80 ∧ (∀ x ∈ p, x < 256) ∧ fieldsI p = [(g : Int), y1, y2, y3, y4, y5, y6, y7, y8, y9] ∧ ancB (g : Int) y1 y2 y3 y4 y7 y8 y9 = true) := hidn ⟨by rw [hp, wordsB_length]; rfl, by rw [hp]; exact wordsB_lt _, hpf, hcan⟩
  have HP := hidn hp
  have HG1 := hidn hg
  obtain ⟨r, hr1, hr2, hr3⟩ := wmod5 fz
  have hwr : IntKind.u64.wrap (r : Int) = (r : Int) := by rw [IntKind.wrap_u64]; omega
  have hwr2 : IntKind.i64.wrap (r : Int) = (r : Int) := by rw [IntKind.wrap_i64]; omega
  obtain ⟨wb, hwb⟩ : ∃ wb, wb = w.alloc (.cells #[.int .i64 y0, .int .i64 y1, .int .i64 y2, .int .i64 y3, .int .i64 y4, .int .i64 y5, .int .i64 y6, .int .i64 y7, .int .i64 y8, .int .i64 y9] 23) := ⟨_, rfl⟩
  have HBb : Hid (Below w.heap.size w wb) := hidn (by rw [hwb]; exact below1 _ _)
  have HAb : Hid (wb.heap[w.heap.size]? = some (.cells #[.int .i64 y0, .int .i64 y1, .int .i64 y2, .int .i64 y3, .int .i64 y4, .int .i64 y5, .int .i64 y6, .int .i64 y7, .int .i64 y8, .int .i64 y9] 23 (0, 0))) := hidn (by rw [hwb]; exact heap_alloc_new _ _)
  have HSB : Hid (wb.heap.size = w.heap.size + 1) := hidn (by rw [hwb, World.size_alloc])
  clear hT hcan hr hX hp hpf hg
  go_enter Tryd.func6, Tryd.ntmps6
  go_wp2_with fail
  rw [← hwb]
  clear hwb
  refine (new_any wb 2 (by omega)).mono ?_
  rintro e w1 ⟨rfl, hD1, hb1, hs1⟩
  have HB1 := hidn (HBb.out.trans (hb1.mono HBb.out.size))
  have HA1 := hidn ((hb1.block w.heap.size (by have := HSB.out; omega)).trans HAb.out)
  obtain ⟨hx0, hx1, hx2, hx3, hx4, hx5, hx6, hx7, hx8, hx9⟩ := ten_cells HA1.out
  have HS1 : Hid (Sound5 w1 (fun k => wb.heap.size ≤ k ∧ k < wb.heap.size + 2)) := hidn ⟨HT.out.below HB1.out, fun hF => by have := HT.out.lt; have := HSB.out; omega, fun k hk => by omega⟩
  have HSv := hidn (save_new w1 _ _ _ (fun _ => []) 2 hD1 HS1.out rfl rfl rfl (by unfold maxLen; omega) (by omega) (by omega) (fun _ => Nat.zero_le _) y0 y1 y2 y3 y4 y5 y6 y7 y8 y9 g HG1.out HCN.out _ _ p HP (hidn rfl) (hidn rfl))
  clear hD1 hb1 hs1 HA1 HAb
  go_wp2_with fail
  refine HSv.out.mono ?_
  clear HSv hx0 hx1 hx2 hx3 hx4 hx5 hx6 hx7 hx8 hx9
  rintro e w2 ⟨rfl, F2, hD2, hG2⟩
  have hbA := below1 w2 (.cells #[.int .i64 (g : Int), .int .i64 y1, .int .i64 y2, .int .i64 y3, .int .i64 y4, .int .i64 y5, .int .i64 y6, .int .i64 y7, .int .i64 y8, .int .i64 y9] 23)
  have hB2 := HB1.out.trans (hG2.1.below HB1.out.size (fun k hk => by have := hk.1; have := HSB.out; omega))
  have HG2 : Hid (∀ k, F2 k → w.heap.size ≤ k) := hidn (hG2.ge HB1.out.size (fun k hk => by have := hk.1; have := HSB.out; omega))
  have HB2 := hidn (hB2.alloc hB2.size (.cells #[.int .i64 (g : Int), .int .i64 y1, .int .i64 y2, .int .i64 y3, .int .i64 y4, .int .i64 y5, .int .i64 y6, .int .i64 y7, .int .i64 y8, .int .i64 y9] 23))
  have hS2 := HS1.out.gr hG2
  have HS2 := hidn (hS2.below hbA)
  have HD2 : Hid (DiskOf (w2.alloc (.cells #[.int .i64 (g : Int), .int .i64 y1, .int .i64 y2, .int .i64 y3, .int .i64 y4, .int .i64 y5, .int .i64 y6, .int .i64 y7, .int .i64 y8, .int .i64 y9] 23)) (wb.heap.size + 1) F2 2 (savM g p) (2 - 1 - 1) (-1)) := hidn (hD2.below hbA)
  have HX2 := hidn (heap_alloc_new w2 (.cells #[.int .i64 (g : Int), .int .i64 y1, .int .i64 y2, .int .i64 y3, .int .i64 y4, .int .i64 y5, .int .i64 y6, .int .i64 y7, .int .i64 y8, .int .i64 y9] 23))
  have HNx0 : Hid (¬ F2 w2.heap.size) := hidn (fun hf => by have := hS2.lt _ hf; omega)
  have HLx0 : Hid (w2.heap.size ≤ w2.heap.size + 1) := hidn (by omega)
  have HNx : Hid (¬ F2 w2.heap.size) := hidn HNx0.out
  clear hD2 hG2 hbA hB2 hS2 HB1 HS1 HNx0
  cases which with
  | true =>
    have hlit : ((⟨#[97, 110, 99, 104, 111, 114, 46, 98]⟩ : ByteArray)) = fileB ancN := by decide +kernel
    go_wp2_with fail
    refine (copy_disk _ _ F2 2 _ _ _ HD2.out (by omega) (fun s => by have := savM_len g p s; omega)).mono ?_
    rintro e w3 ⟨dc, rfl, ⟨Fc, hDc, hFc⟩, hb3⟩
    have HX3 := hidn ((hb3.block w2.heap.size (by rw [World.size_alloc]; have := HLx0.out; omega)).trans HX2.out)
    have HB3 := hidn (HB2.out.trans (hb3.mono HB2.out.size))
    have HS3 := hidn (HS2.out.below hb3)
    have hD3 := HD2.out.below hb3
    have hs3 := hb3.size
    have hls : Hid (w2.heap.size < w3.heap.size) := hidn (by have := HLx0.out; rw [World.size_alloc] at hs3; omega)
    have hok : ∀ x ∈ savM g p (fileB ancN).data.toList, x.ok := by
      intro x hx
      obtain ⟨bm, D, G, C, _, _, _, _, _, h6, _⟩ := hD3
      exact (h6 _ (fun e => by rw [e] at hx; simp at hx)).2.2 x hx
    obtain ⟨Z, hZ⟩ := sav_bad g p (fileB ancN).data.toList hok (by rw [savM_B g p]; rfl)
    have HHf := hidn (half_any w3 _ F2 2 _ _ _ hD3 (fileB ancN) (by decide +kernel) 1 (by omega) (by omega) Z hZ ia il ic xs (fun wx hG => HXs.out.below (HB3.out.trans (hG.1.below HB3.out.size HG2.out))))
    have HDc := hidn (And.intro hDc hFc)
    clear hDc hFc hb3 hD3 hok hZ
    rw [hlit]
    go_wp2_with fail
    refine HHf.out.mono ?_
    clear HHf
    rintro e w4 ⟨rfl, l4, hl4, hD4, hG4⟩
    have hl4 : l4.length = 1 := hl4.1
    have HB4 := hidn (HB3.out.trans (hG4.1.below HB3.out.size HG2.out))
    have HS4 := hidn (HS3.out.gr hG4)
    have HX4 := hidn ((hG4.1.block w2.heap.size hls.out HNx.out).trans HX3.out)
    have hDc4 : DiskOf w4 dc Fc _ (savM g p) _ _ := HDc.out.1.otherA (fun k hk => hG4.1.block k (HDc.out.2 k hk).2 (fun hf => by have := HS2.out.lt k hf; have := (HDc.out.2 k hk).1; omega))
    have hs4 := hG4.1.size
    have HTd := hidn (told_any w4 _ dc F2 Fc 2 _ (upd (savM g p) (fileB ancN).data.toList l4) (savM g p) _ _ _ _ hD4 hDc4 (by omega) (fun s => by unfold upd; split; (next e => rw [e, savM_B g p, hl4]; rfl); rfl) (fun s => by unfold upd; split; (rw [hl4]; omega); (have := savM_len g p s; omega)))
    have HD4 := hidn hD4
    have HC4 := hidn hDc4
    have HL4 := hidn hl4
    clear hD4 hDc4 hG4 hl4 HX3 HB3 HS3
    go_wp2_with fail
    refine HTd.out.mono ?_
    clear HTd
    rintro e w5 ⟨bo, rfl, hto, hb5⟩
    have hB5 := HB4.out.trans (hb5.mono HB4.out.size)
    cases bo with
    | false =>
      clear hto
      go_wp2_with fail
      refine (awake17_any _ (HT.out.below hB5)).mono ?_
      rintro e w6 ⟨rfl, hb6⟩
      have hB6 := hB5.trans (hb6.mono hB5.size)
      go_wp2
      go_ret
      exact ⟨rfl, hB6⟩
    | true =>
      have hget := sav_half g p hgm (by rw [HPF.out.1]; omega) (fileB ancN) (.inr rfl) l4 HL4.out (hto rfl _)
      have HLd := hidn (load_yes w5 _ F2 _ _ _ _ (HD4.out.below hb5) (HS4.out.tab.below hb5) (by rw [upd_other _ _ _ _ ancN_names.2.2.2.2]; exact savM_nil g p) g y1 y2 y3 y4 y5 y6 y7 y8 y9 p HPF.out.2.1 HPF.out.1 hget HPF.out.2.2.1 HPF.out.2.2.2)
      have HX5 := hidn ((hb5.block w2.heap.size (by have := hls.out; omega)).trans HX4.out)
      have HC5 := hidn (HC4.out.below hb5)
      have HB5 := hidn hB5
      have hs5 := hb5.size
      clear hto hget hb5 hB5 HD4 HC4 HX4 HB4 HS4
      go_wp2_with fail
      refine HLd.out.mono ?_
      clear HLd
      rintro e w6 ⟨rfl, hb6⟩
      have hbA := below1 w6 (.cells #[.int .i64 (g : Int), .int .i64 y1, .int .i64 y2, .int .i64 y3, .int .i64 y4, .int .i64 y5, .int .i64 y6, .int .i64 y7, .int .i64 y8, .int .i64 y9] 23)
      have hb6A := hb6.trans (hbA.mono hb6.size)
      have hs6 := hb6.size
      have HB6 := hidn (HB5.out.trans (hb6A.mono HB5.out.size))
      have HX6 := hidn ((hb6A.block w2.heap.size (by have := hls.out; omega)).trans HX5.out)
      have HC6 := hidn (HC5.out.below hb6A)
      obtain ⟨hx0, hx1, hx2, hx3, hx4, hx5, hx6, hx7, hx8, hx9⟩ := ten_cells HX6.out
      have HFu := hidn (fuse_any _ dc Fc _ _ _ _ HC6.out r)
      have hsA : w3.heap.size ≤ (w6.alloc (.cells #[.int .i64 (g : Int), .int .i64 y1, .int .i64 y2, .int .i64 y3, .int .i64 y4, .int .i64 y5, .int .i64 y6, .int .i64 y7, .int .i64 y8, .int .i64 y9] 23)).heap.size := by rw [World.size_alloc]; omega
      have HLF : Hid (∀ k, Fc k → w.heap.size ≤ k ∧ k ≠ w2.heap.size ∧ k < w3.heap.size) := hidn (fun k hk => by
        have h1 := HDc.out.2 k hk
        rw [World.size_alloc] at h1
        have h2 := HB2.out.size
        rw [World.size_alloc] at h2
        have := HLx0.out
        omega)
      clear hb6 hbA hb6A HC5 HX5 HB5
      go_wp2_with fail
      refine HFu.out.mono ?_
      clear HFu hx0 hx1 hx2 hx3 hx4 hx5 hx6 hx7 hx8 hx9
      rintro e w7 ⟨rfl, hD7, hG7⟩
      have HB7 := hidn (HB6.out.trans (hG7.1.below HB6.out.size (fun k hk => (HLF.out k hk).1)))
      have hs7 := hG7.1.size
      have HLx : Hid (w2.heap.size < w7.heap.size) := hidn (by have := hls.out; omega)
      have HX7 := hidn ((hG7.1.block w2.heap.size (by have := hls.out; omega) (fun hf => (HLF.out _ hf).2.1 rfl)).trans HX6.out)
      have hz7 := below1 w7 (.cells #[.int .i64 (g : Int), .int .i64 y1, .int .i64 y2, .int .i64 y3, .int .i64 y4, .int .i64 y5, .int .i64 y6, .int .i64 y7, .int .i64 y8, .int .i64 1] 23)
      have HX7z := hidn ((hz7.block w2.heap.size HLx.out).trans HX7.out)
      have HD7z := hidn (hD7.below hz7)
      have HB7z := hidn (HB7.out.trans (hz7.mono HB7.out.size))
      have HF7 : Hid (∀ k, Fc k → k < w7.heap.size) := hidn (fun k hk => by have := (HLF.out k hk).2.2; omega)
      have HgF : Hid (∀ k, Fc k → w.heap.size ≤ k) := hidn (fun k hk => (HLF.out k hk).1)
      have HnF : Hid (∀ b, b < w7.heap.size → ¬ Fc w2.heap.size) := hidn (fun b _ hf => (HLF.out _ hf).2.1 rfl)
      have HS7z : Hid (Sound5 (w7.alloc (.cells #[.int .i64 (g : Int), .int .i64 y1, .int .i64 y2, .int .i64 y3, .int .i64 y4, .int .i64 y5, .int .i64 y6, .int .i64 y7, .int .i64 y8, .int .i64 1] 23)) Fc) := hidn ⟨HT.out.below HB7z.out, fun hf => by have := HT.out.lt; have := HgF.out _ hf; omega, fun k hk => by rw [World.size_alloc]; have := HF7.out k hk; omega⟩
      obtain ⟨hx0, hx1, hx2, hx3, hx4, hx5, hx6, hx7, hx8, hx9⟩ := ten_cells HX7.out
      clear hD7 hG7 HC6 HX6 HB6 hz7 hs3 hs4 hs5 hs6 hsA hs7
      by_cases hbig : g = 4611686018427387904
      · have hsq : ((g : Int) == 4611686018427387904) = true := by rw [hbig]; rfl
        have hsq' : decide ((g : Int) = 4611686018427387904) = true := by rw [hbig]; rfl
        have HSv := hidn (save_no _ dc Fc _ ⟨savM g p, 2 - 1 - 1, (r : Int)⟩ HD7z.out (savM_nil g p) (g : Int) y1 y2 y3 y4 y5 y6 y7 y8 1 ((g : Int) + 1) (by rw [IntKind.wrap_i64]; omega) (ancB_big _ (by omega) y1 y2 y3 y4 y7 y8 1))
        clear hbig
        go_wp2_with fail
        clear hx0 hx1 hx2 hx3 hx4 hx5 hx6 hx7 hx8 hx9
        refine HSv.out.mono ?_
        clear HSv
        rintro e w8 ⟨rfl, hb8⟩
        have HX8 := hidn ((hb8.block w2.heap.size (by rw [World.size_alloc]; have := HLx.out; omega)).trans HX7z.out)
        have HZ8 := hidn ((hb8.block w7.heap.size (by rw [World.size_alloc]; omega)).trans (heap_alloc_new w7 (.cells #[.int .i64 (g : Int), .int .i64 y1, .int .i64 y2, .int .i64 y3, .int .i64 y4, .int .i64 y5, .int .i64 y6, .int .i64 y7, .int .i64 y8, .int .i64 1] 23)))
        have hs8 : w7.heap.size < w8.heap.size := by have := hb8.size; rw [World.size_alloc] at this; omega
        have hB8 := HB7z.out.trans (hb8.mono HB7z.out.size)
        have hnz8 : ¬ Fc w7.heap.size := fun hf => by have := HF7.out _ hf; omega
        have HD8 := hidn (disk_setRow (HD7z.out.below hb8) w7.heap.size hnz8 #[.int .i64 0, .int .i64 0, .int .i64 0, .int .i64 0, .int .i64 0, .int .i64 0, .int .i64 0, .int .i64 0, .int .i64 0, .int .i64 0])
        have HX8' := hidn ((setRow_otherA w8 w7.heap.size w2.heap.size #[.int .i64 0, .int .i64 0, .int .i64 0, .int .i64 0, .int .i64 0, .int .i64 0, .int .i64 0, .int .i64 0, .int .i64 0, .int .i64 0] (by have := HLx.out; omega)).trans HX8.out)
        have HB8 := hidn (below_setRow hB8 (by have := HB7.out.size; omega) #[.int .i64 0, .int .i64 0, .int .i64 0, .int .i64 0, .int .i64 0, .int .i64 0, .int .i64 0, .int .i64 0, .int .i64 0, .int .i64 0])
        have HS8' : Hid (Sound5 (w8.setRow w7.heap.size #[.int .i64 0, .int .i64 0, .int .i64 0, .int .i64 0, .int .i64 0, .int .i64 0, .int .i64 0, .int .i64 0, .int .i64 0, .int .i64 0]) Fc) := hidn ⟨HT.out.below HB8.out, HS7z.out.far, fun k hk => by rw [size_setRow]; have := HF7.out k hk; omega⟩
        clear hb8 hB8
        simp only []
        go_at_K
        repeat (first
          | (with_reducible refine wpList_store_row (by rfl) 23 (.tmp 18) (.tmp 99) (by rfl) w7.heap.size #[.int .i64 0, .int .i64 0, .int .i64 0, .int .i64 0, .int .i64 0, .int .i64 0, .int .i64 0, .int .i64 0, .int .i64 0, .int .i64 0] (by kernel_rfl) (by kernel_rfl) 23 #[.int .i64 (g : Int), .int .i64 y1, .int .i64 y2, .int .i64 y3, .int .i64 y4, .int .i64 y5, .int .i64 y6, .int .i64 y7, .int .i64 y8, .int .i64 1] HZ8.out (by kernel_rfl) (by kernel_rfl) (by kernel_rfl) ?_)
          | go_values | go_skip | go_guarded | go_step | go_upon)
        obtain ⟨W8, hW8⟩ : ∃ W8, W8 = w8.setRow w7.heap.size #[.int .i64 0, .int .i64 0, .int .i64 0, .int .i64 0, .int .i64 0, .int .i64 0, .int .i64 0, .int .i64 0, .int .i64 0, .int .i64 0] := ⟨_, rfl⟩
        have hsW : w8.heap.size = W8.heap.size := by rw [hW8, size_setRow]
        rw [← hW8] at HD8 HX8' HB8 HS8' ⊢
        clear hW8 HX8 HZ8
        refine (crash_disk W8 dc Fc _ _ _ _ HD8.out HS8'.out.lt none 0 0 (fun _ _ => 0) (firstKept_none _ none 0)).mono ?_
        rintro e w9 ⟨rfl, hD9, hG9⟩
        have HB9 := hidn (HB8.out.trans (hG9.1.below HB8.out.size HgF.out))
        have HS9 := hidn (HS8'.out.gr hG9)
        have hs9 : W8.heap.size ≤ w9.heap.size := hG9.1.size
        have HX9 := hidn ((hG9.1.block w2.heap.size (by have := HLx.out; omega) (HnF.out w2.heap.size HLx.out)).trans HX8'.out)
        have HLd := hidn (load_yes w9 dc Fc _ _ _ _ hD9 HS9.out.tab (by show fellL _ (savM g p []) = []; rw [savM_nil]; rfl) g y1 y2 y3 y4 y5 y6 y7 y8 y9 p HPF.out.2.1 HPF.out.1 (sav_fell g p hgm (by rw [HPF.out.1]; omega)) HPF.out.2.2.1 HPF.out.2.2.2)
        clear hD9 hG9 HD8 HB8 HX8' HS8'
        go_wp2_with fail
        refine HLd.out.mono ?_
        clear HLd
        rintro e w10 ⟨rfl, hb10⟩
        have hs10 := hb10.size
        have hbA := below1 w10 (.cells #[.int .i64 (g : Int), .int .i64 y1, .int .i64 y2, .int .i64 y3, .int .i64 y4, .int .i64 y5, .int .i64 y6, .int .i64 y7, .int .i64 y8, .int .i64 y9] 23)
        have HB10 := hidn ((HB9.out.trans (hb10.mono HB9.out.size)).alloc (Nat.le_trans HB9.out.size hb10.size) (.cells #[.int .i64 (g : Int), .int .i64 y1, .int .i64 y2, .int .i64 y3, .int .i64 y4, .int .i64 y5, .int .i64 y6, .int .i64 y7, .int .i64 y8, .int .i64 y9] 23))
        obtain ⟨hx0, hx1, hx2, hx3, hx4, hx5, hx6, hx7, hx8, hx9⟩ := ten_cells ((hbA.block w2.heap.size (by have := HLx.out; omega)).trans ((hb10.block w2.heap.size (by have := HLx.out; omega)).trans HX9.out))
        clear hb10 hbA HX9 HB9
        go_wp2
        go_ret
        exact ⟨rfl, HB10.out⟩
      · have hsq : ((g : Int) == 4611686018427387904) = false := beq_eq_false_iff_ne.2 (by omega)
        have hsq' : decide ((g : Int) = 4611686018427387904) = false := by simpa using (show ¬ (g : Int) = 4611686018427387904 by omega)
        obtain ⟨g2, hg2⟩ : ∃ g2, g2 = g + 1 := ⟨_, rfl⟩
        have hgg : (g : Int) + 1 = (g2 : Int) := by omega
        have hgw : IntKind.i64.wrap ((g : Int) + 1) = (g2 : Int) := by rw [IntKind.wrap_i64]; omega
        have hne : ¬ ((g2 : Int) = (g : Int)) := by omega
        have hneb : ((g2 : Int) == (g : Int)) = false := beq_eq_false_iff_ne.2 hne
        have hned : decide ((g2 : Int) = (g : Int)) = false := by simpa using hne
        obtain ⟨p2, hp2⟩ : ∃ p2, p2 = wordsB [(g2 : Int), y1, y2, y3, y4, y5, y6, y7, y8, 1] := ⟨_, rfl⟩
        have hcan2 : ancB (g2 : Int) y1 y2 y3 y4 y7 y8 1 = true := ancB_next g g2 hg2 (by omega) _ _ _ _ _ _ _ HCN.out
        have hp2f : fieldsI p2 = [(g2 : Int), y1, y2, y3, y4, y5, y6, y7, y8, 1] := by
          rw [hp2]
          refine fields_words _ rfl (fun x hx => ?_)
          have h0 := HRg.out
          simp only [List.mem_cons, List.not_mem_nil, or_false] at hx h0
          rcases hx with rfl | hx
          · omega
          · rcases hx with rfl | rfl | rfl | rfl | rfl | rfl | rfl | rfl | rfl
            all_goals first | omega | exact h0 _ (by simp)
        have HPF2 : Hid (p2.length = 80 ∧ (∀ x ∈ p2, x < 256) ∧ fieldsI p2 = [(g2 : Int), y1, y2, y3, y4, y5, y6, y7, y8, 1] ∧ ancB (g2 : Int) y1 y2 y3 y4 y7 y8 1 = true) := hidn ⟨by rw [hp2, wordsB_length]; rfl, by rw [hp2]; exact wordsB_lt _, hp2f, hcan2⟩
        obtain ⟨st', rv, hput, hag⟩ := again_put g p p2 (2 - 1 - 1) (by omega) (by rw [HPF.out.1]; omega) (by rw [HPF2.out.1]; omega) r hr1
        rw [← hg2] at hput
        have hoks : StOK ⟨savM g p, 2 - 1 - 1, (r : Int)⟩ 1 := ⟨by show (-1 : Int) ≤ r; omega, by show (r : Int) ≤ 9223372036854775807; omega, by show (0 : Int) ≤ 2 - 1 - 1; omega, by show (2 : Int) - 1 - 1 ≤ 1000000; omega, savM_len g p⟩
        have HAg := hidn hag
        have HPut := hidn hput
        have HP2 := hidn hp2
        clear hbig hcan2 hp2f hput hp2
        rcases hag.2 with ⟨hget, hrv⟩ | hget
        · have HSv := hidn (save_st _ dc Fc _ ⟨savM g p, 2 - 1 - 1, (r : Int)⟩ HD7z.out HS7z.out 1 hoks (by omega) (by unfold maxLen; omega) (savM_nil g p) (g : Int) y1 y2 y3 y4 y5 y6 y7 y8 1 g2 hgg HPF2.out.2.2.2 p2 HP2 st' rv HPut (.agg #[.int .i64 0, .int .i64 0, .int .i64 0, .int .i64 0, .int .i64 0, .int .i64 0, .int .i64 0, .int .i64 0, .int .i64 0, .int .i64 0]) (fun h => absurd h hrv) (fun _ => rfl))
          have hrvb : (rv != 0) = true := bne_iff_ne.2 hrv
          have hrvb2 : (rv == 0) = false := beq_eq_false_iff_ne.2 hrv
          have HGE := hidn hg2
          clear hag hoks hg2 hgg
          go_wp2_with fail
          clear hx0 hx1 hx2 hx3 hx4 hx5 hx6 hx7 hx8 hx9
          refine HSv.out.mono ?_
          clear HSv
          rintro e w8 ⟨rfl, F8, hD8, hG8⟩
          have HX8 := hidn ((hG8.1.block w2.heap.size (by rw [World.size_alloc]; have := HLx.out; omega) (HnF.out w2.heap.size HLx.out)).trans HX7z.out)
          have HZ8 := hidn ((hG8.1.block w7.heap.size (by rw [World.size_alloc]; omega) (fun hf => by have := HF7.out _ hf; omega)).trans (heap_alloc_new w7 (.cells #[.int .i64 (g : Int), .int .i64 y1, .int .i64 y2, .int .i64 y3, .int .i64 y4, .int .i64 y5, .int .i64 y6, .int .i64 y7, .int .i64 y8, .int .i64 1] 23)))
          have hb8 := HB7z.out.trans (hG8.1.below HB7z.out.size HgF.out)
          have hnz8 := hG8.not (b := w7.heap.size) (by rw [World.size_alloc]; omega) (fun hf => by have := HF7.out _ hf; omega)
          have HS8 := hidn (HS7z.out.gr hG8)
          have hs8 : w7.heap.size < w8.heap.size := by have := hG8.1.size; rw [World.size_alloc] at this; omega
          have HgF8 : Hid (∀ k, F8 k → w.heap.size ≤ k) := hidn (hG8.ge HB7z.out.size HgF.out)
          have hnx8 : ¬ F8 w2.heap.size := hG8.not (by rw [World.size_alloc]; have := HLx.out; omega) (HnF.out w2.heap.size HLx.out)
          have HD8 := hidn (disk_setRow hD8 w7.heap.size hnz8 #[.int .i64 0, .int .i64 0, .int .i64 0, .int .i64 0, .int .i64 0, .int .i64 0, .int .i64 0, .int .i64 0, .int .i64 0, .int .i64 0])
          have HR8 : Hid ((w8.setRow w7.heap.size #[.int .i64 0, .int .i64 0, .int .i64 0, .int .i64 0, .int .i64 0, .int .i64 0, .int .i64 0, .int .i64 0, .int .i64 0, .int .i64 0]).heap[w7.heap.size]? = some (.cells #[.int .i64 0, .int .i64 0, .int .i64 0, .int .i64 0, .int .i64 0, .int .i64 0, .int .i64 0, .int .i64 0, .int .i64 0, .int .i64 0] 23 (0, 0))) := hidn (setRow_heap _ _ _ _ _ _ HZ8.out)
          have HX8' := hidn ((setRow_otherA w8 w7.heap.size w2.heap.size #[.int .i64 0, .int .i64 0, .int .i64 0, .int .i64 0, .int .i64 0, .int .i64 0, .int .i64 0, .int .i64 0, .int .i64 0, .int .i64 0] (by have := HLx.out; omega)).trans HX8.out)
          have HB8 := hidn (below_setRow hb8 (by have := HB7.out.size; omega) #[.int .i64 0, .int .i64 0, .int .i64 0, .int .i64 0, .int .i64 0, .int .i64 0, .int .i64 0, .int .i64 0, .int .i64 0, .int .i64 0])
          have HS8' : Hid (Sound5 (w8.setRow w7.heap.size #[.int .i64 0, .int .i64 0, .int .i64 0, .int .i64 0, .int .i64 0, .int .i64 0, .int .i64 0, .int .i64 0, .int .i64 0, .int .i64 0]) F8) := hidn ⟨HT.out.below HB8.out, HS8.out.far, fun k hk => by rw [size_setRow]; exact HS8.out.lt k hk⟩
          clear hD8 hG8 hb8
          simp only []
          go_at_K
          repeat (first
            | (with_reducible refine wpList_store_row (by rfl) 23 (.tmp 18) (.tmp 99) (by rfl) w7.heap.size #[.int .i64 0, .int .i64 0, .int .i64 0, .int .i64 0, .int .i64 0, .int .i64 0, .int .i64 0, .int .i64 0, .int .i64 0, .int .i64 0] (by kernel_rfl) (by kernel_rfl) 23 #[.int .i64 (g : Int), .int .i64 y1, .int .i64 y2, .int .i64 y3, .int .i64 y4, .int .i64 y5, .int .i64 y6, .int .i64 y7, .int .i64 y8, .int .i64 1] HZ8.out (by kernel_rfl) (by kernel_rfl) (by kernel_rfl) ?_)
            | go_values | go_skip | go_guarded | go_step | go_upon)
          obtain ⟨W8, hW8⟩ : ∃ W8, W8 = w8.setRow w7.heap.size #[.int .i64 0, .int .i64 0, .int .i64 0, .int .i64 0, .int .i64 0, .int .i64 0, .int .i64 0, .int .i64 0, .int .i64 0, .int .i64 0] := ⟨_, rfl⟩
          have hsW : w8.heap.size = W8.heap.size := by rw [hW8, size_setRow]
          rw [← hW8] at HD8 HR8 HX8' HB8 HS8' ⊢
          clear hW8 HX8 HZ8
          refine (crash_disk W8 dc F8 _ st'.M st'.free st'.fuse HD8.out HS8'.out.lt none 0 0 (fun _ _ => 0) (firstKept_none _ none 0)).mono ?_
          rintro e w9 ⟨rfl, hD9, hG9⟩
          have HB9 := hidn (HB8.out.trans (hG9.1.below HB8.out.size HgF8.out))
          have HS9 := hidn (HS8'.out.gr hG9)
          have hs9 : W8.heap.size ≤ w9.heap.size := hG9.1.size
          have HX9 := hidn ((hG9.1.block w2.heap.size (by have := HLx.out; omega) hnx8).trans HX8'.out)
          have HZ9 := hidn ((hG9.1.block w7.heap.size (by omega) hnz8).trans HR8.out)
          have HLd := hidn (load_yes w9 dc F8 _ _ _ _ hD9 HS9.out.tab (show fellL _ (st'.M []) = [] by rw [HAg.out.1]; rfl) g y1 y2 y3 y4 y5 y6 y7 y8 y9 p HPF.out.2.1 HPF.out.1 hget HPF.out.2.2.1 HPF.out.2.2.2)
          clear hD9 hG9 HD8 HB8 HX8' HR8 HS8'
          go_wp2_with fail
          refine HLd.out.mono ?_
          clear HLd
          rintro e w10 ⟨rfl, hb10⟩
          have hs10 := hb10.size
          have hbA := below1 w10 (.cells #[.int .i64 (g : Int), .int .i64 y1, .int .i64 y2, .int .i64 y3, .int .i64 y4, .int .i64 y5, .int .i64 y6, .int .i64 y7, .int .i64 y8, .int .i64 y9] 23)
          have HB10 := hidn ((HB9.out.trans (hb10.mono HB9.out.size)).alloc (Nat.le_trans HB9.out.size hb10.size) (.cells #[.int .i64 (g : Int), .int .i64 y1, .int .i64 y2, .int .i64 y3, .int .i64 y4, .int .i64 y5, .int .i64 y6, .int .i64 y7, .int .i64 y8, .int .i64 y9] 23))
          obtain ⟨hx0, hx1, hx2, hx3, hx4, hx5, hx6, hx7, hx8, hx9⟩ := ten_cells ((hbA.block w2.heap.size (by have := HLx.out; omega)).trans ((hb10.block w2.heap.size (by have := HLx.out; omega)).trans HX9.out))
          obtain ⟨hz0, hz1, hz2, hz3, hz4, hz5, hz6, hz7, hz8, hz9⟩ := ten_cells ((hbA.block w7.heap.size (by omega)).trans ((hb10.block w7.heap.size (by omega)).trans HZ9.out))
          clear hb10 hbA HX9 HZ9 HB9
          have HAW := hidn (awake17_any _ (HT.out.below HB10.out))
          go_wp2_with fail
          refine HAW.out.mono ?_
          rintro e w11 ⟨rfl, hb11⟩
          have hb12 := HB10.out.trans (hb11.mono HB10.out.size)
          go_wp2
          go_ret
          exact ⟨rfl, hb12⟩
        · rw [← hg2] at hget
          by_cases hrv : rv = 0
          · subst hrv
            have HSv := hidn (save_st _ dc Fc _ ⟨savM g p, 2 - 1 - 1, (r : Int)⟩ HD7z.out HS7z.out 1 hoks (by omega) (by unfold maxLen; omega) (savM_nil g p) (g : Int) y1 y2 y3 y4 y5 y6 y7 y8 1 g2 hgg HPF2.out.2.2.2 p2 HP2 st' 0 HPut (.agg #[.int .i64 (g2 : Int), .int .i64 y1, .int .i64 y2, .int .i64 y3, .int .i64 y4, .int .i64 y5, .int .i64 y6, .int .i64 y7, .int .i64 y8, .int .i64 1]) (fun _ => rfl) (fun h => absurd rfl h))
            have HGE := hidn hg2
            clear hag hoks hg2 hgg
            go_wp2_with fail
            clear hx0 hx1 hx2 hx3 hx4 hx5 hx6 hx7 hx8 hx9
            refine HSv.out.mono ?_
            clear HSv
            rintro e w8 ⟨rfl, F8, hD8, hG8⟩
            have HX8 := hidn ((hG8.1.block w2.heap.size (by rw [World.size_alloc]; have := HLx.out; omega) (HnF.out w2.heap.size HLx.out)).trans HX7z.out)
            have HZ8 := hidn ((hG8.1.block w7.heap.size (by rw [World.size_alloc]; omega) (fun hf => by have := HF7.out _ hf; omega)).trans (heap_alloc_new w7 (.cells #[.int .i64 (g : Int), .int .i64 y1, .int .i64 y2, .int .i64 y3, .int .i64 y4, .int .i64 y5, .int .i64 y6, .int .i64 y7, .int .i64 y8, .int .i64 1] 23)))
            have hb8 := HB7z.out.trans (hG8.1.below HB7z.out.size HgF.out)
            have hnz8 := hG8.not (b := w7.heap.size) (by rw [World.size_alloc]; omega) (fun hf => by have := HF7.out _ hf; omega)
            have HS8 := hidn (HS7z.out.gr hG8)
            have hs8 : w7.heap.size < w8.heap.size := by have := hG8.1.size; rw [World.size_alloc] at this; omega
            have HgF8 : Hid (∀ k, F8 k → w.heap.size ≤ k) := hidn (hG8.ge HB7z.out.size HgF.out)
            have hnx8 : ¬ F8 w2.heap.size := hG8.not (by rw [World.size_alloc]; have := HLx.out; omega) (HnF.out w2.heap.size HLx.out)
            have HD8 := hidn (disk_setRow hD8 w7.heap.size hnz8 #[.int .i64 (g2 : Int), .int .i64 y1, .int .i64 y2, .int .i64 y3, .int .i64 y4, .int .i64 y5, .int .i64 y6, .int .i64 y7, .int .i64 y8, .int .i64 1])
            have HR8 : Hid ((w8.setRow w7.heap.size #[.int .i64 (g2 : Int), .int .i64 y1, .int .i64 y2, .int .i64 y3, .int .i64 y4, .int .i64 y5, .int .i64 y6, .int .i64 y7, .int .i64 y8, .int .i64 1]).heap[w7.heap.size]? = some (.cells #[.int .i64 (g2 : Int), .int .i64 y1, .int .i64 y2, .int .i64 y3, .int .i64 y4, .int .i64 y5, .int .i64 y6, .int .i64 y7, .int .i64 y8, .int .i64 1] 23 (0, 0))) := hidn (setRow_heap _ _ _ _ _ _ HZ8.out)
            have HX8' := hidn ((setRow_otherA w8 w7.heap.size w2.heap.size #[.int .i64 (g2 : Int), .int .i64 y1, .int .i64 y2, .int .i64 y3, .int .i64 y4, .int .i64 y5, .int .i64 y6, .int .i64 y7, .int .i64 y8, .int .i64 1] (by have := HLx.out; omega)).trans HX8.out)
            have HB8 := hidn (below_setRow hb8 (by have := HB7.out.size; omega) #[.int .i64 (g2 : Int), .int .i64 y1, .int .i64 y2, .int .i64 y3, .int .i64 y4, .int .i64 y5, .int .i64 y6, .int .i64 y7, .int .i64 y8, .int .i64 1])
            have HS8' : Hid (Sound5 (w8.setRow w7.heap.size #[.int .i64 (g2 : Int), .int .i64 y1, .int .i64 y2, .int .i64 y3, .int .i64 y4, .int .i64 y5, .int .i64 y6, .int .i64 y7, .int .i64 y8, .int .i64 1]) F8) := hidn ⟨HT.out.below HB8.out, HS8.out.far, fun k hk => by rw [size_setRow]; exact HS8.out.lt k hk⟩
            clear hD8 hG8 hb8
            simp only []
            go_at_K
            repeat (first
              | (with_reducible refine wpList_store_row (by rfl) 23 (.tmp 18) (.tmp 99) (by rfl) w7.heap.size #[.int .i64 (g2 : Int), .int .i64 y1, .int .i64 y2, .int .i64 y3, .int .i64 y4, .int .i64 y5, .int .i64 y6, .int .i64 y7, .int .i64 y8, .int .i64 1] (by kernel_rfl) (by kernel_rfl) 23 #[.int .i64 (g : Int), .int .i64 y1, .int .i64 y2, .int .i64 y3, .int .i64 y4, .int .i64 y5, .int .i64 y6, .int .i64 y7, .int .i64 y8, .int .i64 1] HZ8.out (by kernel_rfl) (by kernel_rfl) (by kernel_rfl) ?_)
              | go_values | go_skip | go_guarded | go_step | go_upon)
            obtain ⟨W8, hW8⟩ : ∃ W8, W8 = w8.setRow w7.heap.size #[.int .i64 (g2 : Int), .int .i64 y1, .int .i64 y2, .int .i64 y3, .int .i64 y4, .int .i64 y5, .int .i64 y6, .int .i64 y7, .int .i64 y8, .int .i64 1] := ⟨_, rfl⟩
            have hsW : w8.heap.size = W8.heap.size := by rw [hW8, size_setRow]
            rw [← hW8] at HD8 HR8 HX8' HB8 HS8' ⊢
            clear hW8 HX8 HZ8
            refine (crash_disk W8 dc F8 _ st'.M st'.free st'.fuse HD8.out HS8'.out.lt none 0 0 (fun _ _ => 0) (firstKept_none _ none 0)).mono ?_
            rintro e w9 ⟨rfl, hD9, hG9⟩
            have HB9 := hidn (HB8.out.trans (hG9.1.below HB8.out.size HgF8.out))
            have HS9 := hidn (HS8'.out.gr hG9)
            have hs9 : W8.heap.size ≤ w9.heap.size := hG9.1.size
            have HX9 := hidn ((hG9.1.block w2.heap.size (by have := HLx.out; omega) hnx8).trans HX8'.out)
            have HZ9 := hidn ((hG9.1.block w7.heap.size (by omega) hnz8).trans HR8.out)
            have HLd := hidn (load_yes w9 dc F8 _ _ _ _ hD9 HS9.out.tab (show fellL _ (st'.M []) = [] by rw [HAg.out.1]; rfl) g2 y1 y2 y3 y4 y5 y6 y7 y8 1 p2 HPF2.out.2.1 HPF2.out.1 hget HPF2.out.2.2.1 HPF2.out.2.2.2)
            clear hD9 hG9 HD8 HB8 HX8' HR8 HS8'
            go_wp2_with fail
            refine HLd.out.mono ?_
            clear HLd
            rintro e w10 ⟨rfl, hb10⟩
            have hs10 := hb10.size
            have hbA := below1 w10 (.cells #[.int .i64 (g2 : Int), .int .i64 y1, .int .i64 y2, .int .i64 y3, .int .i64 y4, .int .i64 y5, .int .i64 y6, .int .i64 y7, .int .i64 y8, .int .i64 1] 23)
            have HB10 := hidn ((HB9.out.trans (hb10.mono HB9.out.size)).alloc (Nat.le_trans HB9.out.size hb10.size) (.cells #[.int .i64 (g2 : Int), .int .i64 y1, .int .i64 y2, .int .i64 y3, .int .i64 y4, .int .i64 y5, .int .i64 y6, .int .i64 y7, .int .i64 y8, .int .i64 1] 23))
            obtain ⟨hx0, hx1, hx2, hx3, hx4, hx5, hx6, hx7, hx8, hx9⟩ := ten_cells ((hbA.block w2.heap.size (by have := HLx.out; omega)).trans ((hb10.block w2.heap.size (by have := HLx.out; omega)).trans HX9.out))
            obtain ⟨hz0, hz1, hz2, hz3, hz4, hz5, hz6, hz7, hz8, hz9⟩ := ten_cells ((hbA.block w7.heap.size (by omega)).trans ((hb10.block w7.heap.size (by omega)).trans HZ9.out))
            clear hb10 hbA HX9 HZ9 HB9
            have HAW := hidn (awake17_any _ (HT.out.below HB10.out))
            go_wp2_with fail
            refine HAW.out.mono ?_
            rintro e w11 ⟨rfl, hb11⟩
            have hb12 := HB10.out.trans (hb11.mono HB10.out.size)
            go_wp2
            go_ret
            exact ⟨rfl, hb12⟩
          · have HSv := hidn (save_st _ dc Fc _ ⟨savM g p, 2 - 1 - 1, (r : Int)⟩ HD7z.out HS7z.out 1 hoks (by omega) (by unfold maxLen; omega) (savM_nil g p) (g : Int) y1 y2 y3 y4 y5 y6 y7 y8 1 g2 hgg HPF2.out.2.2.2 p2 HP2 st' rv HPut (.agg #[.int .i64 0, .int .i64 0, .int .i64 0, .int .i64 0, .int .i64 0, .int .i64 0, .int .i64 0, .int .i64 0, .int .i64 0, .int .i64 0]) (fun h => absurd h hrv) (fun _ => rfl))
            have hrvb : (rv != 0) = true := bne_iff_ne.2 hrv
            have hrvb2 : (rv == 0) = false := beq_eq_false_iff_ne.2 hrv
            have HGE := hidn hg2
            clear hag hoks hg2 hgg
            go_wp2_with fail
            clear hx0 hx1 hx2 hx3 hx4 hx5 hx6 hx7 hx8 hx9
            refine HSv.out.mono ?_
            clear HSv
            rintro e w8 ⟨rfl, F8, hD8, hG8⟩
            have HX8 := hidn ((hG8.1.block w2.heap.size (by rw [World.size_alloc]; have := HLx.out; omega) (HnF.out w2.heap.size HLx.out)).trans HX7z.out)
            have HZ8 := hidn ((hG8.1.block w7.heap.size (by rw [World.size_alloc]; omega) (fun hf => by have := HF7.out _ hf; omega)).trans (heap_alloc_new w7 (.cells #[.int .i64 (g : Int), .int .i64 y1, .int .i64 y2, .int .i64 y3, .int .i64 y4, .int .i64 y5, .int .i64 y6, .int .i64 y7, .int .i64 y8, .int .i64 1] 23)))
            have hb8 := HB7z.out.trans (hG8.1.below HB7z.out.size HgF.out)
            have hnz8 := hG8.not (b := w7.heap.size) (by rw [World.size_alloc]; omega) (fun hf => by have := HF7.out _ hf; omega)
            have HS8 := hidn (HS7z.out.gr hG8)
            have hs8 : w7.heap.size < w8.heap.size := by have := hG8.1.size; rw [World.size_alloc] at this; omega
            have HgF8 : Hid (∀ k, F8 k → w.heap.size ≤ k) := hidn (hG8.ge HB7z.out.size HgF.out)
            have hnx8 : ¬ F8 w2.heap.size := hG8.not (by rw [World.size_alloc]; have := HLx.out; omega) (HnF.out w2.heap.size HLx.out)
            have HD8 := hidn (disk_setRow hD8 w7.heap.size hnz8 #[.int .i64 0, .int .i64 0, .int .i64 0, .int .i64 0, .int .i64 0, .int .i64 0, .int .i64 0, .int .i64 0, .int .i64 0, .int .i64 0])
            have HR8 : Hid ((w8.setRow w7.heap.size #[.int .i64 0, .int .i64 0, .int .i64 0, .int .i64 0, .int .i64 0, .int .i64 0, .int .i64 0, .int .i64 0, .int .i64 0, .int .i64 0]).heap[w7.heap.size]? = some (.cells #[.int .i64 0, .int .i64 0, .int .i64 0, .int .i64 0, .int .i64 0, .int .i64 0, .int .i64 0, .int .i64 0, .int .i64 0, .int .i64 0] 23 (0, 0))) := hidn (setRow_heap _ _ _ _ _ _ HZ8.out)
            have HX8' := hidn ((setRow_otherA w8 w7.heap.size w2.heap.size #[.int .i64 0, .int .i64 0, .int .i64 0, .int .i64 0, .int .i64 0, .int .i64 0, .int .i64 0, .int .i64 0, .int .i64 0, .int .i64 0] (by have := HLx.out; omega)).trans HX8.out)
            have HB8 := hidn (below_setRow hb8 (by have := HB7.out.size; omega) #[.int .i64 0, .int .i64 0, .int .i64 0, .int .i64 0, .int .i64 0, .int .i64 0, .int .i64 0, .int .i64 0, .int .i64 0, .int .i64 0])
            have HS8' : Hid (Sound5 (w8.setRow w7.heap.size #[.int .i64 0, .int .i64 0, .int .i64 0, .int .i64 0, .int .i64 0, .int .i64 0, .int .i64 0, .int .i64 0, .int .i64 0, .int .i64 0]) F8) := hidn ⟨HT.out.below HB8.out, HS8.out.far, fun k hk => by rw [size_setRow]; exact HS8.out.lt k hk⟩
            clear hD8 hG8 hb8
            simp only []
            go_at_K
            repeat (first
              | (with_reducible refine wpList_store_row (by rfl) 23 (.tmp 18) (.tmp 99) (by rfl) w7.heap.size #[.int .i64 0, .int .i64 0, .int .i64 0, .int .i64 0, .int .i64 0, .int .i64 0, .int .i64 0, .int .i64 0, .int .i64 0, .int .i64 0] (by kernel_rfl) (by kernel_rfl) 23 #[.int .i64 (g : Int), .int .i64 y1, .int .i64 y2, .int .i64 y3, .int .i64 y4, .int .i64 y5, .int .i64 y6, .int .i64 y7, .int .i64 y8, .int .i64 1] HZ8.out (by kernel_rfl) (by kernel_rfl) (by kernel_rfl) ?_)
              | go_values | go_skip | go_guarded | go_step | go_upon)
            obtain ⟨W8, hW8⟩ : ∃ W8, W8 = w8.setRow w7.heap.size #[.int .i64 0, .int .i64 0, .int .i64 0, .int .i64 0, .int .i64 0, .int .i64 0, .int .i64 0, .int .i64 0, .int .i64 0, .int .i64 0] := ⟨_, rfl⟩
            have hsW : w8.heap.size = W8.heap.size := by rw [hW8, size_setRow]
            rw [← hW8] at HD8 HR8 HX8' HB8 HS8' ⊢
            clear hW8 HX8 HZ8
            refine (crash_disk W8 dc F8 _ st'.M st'.free st'.fuse HD8.out HS8'.out.lt none 0 0 (fun _ _ => 0) (firstKept_none _ none 0)).mono ?_
            rintro e w9 ⟨rfl, hD9, hG9⟩
            have HB9 := hidn (HB8.out.trans (hG9.1.below HB8.out.size HgF8.out))
            have HS9 := hidn (HS8'.out.gr hG9)
            have hs9 : W8.heap.size ≤ w9.heap.size := hG9.1.size
            have HX9 := hidn ((hG9.1.block w2.heap.size (by have := HLx.out; omega) hnx8).trans HX8'.out)
            have HZ9 := hidn ((hG9.1.block w7.heap.size (by omega) hnz8).trans HR8.out)
            have HLd := hidn (load_yes w9 dc F8 _ _ _ _ hD9 HS9.out.tab (show fellL _ (st'.M []) = [] by rw [HAg.out.1]; rfl) g2 y1 y2 y3 y4 y5 y6 y7 y8 1 p2 HPF2.out.2.1 HPF2.out.1 hget HPF2.out.2.2.1 HPF2.out.2.2.2)
            clear hD9 hG9 HD8 HB8 HX8' HR8 HS8'
            go_wp2_with fail
            refine HLd.out.mono ?_
            clear HLd
            rintro e w10 ⟨rfl, hb10⟩
            have hs10 := hb10.size
            have hbA := below1 w10 (.cells #[.int .i64 (g2 : Int), .int .i64 y1, .int .i64 y2, .int .i64 y3, .int .i64 y4, .int .i64 y5, .int .i64 y6, .int .i64 y7, .int .i64 y8, .int .i64 1] 23)
            have HB10 := hidn ((HB9.out.trans (hb10.mono HB9.out.size)).alloc (Nat.le_trans HB9.out.size hb10.size) (.cells #[.int .i64 (g2 : Int), .int .i64 y1, .int .i64 y2, .int .i64 y3, .int .i64 y4, .int .i64 y5, .int .i64 y6, .int .i64 y7, .int .i64 y8, .int .i64 1] 23))
            obtain ⟨hx0, hx1, hx2, hx3, hx4, hx5, hx6, hx7, hx8, hx9⟩ := ten_cells ((hbA.block w2.heap.size (by have := HLx.out; omega)).trans ((hb10.block w2.heap.size (by have := HLx.out; omega)).trans HX9.out))
            obtain ⟨hz0, hz1, hz2, hz3, hz4, hz5, hz6, hz7, hz8, hz9⟩ := ten_cells ((hbA.block w7.heap.size (by omega)).trans ((hb10.block w7.heap.size (by omega)).trans HZ9.out))
            clear hb10 hbA HX9 HZ9 HB9
            have HAW := hidn (awake17_any _ (HT.out.below HB10.out))
            go_wp2_with fail
            refine HAW.out.mono ?_
            rintro e w11 ⟨rfl, hb11⟩
            have hb12 := HB10.out.trans (hb11.mono HB10.out.size)
            go_wp2
            go_ret
            exact ⟨rfl, hb12⟩
  | false =>
    have hlit : ((⟨#[97, 110, 99, 104, 111, 114, 46, 97]⟩ : ByteArray)) = fileA ancN := by decide +kernel
    go_wp2_with fail
    refine (copy_disk _ _ F2 2 _ _ _ HD2.out (by omega) (fun s => by have := savM_len g p s; omega)).mono ?_
    rintro e w3 ⟨dc, rfl, ⟨Fc, hDc, hFc⟩, hb3⟩
    have HX3 := hidn ((hb3.block w2.heap.size (by rw [World.size_alloc]; have := HLx0.out; omega)).trans HX2.out)
    have HB3 := hidn (HB2.out.trans (hb3.mono HB2.out.size))
    have HS3 := hidn (HS2.out.below hb3)
    have hD3 := HD2.out.below hb3
    have hs3 := hb3.size
    have hls : Hid (w2.heap.size < w3.heap.size) := hidn (by have := HLx0.out; rw [World.size_alloc] at hs3; omega)
    have hok : ∀ x ∈ savM g p (fileA ancN).data.toList, x.ok := by
      intro x hx
      obtain ⟨bm, D, G, C, _, _, _, _, _, h6, _⟩ := hD3
      exact (h6 _ (fun e => by rw [e] at hx; simp at hx)).2.2 x hx
    obtain ⟨Z, hZ⟩ := sav_bad g p (fileA ancN).data.toList hok (by rw [savM_A g p]; rfl)
    have HHf := hidn (half_any w3 _ F2 2 _ _ _ hD3 (fileA ancN) (by decide +kernel) 1 (by omega) (by omega) Z hZ ia il ic xs (fun wx hG => HXs.out.below (HB3.out.trans (hG.1.below HB3.out.size HG2.out))))
    have HDc := hidn (And.intro hDc hFc)
    clear hDc hFc hb3 hD3 hok hZ
    rw [hlit]
    go_wp2_with fail
    refine HHf.out.mono ?_
    clear HHf
    rintro e w4 ⟨rfl, l4, hl4, hD4, hG4⟩
    have hl4 : l4.length = 1 := hl4.1
    have HB4 := hidn (HB3.out.trans (hG4.1.below HB3.out.size HG2.out))
    have HS4 := hidn (HS3.out.gr hG4)
    have HX4 := hidn ((hG4.1.block w2.heap.size hls.out HNx.out).trans HX3.out)
    have hDc4 : DiskOf w4 dc Fc _ (savM g p) _ _ := HDc.out.1.otherA (fun k hk => hG4.1.block k (HDc.out.2 k hk).2 (fun hf => by have := HS2.out.lt k hf; have := (HDc.out.2 k hk).1; omega))
    have hs4 := hG4.1.size
    have HTd := hidn (told_any w4 _ dc F2 Fc 2 _ (upd (savM g p) (fileA ancN).data.toList l4) (savM g p) _ _ _ _ hD4 hDc4 (by omega) (fun s => by unfold upd; split; (next e => rw [e, savM_A g p, hl4]; rfl); rfl) (fun s => by unfold upd; split; (rw [hl4]; omega); (have := savM_len g p s; omega)))
    have HD4 := hidn hD4
    have HC4 := hidn hDc4
    have HL4 := hidn hl4
    clear hD4 hDc4 hG4 hl4 HX3 HB3 HS3
    go_wp2_with fail
    refine HTd.out.mono ?_
    clear HTd
    rintro e w5 ⟨bo, rfl, hto, hb5⟩
    have hB5 := HB4.out.trans (hb5.mono HB4.out.size)
    cases bo with
    | false =>
      clear hto
      go_wp2_with fail
      refine (awake17_any _ (HT.out.below hB5)).mono ?_
      rintro e w6 ⟨rfl, hb6⟩
      have hB6 := hB5.trans (hb6.mono hB5.size)
      go_wp2
      go_ret
      exact ⟨rfl, hB6⟩
    | true =>
      have hget := sav_half g p hgm (by rw [HPF.out.1]; omega) (fileA ancN) (.inl rfl) l4 HL4.out (hto rfl _)
      have HLd := hidn (load_yes w5 _ F2 _ _ _ _ (HD4.out.below hb5) (HS4.out.tab.below hb5) (by rw [upd_other _ _ _ _ ancN_names.2.2.2.1]; exact savM_nil g p) g y1 y2 y3 y4 y5 y6 y7 y8 y9 p HPF.out.2.1 HPF.out.1 hget HPF.out.2.2.1 HPF.out.2.2.2)
      have HX5 := hidn ((hb5.block w2.heap.size (by have := hls.out; omega)).trans HX4.out)
      have HC5 := hidn (HC4.out.below hb5)
      have HB5 := hidn hB5
      have hs5 := hb5.size
      clear hto hget hb5 hB5 HD4 HC4 HX4 HB4 HS4
      go_wp2_with fail
      refine HLd.out.mono ?_
      clear HLd
      rintro e w6 ⟨rfl, hb6⟩
      have hbA := below1 w6 (.cells #[.int .i64 (g : Int), .int .i64 y1, .int .i64 y2, .int .i64 y3, .int .i64 y4, .int .i64 y5, .int .i64 y6, .int .i64 y7, .int .i64 y8, .int .i64 y9] 23)
      have hb6A := hb6.trans (hbA.mono hb6.size)
      have hs6 := hb6.size
      have HB6 := hidn (HB5.out.trans (hb6A.mono HB5.out.size))
      have HX6 := hidn ((hb6A.block w2.heap.size (by have := hls.out; omega)).trans HX5.out)
      have HC6 := hidn (HC5.out.below hb6A)
      obtain ⟨hx0, hx1, hx2, hx3, hx4, hx5, hx6, hx7, hx8, hx9⟩ := ten_cells HX6.out
      have HFu := hidn (fuse_any _ dc Fc _ _ _ _ HC6.out r)
      have hsA : w3.heap.size ≤ (w6.alloc (.cells #[.int .i64 (g : Int), .int .i64 y1, .int .i64 y2, .int .i64 y3, .int .i64 y4, .int .i64 y5, .int .i64 y6, .int .i64 y7, .int .i64 y8, .int .i64 y9] 23)).heap.size := by rw [World.size_alloc]; omega
      have HLF : Hid (∀ k, Fc k → w.heap.size ≤ k ∧ k ≠ w2.heap.size ∧ k < w3.heap.size) := hidn (fun k hk => by
        have h1 := HDc.out.2 k hk
        rw [World.size_alloc] at h1
        have h2 := HB2.out.size
        rw [World.size_alloc] at h2
        have := HLx0.out
        omega)
      clear hb6 hbA hb6A HC5 HX5 HB5
      go_wp2_with fail
      refine HFu.out.mono ?_
      clear HFu hx0 hx1 hx2 hx3 hx4 hx5 hx6 hx7 hx8 hx9
      rintro e w7 ⟨rfl, hD7, hG7⟩
      have HB7 := hidn (HB6.out.trans (hG7.1.below HB6.out.size (fun k hk => (HLF.out k hk).1)))
      have hs7 := hG7.1.size
      have HLx : Hid (w2.heap.size < w7.heap.size) := hidn (by have := hls.out; omega)
      have HX7 := hidn ((hG7.1.block w2.heap.size (by have := hls.out; omega) (fun hf => (HLF.out _ hf).2.1 rfl)).trans HX6.out)
      have hz7 := below1 w7 (.cells #[.int .i64 (g : Int), .int .i64 y1, .int .i64 y2, .int .i64 y3, .int .i64 y4, .int .i64 y5, .int .i64 y6, .int .i64 y7, .int .i64 y8, .int .i64 1] 23)
      have HX7z := hidn ((hz7.block w2.heap.size HLx.out).trans HX7.out)
      have HD7z := hidn (hD7.below hz7)
      have HB7z := hidn (HB7.out.trans (hz7.mono HB7.out.size))
      have HF7 : Hid (∀ k, Fc k → k < w7.heap.size) := hidn (fun k hk => by have := (HLF.out k hk).2.2; omega)
      have HgF : Hid (∀ k, Fc k → w.heap.size ≤ k) := hidn (fun k hk => (HLF.out k hk).1)
      have HnF : Hid (∀ b, b < w7.heap.size → ¬ Fc w2.heap.size) := hidn (fun b _ hf => (HLF.out _ hf).2.1 rfl)
      have HS7z : Hid (Sound5 (w7.alloc (.cells #[.int .i64 (g : Int), .int .i64 y1, .int .i64 y2, .int .i64 y3, .int .i64 y4, .int .i64 y5, .int .i64 y6, .int .i64 y7, .int .i64 y8, .int .i64 1] 23)) Fc) := hidn ⟨HT.out.below HB7z.out, fun hf => by have := HT.out.lt; have := HgF.out _ hf; omega, fun k hk => by rw [World.size_alloc]; have := HF7.out k hk; omega⟩
      obtain ⟨hx0, hx1, hx2, hx3, hx4, hx5, hx6, hx7, hx8, hx9⟩ := ten_cells HX7.out
      clear hD7 hG7 HC6 HX6 HB6 hz7 hs3 hs4 hs5 hs6 hsA hs7
      by_cases hbig : g = 4611686018427387904
      · have hsq : ((g : Int) == 4611686018427387904) = true := by rw [hbig]; rfl
        have hsq' : decide ((g : Int) = 4611686018427387904) = true := by rw [hbig]; rfl
        have HSv := hidn (save_no _ dc Fc _ ⟨savM g p, 2 - 1 - 1, (r : Int)⟩ HD7z.out (savM_nil g p) (g : Int) y1 y2 y3 y4 y5 y6 y7 y8 1 ((g : Int) + 1) (by rw [IntKind.wrap_i64]; omega) (ancB_big _ (by omega) y1 y2 y3 y4 y7 y8 1))
        clear hbig
        go_wp2_with fail
        clear hx0 hx1 hx2 hx3 hx4 hx5 hx6 hx7 hx8 hx9
        refine HSv.out.mono ?_
        clear HSv
        rintro e w8 ⟨rfl, hb8⟩
        have HX8 := hidn ((hb8.block w2.heap.size (by rw [World.size_alloc]; have := HLx.out; omega)).trans HX7z.out)
        have HZ8 := hidn ((hb8.block w7.heap.size (by rw [World.size_alloc]; omega)).trans (heap_alloc_new w7 (.cells #[.int .i64 (g : Int), .int .i64 y1, .int .i64 y2, .int .i64 y3, .int .i64 y4, .int .i64 y5, .int .i64 y6, .int .i64 y7, .int .i64 y8, .int .i64 1] 23)))
        have hs8 : w7.heap.size < w8.heap.size := by have := hb8.size; rw [World.size_alloc] at this; omega
        have hB8 := HB7z.out.trans (hb8.mono HB7z.out.size)
        have hnz8 : ¬ Fc w7.heap.size := fun hf => by have := HF7.out _ hf; omega
        have HD8 := hidn (disk_setRow (HD7z.out.below hb8) w7.heap.size hnz8 #[.int .i64 0, .int .i64 0, .int .i64 0, .int .i64 0, .int .i64 0, .int .i64 0, .int .i64 0, .int .i64 0, .int .i64 0, .int .i64 0])
        have HX8' := hidn ((setRow_otherA w8 w7.heap.size w2.heap.size #[.int .i64 0, .int .i64 0, .int .i64 0, .int .i64 0, .int .i64 0, .int .i64 0, .int .i64 0, .int .i64 0, .int .i64 0, .int .i64 0] (by have := HLx.out; omega)).trans HX8.out)
        have HB8 := hidn (below_setRow hB8 (by have := HB7.out.size; omega) #[.int .i64 0, .int .i64 0, .int .i64 0, .int .i64 0, .int .i64 0, .int .i64 0, .int .i64 0, .int .i64 0, .int .i64 0, .int .i64 0])
        have HS8' : Hid (Sound5 (w8.setRow w7.heap.size #[.int .i64 0, .int .i64 0, .int .i64 0, .int .i64 0, .int .i64 0, .int .i64 0, .int .i64 0, .int .i64 0, .int .i64 0, .int .i64 0]) Fc) := hidn ⟨HT.out.below HB8.out, HS7z.out.far, fun k hk => by rw [size_setRow]; have := HF7.out k hk; omega⟩
        clear hb8 hB8
        simp only []
        go_at_K
        repeat (first
          | (with_reducible refine wpList_store_row (by rfl) 23 (.tmp 18) (.tmp 99) (by rfl) w7.heap.size #[.int .i64 0, .int .i64 0, .int .i64 0, .int .i64 0, .int .i64 0, .int .i64 0, .int .i64 0, .int .i64 0, .int .i64 0, .int .i64 0] (by kernel_rfl) (by kernel_rfl) 23 #[.int .i64 (g : Int), .int .i64 y1, .int .i64 y2, .int .i64 y3, .int .i64 y4, .int .i64 y5, .int .i64 y6, .int .i64 y7, .int .i64 y8, .int .i64 1] HZ8.out (by kernel_rfl) (by kernel_rfl) (by kernel_rfl) ?_)
          | go_values | go_skip | go_guarded | go_step | go_upon)
        obtain ⟨W8, hW8⟩ : ∃ W8, W8 = w8.setRow w7.heap.size #[.int .i64 0, .int .i64 0, .int .i64 0, .int .i64 0, .int .i64 0, .int .i64 0, .int .i64 0, .int .i64 0, .int .i64 0, .int .i64 0] := ⟨_, rfl⟩
        have hsW : w8.heap.size = W8.heap.size := by rw [hW8, size_setRow]
        rw [← hW8] at HD8 HX8' HB8 HS8' ⊢
        clear hW8 HX8 HZ8
        refine (crash_disk W8 dc Fc _ _ _ _ HD8.out HS8'.out.lt none 0 0 (fun _ _ => 0) (firstKept_none _ none 0)).mono ?_
        rintro e w9 ⟨rfl, hD9, hG9⟩
        have HB9 := hidn (HB8.out.trans (hG9.1.below HB8.out.size HgF.out))
        have HS9 := hidn (HS8'.out.gr hG9)
        have hs9 : W8.heap.size ≤ w9.heap.size := hG9.1.size
        have HX9 := hidn ((hG9.1.block w2.heap.size (by have := HLx.out; omega) (HnF.out w2.heap.size HLx.out)).trans HX8'.out)
        have HLd := hidn (load_yes w9 dc Fc _ _ _ _ hD9 HS9.out.tab (by show fellL _ (savM g p []) = []; rw [savM_nil]; rfl) g y1 y2 y3 y4 y5 y6 y7 y8 y9 p HPF.out.2.1 HPF.out.1 (sav_fell g p hgm (by rw [HPF.out.1]; omega)) HPF.out.2.2.1 HPF.out.2.2.2)
        clear hD9 hG9 HD8 HB8 HX8' HS8'
        go_wp2_with fail
        refine HLd.out.mono ?_
        clear HLd
        rintro e w10 ⟨rfl, hb10⟩
        have hs10 := hb10.size
        have hbA := below1 w10 (.cells #[.int .i64 (g : Int), .int .i64 y1, .int .i64 y2, .int .i64 y3, .int .i64 y4, .int .i64 y5, .int .i64 y6, .int .i64 y7, .int .i64 y8, .int .i64 y9] 23)
        have HB10 := hidn ((HB9.out.trans (hb10.mono HB9.out.size)).alloc (Nat.le_trans HB9.out.size hb10.size) (.cells #[.int .i64 (g : Int), .int .i64 y1, .int .i64 y2, .int .i64 y3, .int .i64 y4, .int .i64 y5, .int .i64 y6, .int .i64 y7, .int .i64 y8, .int .i64 y9] 23))
        obtain ⟨hx0, hx1, hx2, hx3, hx4, hx5, hx6, hx7, hx8, hx9⟩ := ten_cells ((hbA.block w2.heap.size (by have := HLx.out; omega)).trans ((hb10.block w2.heap.size (by have := HLx.out; omega)).trans HX9.out))
        clear hb10 hbA HX9 HB9
        go_wp2
        go_ret
        exact ⟨rfl, HB10.out⟩
      · have hsq : ((g : Int) == 4611686018427387904) = false := beq_eq_false_iff_ne.2 (by omega)
        have hsq' : decide ((g : Int) = 4611686018427387904) = false := by simpa using (show ¬ (g : Int) = 4611686018427387904 by omega)
        obtain ⟨g2, hg2⟩ : ∃ g2, g2 = g + 1 := ⟨_, rfl⟩
        have hgg : (g : Int) + 1 = (g2 : Int) := by omega
        have hgw : IntKind.i64.wrap ((g : Int) + 1) = (g2 : Int) := by rw [IntKind.wrap_i64]; omega
        have hne : ¬ ((g2 : Int) = (g : Int)) := by omega
        have hneb : ((g2 : Int) == (g : Int)) = false := beq_eq_false_iff_ne.2 hne
        have hned : decide ((g2 : Int) = (g : Int)) = false := by simpa using hne
        obtain ⟨p2, hp2⟩ : ∃ p2, p2 = wordsB [(g2 : Int), y1, y2, y3, y4, y5, y6, y7, y8, 1] := ⟨_, rfl⟩
        have hcan2 : ancB (g2 : Int) y1 y2 y3 y4 y7 y8 1 = true := ancB_next g g2 hg2 (by omega) _ _ _ _ _ _ _ HCN.out
        have hp2f : fieldsI p2 = [(g2 : Int), y1, y2, y3, y4, y5, y6, y7, y8, 1] := by
          rw [hp2]
          refine fields_words _ rfl (fun x hx => ?_)
          have h0 := HRg.out
          simp only [List.mem_cons, List.not_mem_nil, or_false] at hx h0
          rcases hx with rfl | hx
          · omega
          · rcases hx with rfl | rfl | rfl | rfl | rfl | rfl | rfl | rfl | rfl
            all_goals first | omega | exact h0 _ (by simp)
        have HPF2 : Hid (p2.length = 80 ∧ (∀ x ∈ p2, x < 256) ∧ fieldsI p2 = [(g2 : Int), y1, y2, y3, y4, y5, y6, y7, y8, 1] ∧ ancB (g2 : Int) y1 y2 y3 y4 y7 y8 1 = true) := hidn ⟨by rw [hp2, wordsB_length]; rfl, by rw [hp2]; exact wordsB_lt _, hp2f, hcan2⟩
        obtain ⟨st', rv, hput, hag⟩ := again_put g p p2 (2 - 1 - 1) (by omega) (by rw [HPF.out.1]; omega) (by rw [HPF2.out.1]; omega) r hr1
        rw [← hg2] at hput
        have hoks : StOK ⟨savM g p, 2 - 1 - 1, (r : Int)⟩ 1 := ⟨by show (-1 : Int) ≤ r; omega, by show (r : Int) ≤ 9223372036854775807; omega, by show (0 : Int) ≤ 2 - 1 - 1; omega, by show (2 : Int) - 1 - 1 ≤ 1000000; omega, savM_len g p⟩
        have HAg := hidn hag
        have HPut := hidn hput
        have HP2 := hidn hp2
        clear hbig hcan2 hp2f hput hp2
        rcases hag.2 with ⟨hget, hrv⟩ | hget
        · have HSv := hidn (save_st _ dc Fc _ ⟨savM g p, 2 - 1 - 1, (r : Int)⟩ HD7z.out HS7z.out 1 hoks (by omega) (by unfold maxLen; omega) (savM_nil g p) (g : Int) y1 y2 y3 y4 y5 y6 y7 y8 1 g2 hgg HPF2.out.2.2.2 p2 HP2 st' rv HPut (.agg #[.int .i64 0, .int .i64 0, .int .i64 0, .int .i64 0, .int .i64 0, .int .i64 0, .int .i64 0, .int .i64 0, .int .i64 0, .int .i64 0]) (fun h => absurd h hrv) (fun _ => rfl))
          have hrvb : (rv != 0) = true := bne_iff_ne.2 hrv
          have hrvb2 : (rv == 0) = false := beq_eq_false_iff_ne.2 hrv
          have HGE := hidn hg2
          clear hag hoks hg2 hgg
          go_wp2_with fail
          clear hx0 hx1 hx2 hx3 hx4 hx5 hx6 hx7 hx8 hx9
          refine HSv.out.mono ?_
          clear HSv
          rintro e w8 ⟨rfl, F8, hD8, hG8⟩
          have HX8 := hidn ((hG8.1.block w2.heap.size (by rw [World.size_alloc]; have := HLx.out; omega) (HnF.out w2.heap.size HLx.out)).trans HX7z.out)
          have HZ8 := hidn ((hG8.1.block w7.heap.size (by rw [World.size_alloc]; omega) (fun hf => by have := HF7.out _ hf; omega)).trans (heap_alloc_new w7 (.cells #[.int .i64 (g : Int), .int .i64 y1, .int .i64 y2, .int .i64 y3, .int .i64 y4, .int .i64 y5, .int .i64 y6, .int .i64 y7, .int .i64 y8, .int .i64 1] 23)))
          have hb8 := HB7z.out.trans (hG8.1.below HB7z.out.size HgF.out)
          have hnz8 := hG8.not (b := w7.heap.size) (by rw [World.size_alloc]; omega) (fun hf => by have := HF7.out _ hf; omega)
          have HS8 := hidn (HS7z.out.gr hG8)
          have hs8 : w7.heap.size < w8.heap.size := by have := hG8.1.size; rw [World.size_alloc] at this; omega
          have HgF8 : Hid (∀ k, F8 k → w.heap.size ≤ k) := hidn (hG8.ge HB7z.out.size HgF.out)
          have hnx8 : ¬ F8 w2.heap.size := hG8.not (by rw [World.size_alloc]; have := HLx.out; omega) (HnF.out w2.heap.size HLx.out)
          have HD8 := hidn (disk_setRow hD8 w7.heap.size hnz8 #[.int .i64 0, .int .i64 0, .int .i64 0, .int .i64 0, .int .i64 0, .int .i64 0, .int .i64 0, .int .i64 0, .int .i64 0, .int .i64 0])
          have HR8 : Hid ((w8.setRow w7.heap.size #[.int .i64 0, .int .i64 0, .int .i64 0, .int .i64 0, .int .i64 0, .int .i64 0, .int .i64 0, .int .i64 0, .int .i64 0, .int .i64 0]).heap[w7.heap.size]? = some (.cells #[.int .i64 0, .int .i64 0, .int .i64 0, .int .i64 0, .int .i64 0, .int .i64 0, .int .i64 0, .int .i64 0, .int .i64 0, .int .i64 0] 23 (0, 0))) := hidn (setRow_heap _ _ _ _ _ _ HZ8.out)
          have HX8' := hidn ((setRow_otherA w8 w7.heap.size w2.heap.size #[.int .i64 0, .int .i64 0, .int .i64 0, .int .i64 0, .int .i64 0, .int .i64 0, .int .i64 0, .int .i64 0, .int .i64 0, .int .i64 0] (by have := HLx.out; omega)).trans HX8.out)
          have HB8 := hidn (below_setRow hb8 (by have := HB7.out.size; omega) #[.int .i64 0, .int .i64 0, .int .i64 0, .int .i64 0, .int .i64 0, .int .i64 0, .int .i64 0, .int .i64 0, .int .i64 0, .int .i64 0])
          have HS8' : Hid (Sound5 (w8.setRow w7.heap.size #[.int .i64 0, .int .i64 0, .int .i64 0, .int .i64 0, .int .i64 0, .int .i64 0, .int .i64 0, .int .i64 0, .int .i64 0, .int .i64 0]) F8) := hidn ⟨HT.out.below HB8.out, HS8.out.far, fun k hk => by rw [size_setRow]; exact HS8.out.lt k hk⟩
          clear hD8 hG8 hb8
          simp only []
          go_at_K
          repeat (first
            | (with_reducible refine wpList_store_row (by rfl) 23 (.tmp 18) (.tmp 99) (by rfl) w7.heap.size #[.int .i64 0, .int .i64 0, .int .i64 0, .int .i64 0, .int .i64 0, .int .i64 0, .int .i64 0, .int .i64 0, .int .i64 0, .int .i64 0] (by kernel_rfl) (by kernel_rfl) 23 #[.int .i64 (g : Int), .int .i64 y1, .int .i64 y2, .int .i64 y3, .int .i64 y4, .int .i64 y5, .int .i64 y6, .int .i64 y7, .int .i64 y8, .int .i64 1] HZ8.out (by kernel_rfl) (by kernel_rfl) (by kernel_rfl) ?_)
            | go_values | go_skip | go_guarded | go_step | go_upon)
          obtain ⟨W8, hW8⟩ : ∃ W8, W8 = w8.setRow w7.heap.size #[.int .i64 0, .int .i64 0, .int .i64 0, .int .i64 0, .int .i64 0, .int .i64 0, .int .i64 0, .int .i64 0, .int .i64 0, .int .i64 0] := ⟨_, rfl⟩
          have hsW : w8.heap.size = W8.heap.size := by rw [hW8, size_setRow]
          rw [← hW8] at HD8 HR8 HX8' HB8 HS8' ⊢
          clear hW8 HX8 HZ8
          refine (crash_disk W8 dc F8 _ st'.M st'.free st'.fuse HD8.out HS8'.out.lt none 0 0 (fun _ _ => 0) (firstKept_none _ none 0)).mono ?_
          rintro e w9 ⟨rfl, hD9, hG9⟩
          have HB9 := hidn (HB8.out.trans (hG9.1.below HB8.out.size HgF8.out))
          have HS9 := hidn (HS8'.out.gr hG9)
          have hs9 : W8.heap.size ≤ w9.heap.size := hG9.1.size
          have HX9 := hidn ((hG9.1.block w2.heap.size (by have := HLx.out; omega) hnx8).trans HX8'.out)
          have HZ9 := hidn ((hG9.1.block w7.heap.size (by omega) hnz8).trans HR8.out)
          have HLd := hidn (load_yes w9 dc F8 _ _ _ _ hD9 HS9.out.tab (show fellL _ (st'.M []) = [] by rw [HAg.out.1]; rfl) g y1 y2 y3 y4 y5 y6 y7 y8 y9 p HPF.out.2.1 HPF.out.1 hget HPF.out.2.2.1 HPF.out.2.2.2)
          clear hD9 hG9 HD8 HB8 HX8' HR8 HS8'
          go_wp2_with fail
          refine HLd.out.mono ?_
          clear HLd
          rintro e w10 ⟨rfl, hb10⟩
          have hs10 := hb10.size
          have hbA := below1 w10 (.cells #[.int .i64 (g : Int), .int .i64 y1, .int .i64 y2, .int .i64 y3, .int .i64 y4, .int .i64 y5, .int .i64 y6, .int .i64 y7, .int .i64 y8, .int .i64 y9] 23)
          have HB10 := hidn ((HB9.out.trans (hb10.mono HB9.out.size)).alloc (Nat.le_trans HB9.out.size hb10.size) (.cells #[.int .i64 (g : Int), .int .i64 y1, .int .i64 y2, .int .i64 y3, .int .i64 y4, .int .i64 y5, .int .i64 y6, .int .i64 y7, .int .i64 y8, .int .i64 y9] 23))
          obtain ⟨hx0, hx1, hx2, hx3, hx4, hx5, hx6, hx7, hx8, hx9⟩ := ten_cells ((hbA.block w2.heap.size (by have := HLx.out; omega)).trans ((hb10.block w2.heap.size (by have := HLx.out; omega)).trans HX9.out))
          obtain ⟨hz0, hz1, hz2, hz3, hz4, hz5, hz6, hz7, hz8, hz9⟩ := ten_cells ((hbA.block w7.heap.size (by omega)).trans ((hb10.block w7.heap.size (by omega)).trans HZ9.out))
          clear hb10 hbA HX9 HZ9 HB9
          have HAW := hidn (awake17_any _ (HT.out.below HB10.out))
          go_wp2_with fail
          refine HAW.out.mono ?_
          rintro e w11 ⟨rfl, hb11⟩
          have hb12 := HB10.out.trans (hb11.mono HB10.out.size)
          go_wp2
          go_ret
          exact ⟨rfl, hb12⟩
        · rw [← hg2] at hget
          by_cases hrv : rv = 0
          · subst hrv
            have HSv := hidn (save_st _ dc Fc _ ⟨savM g p, 2 - 1 - 1, (r : Int)⟩ HD7z.out HS7z.out 1 hoks (by omega) (by unfold maxLen; omega) (savM_nil g p) (g : Int) y1 y2 y3 y4 y5 y6 y7 y8 1 g2 hgg HPF2.out.2.2.2 p2 HP2 st' 0 HPut (.agg #[.int .i64 (g2 : Int), .int .i64 y1, .int .i64 y2, .int .i64 y3, .int .i64 y4, .int .i64 y5, .int .i64 y6, .int .i64 y7, .int .i64 y8, .int .i64 1]) (fun _ => rfl) (fun h => absurd rfl h))
            have HGE := hidn hg2
            clear hag hoks hg2 hgg
            go_wp2_with fail
            clear hx0 hx1 hx2 hx3 hx4 hx5 hx6 hx7 hx8 hx9
            refine HSv.out.mono ?_
            clear HSv
            rintro e w8 ⟨rfl, F8, hD8, hG8⟩
            have HX8 := hidn ((hG8.1.block w2.heap.size (by rw [World.size_alloc]; have := HLx.out; omega) (HnF.out w2.heap.size HLx.out)).trans HX7z.out)
            have HZ8 := hidn ((hG8.1.block w7.heap.size (by rw [World.size_alloc]; omega) (fun hf => by have := HF7.out _ hf; omega)).trans (heap_alloc_new w7 (.cells #[.int .i64 (g : Int), .int .i64 y1, .int .i64 y2, .int .i64 y3, .int .i64 y4, .int .i64 y5, .int .i64 y6, .int .i64 y7, .int .i64 y8, .int .i64 1] 23)))
            have hb8 := HB7z.out.trans (hG8.1.below HB7z.out.size HgF.out)
            have hnz8 := hG8.not (b := w7.heap.size) (by rw [World.size_alloc]; omega) (fun hf => by have := HF7.out _ hf; omega)
            have HS8 := hidn (HS7z.out.gr hG8)
            have hs8 : w7.heap.size < w8.heap.size := by have := hG8.1.size; rw [World.size_alloc] at this; omega
            have HgF8 : Hid (∀ k, F8 k → w.heap.size ≤ k) := hidn (hG8.ge HB7z.out.size HgF.out)
            have hnx8 : ¬ F8 w2.heap.size := hG8.not (by rw [World.size_alloc]; have := HLx.out; omega) (HnF.out w2.heap.size HLx.out)
            have HD8 := hidn (disk_setRow hD8 w7.heap.size hnz8 #[.int .i64 (g2 : Int), .int .i64 y1, .int .i64 y2, .int .i64 y3, .int .i64 y4, .int .i64 y5, .int .i64 y6, .int .i64 y7, .int .i64 y8, .int .i64 1])
            have HR8 : Hid ((w8.setRow w7.heap.size #[.int .i64 (g2 : Int), .int .i64 y1, .int .i64 y2, .int .i64 y3, .int .i64 y4, .int .i64 y5, .int .i64 y6, .int .i64 y7, .int .i64 y8, .int .i64 1]).heap[w7.heap.size]? = some (.cells #[.int .i64 (g2 : Int), .int .i64 y1, .int .i64 y2, .int .i64 y3, .int .i64 y4, .int .i64 y5, .int .i64 y6, .int .i64 y7, .int .i64 y8, .int .i64 1] 23 (0, 0))) := hidn (setRow_heap _ _ _ _ _ _ HZ8.out)
            have HX8' := hidn ((setRow_otherA w8 w7.heap.size w2.heap.size #[.int .i64 (g2 : Int), .int .i64 y1, .int .i64 y2, .int .i64 y3, .int .i64 y4, .int .i64 y5, .int .i64 y6, .int .i64 y7, .int .i64 y8, .int .i64 1] (by have := HLx.out; omega)).trans HX8.out)
            have HB8 := hidn (below_setRow hb8 (by have := HB7.out.size; omega) #[.int .i64 (g2 : Int), .int .i64 y1, .int .i64 y2, .int .i64 y3, .int .i64 y4, .int .i64 y5, .int .i64 y6, .int .i64 y7, .int .i64 y8, .int .i64 1])
            have HS8' : Hid (Sound5 (w8.setRow w7.heap.size #[.int .i64 (g2 : Int), .int .i64 y1, .int .i64 y2, .int .i64 y3, .int .i64 y4, .int .i64 y5, .int .i64 y6, .int .i64 y7, .int .i64 y8, .int .i64 1]) F8) := hidn ⟨HT.out.below HB8.out, HS8.out.far, fun k hk => by rw [size_setRow]; exact HS8.out.lt k hk⟩
            clear hD8 hG8 hb8
            simp only []
            go_at_K
            repeat (first
              | (with_reducible refine wpList_store_row (by rfl) 23 (.tmp 18) (.tmp 99) (by rfl) w7.heap.size #[.int .i64 (g2 : Int), .int .i64 y1, .int .i64 y2, .int .i64 y3, .int .i64 y4, .int .i64 y5, .int .i64 y6, .int .i64 y7, .int .i64 y8, .int .i64 1] (by kernel_rfl) (by kernel_rfl) 23 #[.int .i64 (g : Int), .int .i64 y1, .int .i64 y2, .int .i64 y3, .int .i64 y4, .int .i64 y5, .int .i64 y6, .int .i64 y7, .int .i64 y8, .int .i64 1] HZ8.out (by kernel_rfl) (by kernel_rfl) (by kernel_rfl) ?_)
              | go_values | go_skip | go_guarded | go_step | go_upon)
            obtain ⟨W8, hW8⟩ : ∃ W8, W8 = w8.setRow w7.heap.size #[.int .i64 (g2 : Int), .int .i64 y1, .int .i64 y2, .int .i64 y3, .int .i64 y4, .int .i64 y5, .int .i64 y6, .int .i64 y7, .int .i64 y8, .int .i64 1] := ⟨_, rfl⟩
            have hsW : w8.heap.size = W8.heap.size := by rw [hW8, size_setRow]
            rw [← hW8] at HD8 HR8 HX8' HB8 HS8' ⊢
            clear hW8 HX8 HZ8
            refine (crash_disk W8 dc F8 _ st'.M st'.free st'.fuse HD8.out HS8'.out.lt none 0 0 (fun _ _ => 0) (firstKept_none _ none 0)).mono ?_
            rintro e w9 ⟨rfl, hD9, hG9⟩
            have HB9 := hidn (HB8.out.trans (hG9.1.below HB8.out.size HgF8.out))
            have HS9 := hidn (HS8'.out.gr hG9)
            have hs9 : W8.heap.size ≤ w9.heap.size := hG9.1.size
            have HX9 := hidn ((hG9.1.block w2.heap.size (by have := HLx.out; omega) hnx8).trans HX8'.out)
            have HZ9 := hidn ((hG9.1.block w7.heap.size (by omega) hnz8).trans HR8.out)
            have HLd := hidn (load_yes w9 dc F8 _ _ _ _ hD9 HS9.out.tab (show fellL _ (st'.M []) = [] by rw [HAg.out.1]; rfl) g2 y1 y2 y3 y4 y5 y6 y7 y8 1 p2 HPF2.out.2.1 HPF2.out.1 hget HPF2.out.2.2.1 HPF2.out.2.2.2)
            clear hD9 hG9 HD8 HB8 HX8' HR8 HS8'
            go_wp2_with fail
            refine HLd.out.mono ?_
            clear HLd
            rintro e w10 ⟨rfl, hb10⟩
            have hs10 := hb10.size
            have hbA := below1 w10 (.cells #[.int .i64 (g2 : Int), .int .i64 y1, .int .i64 y2, .int .i64 y3, .int .i64 y4, .int .i64 y5, .int .i64 y6, .int .i64 y7, .int .i64 y8, .int .i64 1] 23)
            have HB10 := hidn ((HB9.out.trans (hb10.mono HB9.out.size)).alloc (Nat.le_trans HB9.out.size hb10.size) (.cells #[.int .i64 (g2 : Int), .int .i64 y1, .int .i64 y2, .int .i64 y3, .int .i64 y4, .int .i64 y5, .int .i64 y6, .int .i64 y7, .int .i64 y8, .int .i64 1] 23))
            obtain ⟨hx0, hx1, hx2, hx3, hx4, hx5, hx6, hx7, hx8, hx9⟩ := ten_cells ((hbA.block w2.heap.size (by have := HLx.out; omega)).trans ((hb10.block w2.heap.size (by have := HLx.out; omega)).trans HX9.out))
            obtain ⟨hz0, hz1, hz2, hz3, hz4, hz5, hz6, hz7, hz8, hz9⟩ := ten_cells ((hbA.block w7.heap.size (by omega)).trans ((hb10.block w7.heap.size (by omega)).trans HZ9.out))
            clear hb10 hbA HX9 HZ9 HB9
            have HAW := hidn (awake17_any _ (HT.out.below HB10.out))
            go_wp2_with fail
            refine HAW.out.mono ?_
            rintro e w11 ⟨rfl, hb11⟩
            have hb12 := HB10.out.trans (hb11.mono HB10.out.size)
            go_wp2
            go_ret
            exact ⟨rfl, hb12⟩
          · have HSv := hidn (save_st _ dc Fc _ ⟨savM g p, 2 - 1 - 1, (r : Int)⟩ HD7z.out HS7z.out 1 hoks (by omega) (by unfold maxLen; omega) (savM_nil g p) (g : Int) y1 y2 y3 y4 y5 y6 y7 y8 1 g2 hgg HPF2.out.2.2.2 p2 HP2 st' rv HPut (.agg #[.int .i64 0, .int .i64 0, .int .i64 0, .int .i64 0, .int .i64 0, .int .i64 0, .int .i64 0, .int .i64 0, .int .i64 0, .int .i64 0]) (fun h => absurd h hrv) (fun _ => rfl))
            have hrvb : (rv != 0) = true := bne_iff_ne.2 hrv
            have hrvb2 : (rv == 0) = false := beq_eq_false_iff_ne.2 hrv
            have HGE := hidn hg2
            clear hag hoks hg2 hgg
            go_wp2_with fail
            clear hx0 hx1 hx2 hx3 hx4 hx5 hx6 hx7 hx8 hx9
            refine HSv.out.mono ?_
            clear HSv
            rintro e w8 ⟨rfl, F8, hD8, hG8⟩
            have HX8 := hidn ((hG8.1.block w2.heap.size (by rw [World.size_alloc]; have := HLx.out; omega) (HnF.out w2.heap.size HLx.out)).trans HX7z.out)
            have HZ8 := hidn ((hG8.1.block w7.heap.size (by rw [World.size_alloc]; omega) (fun hf => by have := HF7.out _ hf; omega)).trans (heap_alloc_new w7 (.cells #[.int .i64 (g : Int), .int .i64 y1, .int .i64 y2, .int .i64 y3, .int .i64 y4, .int .i64 y5, .int .i64 y6, .int .i64 y7, .int .i64 y8, .int .i64 1] 23)))
            have hb8 := HB7z.out.trans (hG8.1.below HB7z.out.size HgF.out)
            have hnz8 := hG8.not (b := w7.heap.size) (by rw [World.size_alloc]; omega) (fun hf => by have := HF7.out _ hf; omega)
            have HS8 := hidn (HS7z.out.gr hG8)
            have hs8 : w7.heap.size < w8.heap.size := by have := hG8.1.size; rw [World.size_alloc] at this; omega
            have HgF8 : Hid (∀ k, F8 k → w.heap.size ≤ k) := hidn (hG8.ge HB7z.out.size HgF.out)
            have hnx8 : ¬ F8 w2.heap.size := hG8.not (by rw [World.size_alloc]; have := HLx.out; omega) (HnF.out w2.heap.size HLx.out)
            have HD8 := hidn (disk_setRow hD8 w7.heap.size hnz8 #[.int .i64 0, .int .i64 0, .int .i64 0, .int .i64 0, .int .i64 0, .int .i64 0, .int .i64 0, .int .i64 0, .int .i64 0, .int .i64 0])
            have HR8 : Hid ((w8.setRow w7.heap.size #[.int .i64 0, .int .i64 0, .int .i64 0, .int .i64 0, .int .i64 0, .int .i64 0, .int .i64 0, .int .i64 0, .int .i64 0, .int .i64 0]).heap[w7.heap.size]? = some (.cells #[.int .i64 0, .int .i64 0, .int .i64 0, .int .i64 0, .int .i64 0, .int .i64 0, .int .i64 0, .int .i64 0, .int .i64 0, .int .i64 0] 23 (0, 0))) := hidn (setRow_heap _ _ _ _ _ _ HZ8.out)
            have HX8' := hidn ((setRow_otherA w8 w7.heap.size w2.heap.size #[.int .i64 0, .int .i64 0, .int .i64 0, .int .i64 0, .int .i64 0, .int .i64 0, .int .i64 0, .int .i64 0, .int .i64 0, .int .i64 0] (by have := HLx.out; omega)).trans HX8.out)
            have HB8 := hidn (below_setRow hb8 (by have := HB7.out.size; omega) #[.int .i64 0, .int .i64 0, .int .i64 0, .int .i64 0, .int .i64 0, .int .i64 0, .int .i64 0, .int .i64 0, .int .i64 0, .int .i64 0])
            have HS8' : Hid (Sound5 (w8.setRow w7.heap.size #[.int .i64 0, .int .i64 0, .int .i64 0, .int .i64 0, .int .i64 0, .int .i64 0, .int .i64 0, .int .i64 0, .int .i64 0, .int .i64 0]) F8) := hidn ⟨HT.out.below HB8.out, HS8.out.far, fun k hk => by rw [size_setRow]; exact HS8.out.lt k hk⟩
            clear hD8 hG8 hb8
            simp only []
            go_at_K
            repeat (first
              | (with_reducible refine wpList_store_row (by rfl) 23 (.tmp 18) (.tmp 99) (by rfl) w7.heap.size #[.int .i64 0, .int .i64 0, .int .i64 0, .int .i64 0, .int .i64 0, .int .i64 0, .int .i64 0, .int .i64 0, .int .i64 0, .int .i64 0] (by kernel_rfl) (by kernel_rfl) 23 #[.int .i64 (g : Int), .int .i64 y1, .int .i64 y2, .int .i64 y3, .int .i64 y4, .int .i64 y5, .int .i64 y6, .int .i64 y7, .int .i64 y8, .int .i64 1] HZ8.out (by kernel_rfl) (by kernel_rfl) (by kernel_rfl) ?_)
              | go_values | go_skip | go_guarded | go_step | go_upon)
            obtain ⟨W8, hW8⟩ : ∃ W8, W8 = w8.setRow w7.heap.size #[.int .i64 0, .int .i64 0, .int .i64 0, .int .i64 0, .int .i64 0, .int .i64 0, .int .i64 0, .int .i64 0, .int .i64 0, .int .i64 0] := ⟨_, rfl⟩
            have hsW : w8.heap.size = W8.heap.size := by rw [hW8, size_setRow]
            rw [← hW8] at HD8 HR8 HX8' HB8 HS8' ⊢
            clear hW8 HX8 HZ8
            refine (crash_disk W8 dc F8 _ st'.M st'.free st'.fuse HD8.out HS8'.out.lt none 0 0 (fun _ _ => 0) (firstKept_none _ none 0)).mono ?_
            rintro e w9 ⟨rfl, hD9, hG9⟩
            have HB9 := hidn (HB8.out.trans (hG9.1.below HB8.out.size HgF8.out))
            have HS9 := hidn (HS8'.out.gr hG9)
            have hs9 : W8.heap.size ≤ w9.heap.size := hG9.1.size
            have HX9 := hidn ((hG9.1.block w2.heap.size (by have := HLx.out; omega) hnx8).trans HX8'.out)
            have HZ9 := hidn ((hG9.1.block w7.heap.size (by omega) hnz8).trans HR8.out)
            have HLd := hidn (load_yes w9 dc F8 _ _ _ _ hD9 HS9.out.tab (show fellL _ (st'.M []) = [] by rw [HAg.out.1]; rfl) g2 y1 y2 y3 y4 y5 y6 y7 y8 1 p2 HPF2.out.2.1 HPF2.out.1 hget HPF2.out.2.2.1 HPF2.out.2.2.2)
            clear hD9 hG9 HD8 HB8 HX8' HR8 HS8'
            go_wp2_with fail
            refine HLd.out.mono ?_
            clear HLd
            rintro e w10 ⟨rfl, hb10⟩
            have hs10 := hb10.size
            have hbA := below1 w10 (.cells #[.int .i64 (g2 : Int), .int .i64 y1, .int .i64 y2, .int .i64 y3, .int .i64 y4, .int .i64 y5, .int .i64 y6, .int .i64 y7, .int .i64 y8, .int .i64 1] 23)
            have HB10 := hidn ((HB9.out.trans (hb10.mono HB9.out.size)).alloc (Nat.le_trans HB9.out.size hb10.size) (.cells #[.int .i64 (g2 : Int), .int .i64 y1, .int .i64 y2, .int .i64 y3, .int .i64 y4, .int .i64 y5, .int .i64 y6, .int .i64 y7, .int .i64 y8, .int .i64 1] 23))
            obtain ⟨hx0, hx1, hx2, hx3, hx4, hx5, hx6, hx7, hx8, hx9⟩ := ten_cells ((hbA.block w2.heap.size (by have := HLx.out; omega)).trans ((hb10.block w2.heap.size (by have := HLx.out; omega)).trans HX9.out))
            obtain ⟨hz0, hz1, hz2, hz3, hz4, hz5, hz6, hz7, hz8, hz9⟩ := ten_cells ((hbA.block w7.heap.size (by omega)).trans ((hb10.block w7.heap.size (by omega)).trans HZ9.out))
            clear hb10 hbA HX9 HZ9 HB9
            have HAW := hidn (awake17_any _ (HT.out.below HB10.out))
            go_wp2_with fail
            refine HAW.out.mono ?_
            rintro e w11 ⟨rfl, hb11⟩
            have hb12 := HB10.out.trans (hb11.mono HB10.out.size)
            go_wp2
            go_ret
            exact ⟨rfl, hb12⟩

theorem anchorSaves_walk (y0 y1 y2 y3 y4 y5 y6 y7 y8 y9 : Int) (hr : ∀ x ∈ [y0, y1, y2, y3, y4, y5, y6, y7, y8, y9], -9223372036854775808 ≤ x ∧ x ≤ 9223372036854775807) (which : Bool) (ia : Option Addr) (il ic : Nat) (xs : List Int) (fz : Int) (w : World) (hX : Ils w ia il xs) (hT : CrcTab w) :
    Calls Tryd.prog 6 #[.agg #[.int .i64 y0, .int .i64 y1, .int .i64 y2, .int .i64 y3, .int .i64 y4, .int .i64 y5, .int .i64 y6, .int .i64 y7, .int .i64 y8, .int .i64 y9], .bool which, .slice ia il ic, .int .i64 fz] w fun e w' => e = .returned (.bool true) ∧ Below w.heap.size w w' := by
  cases hcan : ancB (IntKind.i64.wrap (y0 + 1)) y1 y2 y3 y4 y7 y8 y9 with
  | false => exact anchorSaves_no y0 y1 y2 y3 y4 y5 y6 y7 y8 y9 hr which _ fz _ rfl hcan w hT
  | true =>
    have h0 := hr y0 (by simp)
    have h1 : 1 ≤ IntKind.i64.wrap (y0 + 1) := by
      simp [ancB, inN] at hcan
      omega
    have h2 : y0 + 1 = ((y0 + 1).toNat : Int) ∧ IntKind.i64.wrap (y0 + 1) = ((y0 + 1).toNat : Int) := by
      rw [IntKind.wrap_i64] at h1 ⊢
      omega
    rw [h2.2] at hcan
    exact anchorSaves_yes y0 y1 y2 y3 y4 y5 y6 y7 y8 y9 hr which ia il ic xs fz _ h2.1 hcan w hX hT
end Go.Proofs.YtoopdmfijbbfdaaDoor
