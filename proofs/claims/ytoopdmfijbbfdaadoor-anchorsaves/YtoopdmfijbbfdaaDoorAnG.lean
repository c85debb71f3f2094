/- anchor: awake. -/
import Derived.Test.YtoopdmfijbbfdaaDoorAnF
namespace Go.Proofs.YtoopdmfijbbfdaaDoor
open Go.RowKit Go.Maps
set_option linter.unusedVariables false

theorem i64_u64 (x : Int) (h1 : -9223372036854775808 ≤ x) (h2 : x ≤ 9223372036854775807) : IntKind.i64.wrap ((u64 x % 256 ^ 8 : Nat) : Int) = x := by
  rw [IntKind.wrap_i64]
  unfold u64
  have : (256 : Nat) ^ 8 = 18446744073709551616 := by decide
  rw [this]
  omega

theorem words_part : ∀ (xs : List Int) (j : Nat) (x : Int), xs[j]? = some x → ((wordsB xs).drop (j * 8)).take 8 = putB (u64 x) 8
  | y :: r, 0, x, h => by
    cases h
    rw [wordsB_cons, Nat.zero_mul, List.drop_zero, List.take_left' (putB_length _ _)]
  | y :: r, j + 1, x, h => by
    have h' : r[j]? = some x := by simpa using h
    rw [wordsB_cons, show (j + 1) * 8 = 8 + j * 8 by omega, ← List.drop_drop, List.drop_left' (putB_length _ _)]
    exact words_part r j x h'

theorem fld_words (xs : List Int) (j : Nat) (x : Int) (h : xs[j]? = some x) (h1 : -9223372036854775808 ≤ x) (h2 : x ≤ 9223372036854775807) : fld (wordsB xs) j = x := by
  unfold fld
  rw [words_part xs j x h, getB_putB]
  exact i64_u64 x h1 h2

theorem fields_words (xs : List Int) (hl : xs.length = 10) (hr : ∀ x ∈ xs, -9223372036854775808 ≤ x ∧ x ≤ 9223372036854775807) : fieldsI (wordsB xs) = xs := by
  apply List.ext_getElem?
  intro j
  unfold fieldsI
  rw [List.getElem?_map]
  by_cases hj : j < 10
  · rw [List.getElem?_range hj, Option.map_some]
    obtain ⟨x, hx⟩ : ∃ x, xs[j]? = some x := ⟨_, List.getElem?_eq_getElem (by omega)⟩
    obtain ⟨h1, h2⟩ := hr x (List.mem_of_getElem? hx)
    rw [hx, fld_words xs j x hx h1 h2]
  · rw [List.getElem?_eq_none (by simp; omega), List.getElem?_eq_none (by omega)]
    rfl

/-- What a pair of two synced extents says. -/
theorem getP_saved (M : List UInt8 → List Ext) (g : Nat) (hg : g ≤ 4611686018427387904) (p : List Nat) (hp : p.length ≤ 106) :
    getP (upd (upd M (fileA ancN).data.toList [(zeroE.wrote (frameB (nums (fileA ancN)) 0 g p)).synced]) (fileB ancN).data.toList [(zeroE.wrote (frameB (nums (fileB ancN)) 0 g p)).synced]) ancN 0 = some (p, g) := by
  unfold getP
  rw [upd_other _ _ _ _ (file_ne ancN).symm, upd_same, upd_same]
  have e : ∀ (nm z : List Nat), openB z nm 0 = some (p, g) → rdO [(zeroE.wrote z).synced] nm 0 = some (p, g) := fun nm z h => by
    unfold rdO
    rw [if_neg (by omega)]
    exact h
  rw [e _ _ (openB_frame _ 0 g p (by omega) hg hp), e _ _ (openB_frame _ 0 g p (by omega) hg hp)]
  simp [getO]

set_option maxHeartbeats 1000000 in
theorem fresh_any (w : World) :
    Calls Tryd.prog 18 #[] w fun e w' => e = .returned (.agg #[.int .i64 0, .int .i64 1, .int .i64 0, .int .i64 1, .int .i64 0, .int .i64 (-9223372036854775808), .int .i64 (-9223372036854775808), .int .i64 0, .int .i64 1, .int .i64 0]) ∧ Below w.heap.size w w' := by
  go_enter Tryd.func18, Tryd.ntmps18
  go_wp2
  exact bodyPost_ret (v := .agg #[.int .i64 0, .int .i64 1, .int .i64 0, .int .i64 1, .int .i64 0, .int .i64 (-9223372036854775808), .int .i64 (-9223372036854775808), .int .i64 0, .int .i64 1, .int .i64 0]) (results_cell_row rfl _ _ w.heap.size 23 _ (0, 0) _ rfl (heap_alloc_new _ _) Tryd.underlying23 rfl (by kernel_rfl)) rfl ⟨rfl, below1 _ _⟩

set_option maxHeartbeats 2000000 in
theorem awake17_any (w : World) (hT : CrcTab w) :
    Calls Tryd.prog 15 #[] w fun e w' => e = .returned (.bool true) ∧ Below w.heap.size w w' := by
  have HT := hidn hT
  obtain ⟨g, hg⟩ : ∃ g : Nat, g = 1 := ⟨_, rfl⟩
  obtain ⟨p, hp⟩ : ∃ p, p = wordsB [(g : Int), 1, 0, 1, 0, (-9223372036854775808), (-9223372036854775808), 0, 1, 0] := ⟨_, rfl⟩
  have hpl : p.length = 80 := by rw [hp, wordsB_length]; rfl
  have hpz : ∀ x ∈ p, x < 256 := by rw [hp]; exact wordsB_lt _
  have hpf : fieldsI p = [(g : Int), 1, 0, 1, 0, (-9223372036854775808), (-9223372036854775808), 0, 1, 0] := by
    rw [hp]
    refine fields_words _ rfl (fun x hx => ?_)
    simp only [List.mem_cons, List.not_mem_nil, or_false] at hx
    omega
  have hcan : ancB (g : Int) 1 0 1 0 0 1 0 = true := by rw [hg]; decide
  have hgm : g ≤ 4611686018427387904 := by omega
  have HSV := hidn save_new
  have HLD := hidn load_yes
  have HP := hidn hp
  have hgs : decide ((g : Int) = 1) = true := by rw [hg]; rfl
  have hgs2 : ((g : Int) == 1) = true := by rw [hg]; rfl
  have hg01 : (0 : Int) + 1 = (g : Int) := by omega
  have HGF := hidn (And.intro hpl (And.intro hpz (And.intro hpf (And.intro hcan hg01))))
  have HGG := hidn hg
  clear hT hp hpl hpz hpf hcan hg hg01
  go_enter Tryd.func15, Tryd.ntmps15
  go_wp2_with fail
  refine (new_any _ 2 (by omega)).mono ?_
  rintro e w1 ⟨rfl, hD1, hb1, hs1⟩
  have HD1 := hidn hD1
  have HB1 := hidn hb1
  have HS1 : Hid (Sound5 w1 (fun k => w.heap.size ≤ k ∧ k < w.heap.size + 2)) := hidn ⟨HT.out.below hb1, fun hF => by have := HT.out.lt; omega, fun k hk => by omega⟩
  clear hD1 hb1 hs1
  go_wp2_with fail
  refine (fresh_any _).mono ?_
  rintro e w2 ⟨rfl, hb2⟩
  have HSave := hidn (HSV.out w2 (w.heap.size + 1) _ 0 (fun _ => []) 2 (HD1.out.below hb2) (HS1.out.below hb2) rfl rfl rfl (by unfold maxLen; omega) (by omega) (by omega) (fun _ => Nat.zero_le _) 0 1 0 1 0 (-9223372036854775808) (-9223372036854775808) 0 1 0 g HGF.out.2.2.2.2 HGF.out.2.2.2.1 _ _ p HP (hidn rfl) (hidn rfl))
  have HB2 := hidn (HB1.out.trans (hb2.mono HB1.out.size))
  have HS2 := hidn (HS1.out.below hb2)
  clear hb2 HD1 HSV HB1 HS1
  go_wp2_with fail
  refine HSave.out.mono ?_
  clear HSave
  rintro e w3 ⟨rfl, F3, hD3, hG3⟩
  have HB3 := hidn (HB2.out.trans (hG3.1.below HB2.out.size (fun k hk => hk.1)))
  have HS3 := hidn (HS2.out.gr hG3)
  have HD3 := hidn hD3
  clear hD3 hG3 HB2 HS2
  have hbA := below1 w3 (.cells #[.int .i64 (g : Int), .int .i64 1, .int .i64 0, .int .i64 1, .int .i64 0, .int .i64 (-9223372036854775808), .int .i64 (-9223372036854775808), .int .i64 0, .int .i64 1, .int .i64 0] 23)
  have HLoad := hidn (HLD.out _ (w.heap.size + 1) F3 _ _ _ _ (HD3.out.below hbA) (HS3.out.tab.below hbA) (by rw [upd_other _ _ _ _ ancN_names.2.2.2.2, upd_other _ _ _ _ ancN_names.2.2.2.1]) g 1 0 1 0 (-9223372036854775808) (-9223372036854775808) 0 1 0 p HGF.out.2.1 HGF.out.1 (getP_saved _ g hgm p (by rw [HGF.out.1]; omega)) HGF.out.2.2.1 HGF.out.2.2.2.1)
  clear HLD HD3
  go_wp2_with fail
  refine HLoad.out.mono ?_
  clear HLoad
  rintro e w4 ⟨rfl, hb4⟩
  have hb34 := HB3.out.alloc HB3.out.size (.cells #[.int .i64 (g : Int), .int .i64 1, .int .i64 0, .int .i64 1, .int .i64 0, .int .i64 (-9223372036854775808), .int .i64 (-9223372036854775808), .int .i64 0, .int .i64 1, .int .i64 0] 23)
  have HB4 := hidn (hb34.trans (hb4.mono hb34.size))
  have hs4 : w3.heap.size < w4.heap.size := by have := hb4.size; rw [World.size_alloc] at this; omega
  obtain ⟨hc0, hc1, hc2, hc3, hc4, hc5, hc6, hc7, hc8, hc9⟩ := ten_cells ((Below.heap_alloc w4 (.cells #[.int .i64 (g : Int), .int .i64 1, .int .i64 0, .int .i64 1, .int .i64 0, .int .i64 (-9223372036854775808), .int .i64 (-9223372036854775808), .int .i64 0, .int .i64 1, .int .i64 0] 23) w3.heap.size hs4).trans ((hb4.block w3.heap.size (by rw [World.size_alloc]; omega)).trans (heap_alloc_new w3 _)))
  clear hb4 hbA hb34 HB3 HS3
  go_wp2
  go_ret
  exact ⟨rfl, HB4.out.alloc HB4.out.size _⟩
end Go.Proofs.YtoopdmfijbbfdaaDoor
