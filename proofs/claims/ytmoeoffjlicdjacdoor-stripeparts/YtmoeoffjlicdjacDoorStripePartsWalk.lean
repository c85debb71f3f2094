/- The walk of dryrotlaw06.StripeParts: it returns true. -/
import Derived.Test.YtmoeoffjlicdjacDoorStrPartsX
namespace Go.Proofs.YtmoeoffjlicdjacDoor
open Go.RowKit Go.Maps
set_option linter.unusedVariables false

theorem uwrap (x : Int) : ∃ u : Nat, IntKind.u64.wrap x = (u : Int) ∧ u < 18446744073709551616 := by
  refine ⟨(IntKind.u64.wrap x).toNat, ?_, ?_⟩ <;> rw [IntKind.wrap_u64] <;> omega

set_option maxHeartbeats 2000000 in
theorem stripeParts_walk (a : Option Addr) (len cap : Nat) (zs : List Nat) (gen fr to : Int) (w : World) (hB : Bs w a len zs) (hcap : len ≤ cap) (hcm : cap ≤ maxLen) (hT : CrcTab w) :
    Calls Tryd.prog 6 #[.slice a len cap, .int .i64 gen, .int .i64 fr, .int .i64 to] w fun e w' => e = .returned (.bool true) ∧ Below w.heap.size w w' := by
  obtain ⟨m, hm⟩ : ∃ m, m = min len 1500 := ⟨_, rfl⟩
  have hmn : (if (1500 : Int) < (len : Int) then (1500 : Int) else (len : Int)) = (m : Int) := by split <;> omega
  have hBm := bs_cut6 hB m (by omega)
  obtain ⟨pp, hpp⟩ : ∃ pp, pp = zs.take m := ⟨_, rfl⟩
  rw [← hpp] at hBm
  obtain ⟨E, hE⟩ : ∃ E, E = grpB m := ⟨_, rfl⟩
  have hE6 : E ≤ 5 := by rw [hE]; unfold grpB; split <;> omega
  have hmc : (m : Int) ≤ (cap : Int) := by omega
  have hm6 : m ≤ 1500 := by omega
  have HE := hidn hE
  obtain ⟨u, hu, hub⟩ := uwrap gen
  obtain ⟨g, hg⟩ : ∃ g, g = u % 4611686018427387905 := ⟨_, rfl⟩
  have hgm : (u : Int).tmod 4611686018427387905 = (g : Int) := by rw [Int.tmod_eq_emod_of_nonneg (by omega)]; omega
  have hgb : g ≤ 4611686018427387904 := by omega
  have hgw : IntKind.u64.wrap (g : Int) = (g : Int) := by rw [IntKind.wrap_u64]; omega
  have hgi : IntKind.i64.wrap (g : Int) = (g : Int) := by rw [IntKind.wrap_i64]; omega
  obtain ⟨v, hv, hvb⟩ := uwrap fr
  obtain ⟨m1, hm1⟩ : ∃ m1, m1 = m + 1 := ⟨_, rfl⟩
  have hmi : IntKind.i64.wrap ((m : Int) + 1) = (m1 : Int) := by rw [IntKind.wrap_i64]; omega
  have hmu : IntKind.u64.wrap (m1 : Int) = (m1 : Int) := by rw [IntKind.wrap_u64]; omega
  obtain ⟨F, hF⟩ : ∃ F, F = v % m1 := ⟨_, rfl⟩
  have hFb : F ≤ m := by have := Nat.mod_lt v (show 0 < m1 by omega); omega
  have hFm : (v : Int).tmod (m1 : Int) = (F : Int) := by rw [Int.tmod_eq_emod_of_nonneg (by omega), hF]; push_cast; rfl
  have hFw : IntKind.u64.wrap (F : Int) = (F : Int) := by rw [IntKind.wrap_u64]; omega
  have hFi : IntKind.i64.wrap (F : Int) = (F : Int) := by rw [IntKind.wrap_i64]; omega
  obtain ⟨x, hx, hxb⟩ := uwrap to
  obtain ⟨q, hq⟩ : ∃ q, q = m - F := ⟨_, rfl⟩
  obtain ⟨q1, hq1⟩ : ∃ q1, q1 = q + 1 := ⟨_, rfl⟩
  have hqi : IntKind.i64.wrap ((m : Int) - (F : Int)) = (q : Int) := by rw [IntKind.wrap_i64]; omega
  have hq1i : IntKind.i64.wrap ((q : Int) + 1) = (q1 : Int) := by rw [IntKind.wrap_i64]; omega
  have hq1u : IntKind.u64.wrap (q1 : Int) = (q1 : Int) := by rw [IntKind.wrap_u64]; omega
  obtain ⟨S, hS⟩ : ∃ S, S = x % q1 := ⟨_, rfl⟩
  have hSb : S ≤ q := by have := Nat.mod_lt x (show 0 < q1 by omega); omega
  have hSm : (x : Int).tmod (q1 : Int) = (S : Int) := by rw [Int.tmod_eq_emod_of_nonneg (by omega), hS]; push_cast; rfl
  have hSw : IntKind.u64.wrap (S : Int) = (S : Int) := by rw [IntKind.wrap_u64]; omega
  have hSi : IntKind.i64.wrap (S : Int) = (S : Int) := by rw [IntKind.wrap_i64]; omega
  obtain ⟨T, hTT⟩ : ∃ T, T = F + S := ⟨_, rfl⟩
  have hTi : IntKind.i64.wrap ((F : Int) + (S : Int)) = (T : Int) := by rw [IntKind.wrap_i64]; omega
  have hTs : IntKind.i64.wrap ((T : Int) - (F : Int)) = (S : Int) := by rw [IntKind.wrap_i64]; omega
  have hm0 : ¬ ((m1 : Int) = 0) := by omega
  have hq0 : ¬ ((q1 : Int) = 0) := by omega
  have hm0' : ¬ (m1 = 0) := by omega
  have hq0' : ¬ (q1 = 0) := by omega
  have HBm := hidn hBm
  have hmc' : m ≤ cap := by omega
  have HT := hidn hT
  have HAR : Hid (F ≤ m ∧ F + S = T ∧ T ≤ m ∧ q1 = m - F + 1 ∧ m ≤ 1500) := hidn (by omega)
  clear hpp hE hm hBm hB hT hub hvb hxb hm1 hF hFb hq hq1 hS hSb hTT hg
  go_enter Tryd.func6, Tryd.ntmps6
  go_wp2_with fail
  refine (new_any _ 40 (by omega)).mono ?_
  rintro e w1 ⟨rfl, hD1, hb1, hs1⟩
  have HD1 := hidn hD1
  have HS1 := hidn hs1
  clear hD1 hs1
  go_wp2_with fail
  refine (storeX w w1 hb1 HS1.out _ HD1.out HT.out g hgb a m cap pp HBm.out hmc' hm6 E HE).mono ?_
  rintro e w2 ⟨rfl, F2, hD2, hS2, hF2, hb2⟩
  have HD2 := hidn hD2
  have HS2 := hidn hS2
  have HB2 := hidn hb2
  have HP2 := hidn (partsX w2 _ F2 _ _ _ g pp E m hD2 hS2.tab HBm.out.1 hm6 HE HBm.out.2.2.1 hgb)
  clear hD2 hS2 hF2 hb1 hb2
  go_wp2_with fail
  refine (sPart_any _ _ F2 _ _ _ _ HD2.out (diskX_nil _ _ _ 4 (Nat.le_refl _)) ⟨#[120]⟩ x0 x1 x2 x3 (by decide) (hidn (by decide +kernel)) (hidn (by decide +kernel)) (hidn (by decide +kernel)) (hidn (by decide +kernel)) g F S pp m HBm.out.1 (by have := HAR.out; omega) HBm.out.2.2.1 (by have := HAR.out; omega) (by have := HAR.out; omega) False HP2).mono ?_
  rintro r w3 ⟨hb3, (⟨_, hbad⟩ | ⟨_, a3, c3, rfl, hB3⟩)⟩
  · exfalso
    rcases hbad with h | h
    · have := HAR.out; omega
    · exact h
  have HB3 := hidn hB3
  have HBB3 := hidn (HB2.out.trans (hb3.mono HB2.out.size))
  have HD3 := hidn (HD2.out.below hb3)
  have HP3 := hidn (partsX w3 _ F2 _ _ _ g pp E m HD3.out (HS2.out.below hb3).tab HBm.out.1 hm6 HE HBm.out.2.2.1 hgb)
  clear hb3 hB3 HP2
  go_wp2_with fail
  refine (sPart_any _ _ F2 _ _ _ _ HD3.out (diskX_nil _ _ _ 4 (Nat.le_refl _)) ⟨#[120]⟩ x0 x1 x2 x3 (by decide) (hidn (by decide +kernel)) (hidn (by decide +kernel)) (hidn (by decide +kernel)) (hidn (by decide +kernel)) g F q1 pp m HBm.out.1 (by have := HAR.out; omega) HBm.out.2.2.1 (by have := HAR.out; omega) (by have := HAR.out; omega) False HP3).mono ?_
  rintro r w4 ⟨hb4, (⟨rfl, _⟩ | ⟨hno, _⟩)⟩
  · have HB4 := hidn (HB3.out.below hb4)
    have HBB4 := hidn (HBB3.out.trans (hb4.mono HBB3.out.size))
    clear hb4 HP3
    have hBm4 := HBm.out.below HBB4.out
    obtain ⟨a', hsl, hB', hx'⟩ := slice_part hBm4 hmc' F T (by have := HAR.out; omega) (by have := HAR.out; omega)
    have eS : T - F = S := by have := HAR.out; omega
    rw [eS] at hsl hB'
    have HB' := hidn hB'
    clear hx' hB' hBm4 eS
    go_wp2_with fail
    refine (equal_any _ _ _ _ _ _ _ _ _ HB4.out HB'.out).mono ?_
    rw [decide_eq_true rfl]
    rintro e w5 ⟨rfl, rfl⟩
    go_wp2
    go_ret
    exact ⟨rfl, HBB4.out⟩
  · exfalso
    have := HAR.out; omega
end Go.Proofs.YtmoeoffjlicdjacDoor
