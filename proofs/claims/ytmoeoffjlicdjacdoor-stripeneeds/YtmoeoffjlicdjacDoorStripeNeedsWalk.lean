/- The walk of dryrotlaw06.StripeNeeds: it returns true. -/
import Derived.Test.YtmoeoffjlicdjacDoorStrX
namespace Go.Proofs.YtmoeoffjlicdjacDoor
open Go.RowKit Go.Maps
set_option linter.unusedVariables false

set_option maxHeartbeats 2000000 in
theorem stripeNeeds_walk (a : Option Addr) (len cap : Nat) (zs : List Nat) (size : Int) (w : World) (hB : Bs w a len zs) (hcap : len ≤ cap) (hcm : cap ≤ maxLen) (hT : CrcTab w) (hsz : size ≤ 9223372036854775807) :
    Calls Tryd.prog 5 #[.slice a len cap, .int .i64 size] w fun e w' => e = .returned (.bool true) ∧ Below w.heap.size w w' := by
  obtain ⟨m, hm⟩ : ∃ m, m = min len 1500 := ⟨_, rfl⟩
  have hmn : (if (1500 : Int) < (len : Int) then (1500 : Int) else (len : Int)) = (m : Int) := by split <;> omega
  have hBm := bs_cut6 hB m (by omega)
  obtain ⟨pp, hpp⟩ : ∃ pp, pp = zs.take m := ⟨_, rfl⟩
  rw [← hpp] at hBm
  obtain ⟨E, hE⟩ : ∃ E, E = grpB m := ⟨_, rfl⟩
  have hE6 : E ≤ 5 := by rw [hE]; unfold grpB; split <;> omega
  have hmc : (m : Int) ≤ (cap : Int) := by omega
  have hm6 : m ≤ 1500 := by omega
  have HE := hidn hE
  obtain ⟨S2, hS2⟩ : ∃ S2, S2 = 4 * grpB size.toNat := ⟨_, rfl⟩
  have hNs := fun wx => sneed_any wx size hsz
  have hRs := fun wx => refNeed6_any wx size hsz
  have hNl := fun wx => sneed_any wx (m : Int) (by omega)
  have hGl := fun wx => groups_any wx (m : Int) (by omega)
  obtain ⟨G2, hG2⟩ : ∃ G2, G2 = grpB size.toNat := ⟨_, rfl⟩
  have hGs := fun wx => groups_any wx size hsz
  have hRg := fun wx => refGroups_any wx size hsz
  rw [← hS2] at hNs hRs
  rw [← hG2] at hGs hRg
  rw [Int.toNat_natCast, ← hE] at hNl hGl
  have HBm := hidn hBm
  have hw20 : IntKind.i64.wrap (40 - (40 - 4 * (E : Int))) = 4 * (E : Int) := by rw [IntKind.wrap_i64]; omega
  have hmc' : m ≤ cap := by omega
  have HT := hidn hT
  clear hpp hE hS2 hG2 hm hBm hB hT
  go_enter Tryd.func5, Tryd.ntmps5
  go_wp2_with fail
  refine (new_any _ 40 (by omega)).mono ?_
  rintro e w1 ⟨rfl, hD1, hb1, hs1⟩
  have HD1 := hidn hD1
  have HS1 := hidn hs1
  clear hD1 hs1
  go_wp2_with fail
  refine (storeX w w1 hb1 HS1.out _ HD1.out HT.out 1 (by omega) a m cap pp HBm.out hmc' hm6 E HE).mono ?_
  rintro e w2 ⟨rfl, F2, hD2, hS2, hF2, hb2⟩
  have HD2 := hidn hD2
  clear hD2 hS2 hF2 hb1
  go_wp2_with fail
  refine (free_any _ _ _ _ _ _ _ HD2.out).mono ?_
  rintro e w3 ⟨rfl, rfl⟩
  go_wp2_with fail
  refine (hNl _).mono ?_
  rintro e w4 ⟨rfl, rfl⟩
  go_wp2_with fail
  refine (hNs _).mono ?_
  rintro e w5 ⟨rfl, rfl⟩
  go_wp2_with fail
  refine (hRs _).mono ?_
  rintro e w6 ⟨rfl, rfl⟩
  go_wp2_with fail
  refine (hGs _).mono ?_
  rintro e w7 ⟨rfl, rfl⟩
  go_wp2_with fail
  refine (hRg _).mono ?_
  rintro e w8 ⟨rfl, rfl⟩
  go_wp2_with fail
  refine (extents_disk _ _ _ _ _ _ _ HD2.out ⟨#[120, 46, 112]⟩ (by decide) E (hidn (by show E = (diskX 1 pp E 4 (nameX 3).data.toList).length; rw [diskX_at 1 pp E 4 3 (by omega) (by omega), List.length_map, fileS_length]))).mono ?_
  rintro e w9 ⟨rfl, rfl⟩
  go_wp2_with fail
  refine (hGl _).mono ?_
  rintro e w10 ⟨rfl, rfl⟩
  go_wp2
  go_ret
  exact ⟨rfl, hb2⟩
end Go.Proofs.YtmoeoffjlicdjacDoor
