/- The walk of dryrotlaw05.PairNeeds: it returns true. -/
import Derived.Test.YtmoeoffjlicdjabDoorPairPut1
namespace Go.Proofs.YtmoeoffjlicdjabDoor
open Go.RowKit Go.Maps
set_option linter.unusedVariables false

theorem bs_cut {w : World} {a : Option Addr} {len : Nat} {zs : List Nat} (h : Bs w a len zs) (m : Nat) (hm : m ≤ len) : Bs w a m (zs.take m) := by
  obtain ⟨hl, hx, hz, hn, hc⟩ := h
  refine ⟨by simp; omega, by omega, fun x hx => hz x (List.mem_of_mem_take hx), (fun h => by have := hn h; omega), fun x hx j hj => ?_⟩
  rw [hc x hx j (by omega)]
  simp [List.getD_eq_getElem?_getD, hj]
/-- The name 'x'. -/
def nmX : ByteArray := ⟨#[120]⟩
theorem nmX_A : nameB (fileA nmX).data.toList = true := by decide +kernel
theorem nmX_B : nameB (fileB nmX).data.toList = true := by decide +kernel

set_option maxHeartbeats 2000000 in
theorem pairNeeds_walk (a : Option Addr) (len cap : Nat) (zs : List Nat) (size : Int) (w : World) (hB : Bs w a len zs) (hcap : len ≤ cap) (hcm : cap ≤ maxLen) (hT : CrcTab w) (hsz : size ≤ 9223372036854775807) :
    Calls Tryd.prog 3 #[.slice a len cap, .int .i64 size] w fun e w' => e = .returned (.bool true) ∧ Below w.heap.size w w' := by
  obtain ⟨m, hm⟩ : ∃ m, m = min len 600 := ⟨_, rfl⟩
  have hmn : (if (600 : Int) < (len : Int) then (600 : Int) else (len : Int)) = (m : Int) := by split <;> omega
  have hBm := bs_cut hB m (by omega)
  obtain ⟨pp, hpp⟩ : ∃ pp, pp = zs.take m := ⟨_, rfl⟩
  rw [← hpp] at hBm
  obtain ⟨E, hE⟩ : ∃ E, E = extB m := ⟨_, rfl⟩
  have hE6 : E ≤ 6 := by rw [hE]; unfold extB; split <;> omega
  have hmc : (m : Int) ≤ (cap : Int) := by omega
  have hm6 : m ≤ 600 := by omega
  have HE := hidn hE
  obtain ⟨S2, hS2⟩ : ∃ S2, S2 = 2 * extB size.toNat := ⟨_, rfl⟩
  have hNs := fun wx => need_any wx size hsz
  have hRs := fun wx => refNeed_any wx size hsz
  have hNl := fun wx => need_any wx (m : Int) (by omega)
  rw [← hS2] at hNs hRs
  rw [Int.toNat_natCast, ← hE] at hNl
  have HBm := hidn hBm
  have hw20 : IntKind.i64.wrap (20 - (20 - (E : Int) - E)) = ((2 * E : Nat) : Int) := by rw [IntKind.wrap_i64]; omega
  have hmc' : m ≤ cap := by omega
  have hsx : nmX.size ≤ 1000 := by decide
  obtain ⟨nx, hnx⟩ : ∃ nx, nx = nmX := ⟨_, rfl⟩
  clear hpp hE hS2 hm hBm hB
  go_enter Tryd.func3, Tryd.ntmps3
  go_wp2_with fail
  refine (new_any _ 20 (by omega)).mono ?_
  rintro e w1 ⟨rfl, hD1, hb1, hs1⟩
  have hB1 : BsF (fun k => w.heap.size ≤ k ∧ k < w.heap.size + 2) w1 a m pp := by
    refine ⟨HBm.out.below hb1, fun x hx hl hF => ?_⟩
    have e : (x.add 0).block = x.block := by unfold Addr.add; split <;> rfl
    have := block_lt_of_cell (HBm.out.2.2.2.2 x hx 0 hl)
    omega
  have hS1 : Sound5 w1 (fun k => w.heap.size ≤ k ∧ k < w.heap.size + 2) := ⟨hT.below hb1, fun hF => by have := hT.lt; omega, fun k hk => by rw [hs1]; exact hk.2⟩
  go_wp2_with fail
  refine (store_new _ _ _ 0 _ 20 hD1 hS1 rfl nmX hsx nmX_A nmX_B rfl rfl 1 (by omega) a m cap pp hB1 hmc' (by omega) E HE (by unfold maxLen; omega) (by omega) (by omega)).mono ?_
  rintro e w2 ⟨rfl, F2, hD2, hG2⟩
  have hb2 : Below w.heap.size w1 w2 := hG2.1.below hb1.size (fun k hk => hk.1)
  have HD2 := hidn hD2
  clear hD2 hG2 hD1 hS1 hB1
  go_wp2_with fail
  refine (free_any _ _ _ _ _ _ _ HD2.out).mono ?_
  rintro e w3 ⟨rfl, rfl⟩
  go_wp2_with fail
  refine (hNl _).mono ?_
  rintro e w4 ⟨rfl, hb4⟩
  go_wp2_with fail
  refine (hNs _).mono ?_
  rintro e w5 ⟨rfl, hb5⟩
  go_wp2_with fail
  refine (hRs _).mono ?_
  rintro e w6 ⟨rfl, rfl⟩
  go_wp2
  go_ret
  exact ⟨rfl, (hb1.trans hb2).trans ((hb4.mono (Nat.le_trans hb1.size hb2.size)).trans (hb5.mono (Nat.le_trans (Nat.le_trans hb1.size hb2.size) hb4.size)))⟩
end Go.Proofs.YtmoeoffjlicdjabDoor
