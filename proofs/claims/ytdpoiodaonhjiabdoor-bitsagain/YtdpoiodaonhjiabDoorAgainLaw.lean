/- The walk of dryrotlaw02.BitsAgain: it returns true. -/
import Derived.Test.YtdpoiodaonhjiabDoorAgainNone
import Derived.Test.YtdpoiodaonhjiabDoorAgainSome
import Derived.Test.YtdpoiodaonhjiabDoorAgainBig
namespace Go.Proofs.YtdpoiodaonhjiabDoor
open Go.RowKit
set_option linter.unusedVariables false

theorem bs_take {w : World} {a : Option Addr} {len : Nat} {zs : List Nat} (hB : Bs w a len zs) (h : 60 ≤ len) : Bs w a 60 (zs.take 60) := by
  refine ⟨by rw [List.length_take, hB.1]; omega, by unfold maxLen; omega, fun x hx => hB.2.2.1 x (List.mem_of_mem_take hx), fun hn => by have := hB.2.2.2.1 hn; omega, fun x hx j hj => ?_⟩
  rw [hB.2.2.2.2 x hx j (by omega)]
  congr 3
  simp only [List.getD_eq_getElem?_getD, List.getElem?_take]
  rw [if_pos (by omega)]

theorem again_walk (a : Option Addr) (len cap : Nat) (at_ : Int) (zs : List Nat) (w : World) (hB : Bs w a len zs) (hcap : len ≤ cap) (hcm : cap ≤ maxLen) (hn : a = none → cap = 0) (hT : BitsTab w) :
    Calls Tryd.prog 6 #[.slice a len cap, .int .i64 at_] w fun e w' => e = .returned (.bool true) ∧ Below w.heap.size w w' := by
  have hl := hB.2.1
  unfold maxLen at hl hcm
  have h1 : 0 ≤ IntKind.u64.wrap at_ := by rw [IntKind.wrap_u64]; omega
  cases a with
  | none =>
    obtain rfl := hn rfl
    obtain rfl : len = 0 := by omega
    exact again_none at_ w hT (by rw [Int.tmod_eq_emod_of_nonneg h1]; omega)
  | some ad =>
    by_cases h : len ≤ 60
    · have h4 := Int.emod_nonneg (IntKind.u64.wrap at_) (b := 8 * (len : Int) + 1) (by omega)
      have h5 := Int.emod_lt_of_pos (IntKind.u64.wrap at_) (b := 8 * (len : Int) + 1) (by omega)
      obtain ⟨q, hq⟩ := Int.eq_ofNat_of_zero_le h4
      exact again_some ad len cap at_ q zs w h hcap (by omega) hB hT ((Int.tmod_eq_emod_of_nonneg h1).trans hq) (by omega)
    · have h4 := Int.emod_nonneg (IntKind.u64.wrap at_) (b := 481) (by omega)
      have h5 := Int.emod_lt_of_pos (IntKind.u64.wrap at_) (b := 481) (by omega)
      obtain ⟨q, hq⟩ := Int.eq_ofNat_of_zero_le h4
      exact again_big (some ad) len cap at_ q (zs.take 60) w (by omega) (by omega) hcap (by omega) (bs_take hB (by omega)) hT ((Int.tmod_eq_emod_of_nonneg h1).trans hq) (by omega)
end Go.Proofs.YtdpoiodaonhjiabDoor
