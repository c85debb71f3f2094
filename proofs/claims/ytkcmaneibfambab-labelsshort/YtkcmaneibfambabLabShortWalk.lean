/- LabelsShort: the law's walk. -/
import Derived.Test.YtkcmaneibfambabLabDec
import Derived.Test.YtkcmaneibfambabLabRefCan
import Derived.Test.YtkcmaneibfambabLabAwake
namespace Go.Proofs.Ytkcmaneibfambab
open Go.RowKit
set_option linter.unusedVariables false

set_option maxHeartbeats 2000000 in
theorem short_no (a : Option Addr) (len cap : Nat) (ls : List Lab) (n : Int) (w : World) (h : Ls w a len ls) (hr : len ≤ 140737488355328) (hc : canOK ls = false) :
    Calls Try.prog 3 #[.slice a len cap, .int .i64 n] w fun e w' => e = .returned (.bool true) ∧ Below w.heap.size w w' := by
  go_enter Try.func3, Try.ntmps3
  go_wp2_with fail
  refine (enc_no a len cap ls _ h hr hc).mono ?_
  rintro e w1 ⟨rfl, b1⟩
  have h1 := h.below b1
  go_wp2_with fail
  refine (refCan_any a len cap ls _ h1 hr).mono ?_
  rintro e w2 ⟨rfl, b2⟩
  have B2 := b1.trans (b2.mono b1.size)
  rw [hc]
  go_wp2_with fail
  refine (awake_any _).mono ?_
  rintro e w3 ⟨rfl, b3⟩
  go_wp2
  go_ret
  exact ⟨rfl, B2.trans (b3.mono B2.size)⟩

set_option maxHeartbeats 4000000 in
set_option maxRecDepth 100000 in
theorem short_yes (a : Option Addr) (len cap : Nat) (ls : List Lab) (n : Int) (m : Nat) (w : World) (h : Ls w a len ls) (hr : len ≤ 140737488355328) (hc : canOK ls = true)
    (hm : (IntKind.u64.wrap n).tmod ((encN ls).length : Int) = (m : Int)) (hml : m < (encN ls).length) :
    Calls Try.prog 3 #[.slice a len cap, .int .i64 n] w fun e w' => e = .returned (.bool true) ∧ Below w.heap.size w w' := by
  have hcut := hidn (decP_cut ls m hml)
  have hlen := encTo_len ls hc ls.length (Nat.le_refl _)
  have h8 := ((canOK_iff ls).1 hc).2.1
  have hN : (encN ls).length ≤ 1000 := by unfold encN; omega
  have HTL := hidn (show ((encN ls).take m).length = m by simp; omega)
  obtain ⟨N, hNN⟩ : ∃ N, (encN ls).length = N := ⟨_, rfl⟩
  have HNN := hidn hNN
  rw [hNN] at hm hml hN
  have hw1 : IntKind.i64.wrap (m : Int) = (m : Int) := by rw [IntKind.wrap_i64]; omega
  have hw2 : IntKind.u64.wrap (N : Int) = (N : Int) := by rw [IntKind.wrap_u64]; omega
  have hnz : ¬ ((N : Int) = 0) := by omega
  have hnz' : ((N : Int) == 0) = false := beq_eq_false_iff_ne.2 hnz
  have hnn : ¬ N = 0 := by omega
  have hm1 : m ≤ N := by omega
  clear hNN hlen h8
  go_enter Try.func3, Try.ntmps3
  go_wp2_with fail
  refine (enc_yes a len cap ls _ h hr hc).mono ?_
  rintro e w1 ⟨g, c, rfl, hg, hgc, hcm, hB, _, b1⟩
  rw [HNN.out] at hgc hB ⊢
  have hBm := hB.part (i := 0) (m := m) (by omega)
  rw [Nat.add_zero, List.drop_zero] at hBm
  have hmc : m ≤ c := by omega
  clear hB
  go_wp2_with fail
  refine (dec_any _ m c _ _ hBm (by omega) hmc hcm).mono ?_
  rintro e w2 ⟨b2, hp⟩
  have B2 := b1.trans (b2.mono b1.size)
  rcases hp with ⟨_, rfl⟩ | ⟨l2, r2, hd, _⟩ | ⟨l2, r2, _, _, _, _, hd, _⟩
  · go_wp2
    go_ret
    exact ⟨rfl, B2⟩
  · rw [hcut.out] at hd; cases hd
  · rw [hcut.out] at hd; cases hd

theorem short_walk (a : Option Addr) (len cap : Nat) (ls : List Lab) (n : Int) (w : World) (h : Ls w a len ls) (hr : len ≤ 140737488355328) :
    Calls Try.prog 3 #[.slice a len cap, .int .i64 n] w fun e w' => e = .returned (.bool true) ∧ Below w.heap.size w w' := by
  cases hc : canOK ls with
  | false => exact short_no a len cap ls n w h hr hc
  | true =>
    have hpos : 0 < (encN ls).length := by rw [encN_flat]; simp
    have h1 : 0 ≤ IntKind.u64.wrap n := by rw [IntKind.wrap_u64]; omega
    have h3 : (IntKind.u64.wrap n).tmod ((encN ls).length : Int) = IntKind.u64.wrap n % ((encN ls).length : Int) := Int.tmod_eq_emod_of_nonneg h1
    have h4 := Int.emod_nonneg (IntKind.u64.wrap n) (b := ((encN ls).length : Int)) (by omega)
    have h5 := Int.emod_lt_of_pos (IntKind.u64.wrap n) (b := ((encN ls).length : Int)) (by omega)
    obtain ⟨i, hi⟩ := Int.eq_ofNat_of_zero_le h4
    exact short_yes a len cap ls n i w h hr hc (h3.trans hi) (by omega)
end Go.Proofs.Ytkcmaneibfambab
