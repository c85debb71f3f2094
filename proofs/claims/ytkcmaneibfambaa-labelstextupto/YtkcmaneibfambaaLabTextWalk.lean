/- LabelsText: the law's walk. -/
import Derived.Test.YtkcmaneibfambaaLabRefText
import Derived.Test.YtkcmaneibfambaaLabRefParse
import Derived.Test.YtkcmaneibfambaaLabEqL
import Derived.Test.YtkcmaneibfambaaLabAwake
namespace Go.Proofs.Ytkcmaneibfambaa
open Go.RowKit
set_option linter.unusedVariables false

set_option maxHeartbeats 4000000 in
set_option maxRecDepth 100000 in
theorem text_walk (a : Option Addr) (len cap : Nat) (ls : List Lab) (s : ByteArray) (w : World) (h : Ls w a len ls) (hr : len ≤ 140737488355328) (hs : s.size ≤ 1048576) :
    Calls Try.prog 5 #[.slice a len cap, .string s] w fun e w' => e = .returned (.bool true) ∧ Below w.heap.size w w' := by
  obtain ⟨x, z, hx⟩ : ∃ (x : ByteArray) (z : Int), (canOK ls = false ∧ x = ⟨#[]⟩ ∧ z = 1) ∨ (canOK ls = true ∧ x = ⟨(textOf ls).toArray⟩ ∧ z = 0) := by
    cases hc : canOK ls with
    | false => exact ⟨_, _, .inl ⟨rfl, rfl, rfl⟩⟩
    | true => exact ⟨_, _, .inr ⟨rfl, rfl, rfl⟩⟩
  have HX := hidn hx
  have qx : (x.toList == x.toList) = true := beq_iff_eq.2 rfl
  have qz : (z == z) = true := beq_iff_eq.2 rfl
  obtain ⟨P, hP⟩ : ∃ P, parseP s = P := ⟨_, rfl⟩
  have HPA : Hid (∀ w, Calls Try.prog 26 #[.string s] w (ParsePost P w)) := hidn (fun w => by rw [← hP]; exact parse_any s w hs)
  have HRA : Hid (∀ w, Calls Try.prog 27 #[.string s] w (ParsePost P w)) := hidn (fun w => by rw [← hP]; exact rparse_any s w hs)
  clear hx hP
  go_enter Try.func5, Try.ntmps5
  go_wp2_with fail
  refine (text_any a len cap ls _ h hr x z HX.out).mono ?_
  rintro e w1 ⟨rfl, b1⟩
  have h1 := h.below b1
  go_wp2_with fail
  refine (rtext_any a len cap ls _ h1 hr x z HX.out).mono ?_
  rintro e w2 ⟨rfl, b2⟩
  have B2 := b1.trans (b2.mono b1.size)
  clear h h1 HX
  go_wp2_with fail
  refine (HPA.out _).mono ?_
  rintro e w3 ⟨b3, h3⟩
  have B3 := B2.trans (b3.mono B2.size)
  rcases h3 with ⟨hn, rfl⟩ | ⟨d, a3, c3, hd, rfl, hL3, h8⟩
  · have HNN := hidn hn
    clear hn
    go_wp2_with fail
    refine (HRA.out _).mono ?_
    rintro e w4 ⟨b4, h4⟩
    have B4 := B3.trans (b4.mono B3.size)
    rcases h4 with ⟨hn4, rfl⟩ | ⟨d4, a4, c4, hd4, rfl, hL4, h84⟩
    · clear hn4
      go_wp2_with fail
      refine (equalL_any none 0 0 [] none 0 0 [] _ (Ls.nil _) (Ls.nil _) (by omega) (by omega)).mono ?_
      rintro e w5 ⟨rfl, b5⟩
      have B5 := B4.trans (b5.mono B4.size)
      rw [decide_eq_true rfl]
      go_wp2_with fail
      refine (awake_any _).mono ?_
      rintro e w6 ⟨rfl, b6⟩
      go_wp2
      go_ret
      exact ⟨rfl, B5.trans (b6.mono B5.size)⟩
    · exfalso
      rw [HNN.out] at hd4
      cases hd4
  · have HDD := hidn hd
    obtain ⟨n, hn⟩ : ∃ n, d.length = n := ⟨_, rfl⟩
    have HN := hidn hn
    rw [hn] at hL3 h8 ⊢
    clear hd hn
    go_wp2_with fail
    refine (HRA.out _).mono ?_
    rintro e w4 ⟨b4, h4⟩
    have B4 := B3.trans (b4.mono B3.size)
    have hL3' := hL3.below b4
    rcases h4 with ⟨hn4, rfl⟩ | ⟨d4, a4, c4, hd4, rfl, hL4, h84⟩
    · exfalso
      rw [HDD.out] at hn4
      cases hn4
    · have hdd : d4 = d := by
        have := HDD.out
        rw [hd4] at this
        exact Option.some.inj this
      subst hdd
      rw [HN.out] at hL4 ⊢
      clear hd4 h84 hL3
      have hn8 : n ≤ 140737488355328 := by omega
      go_wp2_with fail
      refine (equalL_any a3 n c3 d4 a4 n c4 d4 _ hL3' hL4 hn8 hn8).mono ?_
      rintro e w5 ⟨rfl, b5⟩
      have B5 := B4.trans (b5.mono B4.size)
      rw [decide_eq_true rfl]
      clear hL3' hL4
      go_wp2_with fail
      refine (awake_any _).mono ?_
      rintro e w6 ⟨rfl, b6⟩
      go_wp2
      go_ret
      exact ⟨rfl, B5.trans (b6.mono B5.size)⟩
end Go.Proofs.Ytkcmaneibfambaa
