/- LabelsBack: the law's walk. -/
import Derived.Test.YtkcmaneibfambaaLabParse2
import Derived.Test.YtkcmaneibfambaaLabUni
import Derived.Test.YtkcmaneibfambaaLabBs
import Derived.Test.YtkcmaneibfambaaLabEqL
import Derived.Test.YtkcmaneibfambaaLabAwake
import Derived.Laws.AppendOwnNone
namespace Go.Proofs.Ytkcmaneibfambaa
open Go.RowKit
set_option linter.unusedVariables false

set_option maxHeartbeats 2000000 in
theorem back_no (a b : Option Addr) (n m n' m' : Nat) (ls : List Lab) (w : World) (ha : Ls w a n ls) (ra : n ≤ 140737488355328) (hc : canOK ls = false) :
    Calls Try.prog 7 #[.slice a n n', .slice b m m'] w fun e w' => e = .returned (.bool true) ∧ Below w.heap.size w w' := by
  go_enter Try.func7, Try.ntmps7
  go_wp2_with fail
  refine (text_no a n n' ls _ ha ra hc).mono ?_
  rintro e w1 ⟨rfl, b1⟩
  have ha1 := ha.below b1
  clear ha
  go_wp2_with fail
  refine (enc_no a n n' ls _ ha1 ra hc).mono ?_
  rintro e w2 ⟨rfl, b2⟩
  have B2 := b1.trans (b2.mono b1.size)
  have ha2 := ha1.below b2
  clear ha1
  go_wp2_with fail
  refine (refCan_any a n n' ls _ ha2 ra).mono ?_
  rintro e w3 ⟨rfl, b3⟩
  rw [hc]
  have B3 := B2.trans (b3.mono B2.size)
  go_wp2_with fail
  refine (awake_any _).mono ?_
  rintro e w4 ⟨rfl, b4⟩
  go_wp2
  go_ret
  exact ⟨rfl, B3.trans (b4.mono B3.size)⟩

set_option maxHeartbeats 4000000 in
set_option maxRecDepth 100000 in
theorem back_yes (a b : Option Addr) (n m n' m' : Nat) (ls : List Lab) (zs : List Nat) (w : World) (ha : Ls w a n ls) (hb : Bs w b m zs) (ra : n ≤ 140737488355328) (rb : m ≤ 140737488351232) (hcb : b = none → m' = 0) (hc : canOK ls = true) :
    Calls Try.prog 7 #[.slice a n n', .slice b m m'] w fun e w' => e = .returned (.bool true) ∧ Below w.heap.size w w' := by
  have hdec := hidn (decP_enc ls zs)
  have hA := hidn ha
  have hBb := hidn hb
  have hel : (encN ls).length ≤ 1000 := by have := eL_len ls; unfold eL at this; rw [if_pos hc] at this; exact this
  have htx := textOf_len ls hc
  have HC := hidn hc
  have hl := hidn ha.1
  have hsz := hidn ha.2.2.1
  have h8 := ((canOK_iff ls).1 hc).2.1
  obtain ⟨i0, hi, hz0, hz1, hz2⟩ := info_parts bInfo
  obtain ⟨E, hE⟩ : ∃ E, encN ls = E := ⟨_, rfl⟩
  have HEN := hidn hE
  have hElt : Hid (∀ x ∈ E, x < 256) := hidn (by rw [← hE]; unfold encN; exact encTo_lt ls hc _ (Nat.le_refl _))
  have hzlt := hidn hb.2.2.1
  have hzl := hidn hb.1
  rw [hE] at hel hdec
  obtain ⟨S, hS⟩ : ∃ S : ByteArray, (⟨(textOf ls).toArray⟩ : ByteArray) = S := ⟨_, rfl⟩
  have HS := hidn hS
  have HSL : Hid (S.data.toList = textOf ls) := hidn (by rw [← hS])
  clear hE hS htx
  go_enter Try.func7, Try.ntmps7
  go_wp2_with fail
  refine (text_yes a n n' ls _ ha ra HC.out).mono ?_
  rintro e w1 ⟨rfl, b1⟩
  rw [HS.out]
  have ha1 := ha.below b1
  have hb1 := hb.below b1
  clear ha hb hc
  go_wp2_with fail
  refine (enc_yes a n n' ls _ ha1 ra HC.out).mono ?_
  rintro e w2 ⟨g, c, rfl, _, _, _, hB2, _, b2⟩
  rw [HEN.out] at hB2 ⊢
  have B2 := b1.trans (b2.mono b1.size)
  have ha2 := ha1.below b2
  have hb2 := hb1.below b2
  clear ha1 hb1
  go_wp2_with fail
  refine (refCan_any a n n' ls _ ha2 ra).mono ?_
  rintro e w3 ⟨rfl, b3⟩
  rw [HC.out]
  have B3 := B2.trans (b3.mono B2.size)
  have ha3 := ha2.below b3
  have hb3 := hb2.below b3
  have hB3 := hB2.below b3
  clear ha2 hb2 hB2
  go_wp2_with fail
  refine (parse_yes ls S _ HC.out HSL.out hsz.out).mono ?_
  rintro e w4 ⟨ap, cp, rfl, hL4, b4⟩
  rw [hl.out] at hL4 ⊢
  have B4 := B3.trans (b4.mono B3.size)
  have ha4 := ha3.below b4
  have hb4 := hb3.below b4
  have hB4 := hB3.below b4
  clear ha3 hb3 hB3
  go_wp2_with fail
  refine (sclone_any _ _ c E _ hB4 (by omega)).mono ?_
  rintro e w5 ⟨vc, rfl, oc, b5⟩
  have B5 := B4.trans (b5.mono B4.size)
  have hs45 : w4.heap.size ≤ w5.heap.size := b5.size
  have hb5 := hb4.below b5
  clear ha4
  have hrest : Hid (∀ (v6 : Value) (w6 : World), w6.ownsRow w4.heap.size 5 1 v6 (E.length + m) (vb (E ++ zs)) → Below w4.heap.size w5 w6 → ∃ a6 c6, v6 = .slice a6 (E.length + m) c6 ∧ Bs w6 a6 (E.length + m) (E ++ zs) ∧ E.length + m ≤ c6 ∧ c6 ≤ maxLen) := hidn (by
    intro v6 w6 o6 b6
    exact bs_of_own2 o6 (fun x hx => by rcases List.mem_append.1 hx with h | h; exact hElt.out x h; exact hzlt.out x h))
  have hoc : ∀ j, vc.ownBlock = some j → w4.heap.size ≤ j := by
    intro j hj
    rcases oc.2 with ⟨rfl, _⟩ | ⟨g, cap, cur, rfl, hg, _⟩
    · simp [Value.ownBlock] at hj
    · simp [Value.ownBlock] at hj; omega
  have HOC := hidn hoc
  clear hoc
  cases hbb : b with
  | none =>
    have hm' := hcb hbb
    have hm0 : m = 0 := hb5.2.2.2.1 hbb
    subst hbb
    have hzn : zs = [] := List.length_eq_zero_iff.1 (by rw [hzl.out, hm0])
    have HM0 := hidn hm0
    have HZN := hidn hzn
    clear hzn
    subst hm'
    subst hm0
    go_wp2_with (at_builtin; refine wpList_append_own_none rfl _ _ 41 rfl w4.heap.size 5 i0 1 Try.underlying41 hi vc E.length (vb E) rfl oc rfl ?_)
    have K6 : Below w4.heap.size w5 w5 := Below.refl _ _
    have O6 : Hid (w5.ownsRow w4.heap.size 5 1 vc (E.length + 0) (vb (E ++ zs))) := hidn (by rw [HZN.out, List.append_nil]; exact oc)
    clear oc
    obtain ⟨a6, c6, hv6, hB6, hc6, hcm6⟩ := hrest.out _ _ O6.out K6
    subst hv6
    have hs6 : w4.heap.size ≤ w5.heap.size := by have := K6.size; omega
    have B6 : Below w.heap.size w w5 := B5.trans (K6.mono B4.size)
    have K46 : Below w4.heap.size w4 w5 := b5.trans K6
    have hL6 := hL4.below K46
    clear O6 hB4
    go_wp2_with fail
    refine (dec_any a6 _ c6 (E ++ zs) _ hB6 (by omega) hc6 hcm6).mono ?_
    rintro e w7 ⟨b7, hp7⟩
    have B7 := B6.trans (b7.mono B6.size)
    rcases hp7 with ⟨hd, _⟩ | ⟨l2, r2, hd, hc2, _⟩ | ⟨l2, r2, a7, c7, a8, c8, hd, _, rfl, hL7, hB7⟩
    · rw [hdec.out] at hd; cases hd
    · rw [hdec.out] at hd; cases hd; rw [HC.out] at hc2; cases hc2
    rw [hdec.out] at hd
    simp only [Option.some.injEq, Prod.mk.injEq] at hd
    obtain ⟨hd1, hd2⟩ := hd
    subst hd1
    subst hd2
    rw [hl.out] at hL7 ⊢
    rw [hzl.out] at hB7 ⊢
    have hL67 := hL6.below b7
    have ha7 := hA.out.below B7
    have hb7 := hBb.out.below B7
    clear hL6
    go_wp2_with fail
    refine (equalL_any ap n cp ls a n n' ls _ hL67 ha7 ra ra).mono ?_
    rintro e w8 ⟨rfl, b8⟩
    rw [decide_eq_true (rfl : ls = ls)]
    have B8 := B7.trans (b8.mono B7.size)
    have ha8 := ha7.below b8
    have hb8 := hb7.below b8
    have hL78 := hL7.below b8
    have hB78 := hB7.below b8
    clear ha7 hb7 hL7 hB7 hL67
    go_wp2_with fail
    refine (equalL_any a7 n c7 ls a n n' ls _ hL78 ha8 ra ra).mono ?_
    rintro e w9 ⟨rfl, b9⟩
    rw [decide_eq_true (rfl : ls = ls)]
    have B9 := B8.trans (b9.mono B8.size)
    have hb9 := hb8.below b9
    have hB79 := hB78.below b9
    clear ha8 hb8 hL78 hB78
    go_wp2_with fail
    refine (equalB_any a8 0 c8 zs none 0 0 zs _ hB79 hb9 (by omega) (by omega)).mono ?_
    rintro e w10 ⟨rfl, b10⟩
    rw [decide_eq_true (rfl : zs = zs)]
    go_wp2
    go_ret
    exact ⟨rfl, B9.trans (b10.mono B9.size)⟩
  | some xb =>
    subst hbb
    have hcx := hb5.2.2.2.2 xb rfl
    go_wp2_with (at_builtin; refine wpList_append_own _ rfl _ _ 41 rfl w4.heap.size 5 i0 (.int .u8 0) 1 1 Try.underlying41 hi hz0 hz1 hz2 rfl (by decide) vc E.length (vb E) rfl oc xb m m' (vb zs) rfl (by rw [length_vb, hzl.out]; omega) ?d1 ?d2 (by unfold maxLen; omega) (by omega) hs45 ?_)
    case d1 =>
      intro j u hju
      have hj' : j < zs.length := by
        have := (List.getElem?_eq_some_iff.1 hju).1; simpa [vb] using this
      rw [vb_getD zs j hj'] at hju
      cases hju
      exact hcx j (by have := hzl.out; omega)
    case d2 => exact one_vb zs
    intro v6 W6 o6 g6 _
    have K6 : Below w4.heap.size w5 W6 := (Below.refl _ _).grown g6 hs45 (fun j hj => HOC.out j hj)
    have O6 : Hid (W6.ownsRow w4.heap.size 5 1 v6 (E.length + m) (vb (E ++ zs))) := hidn (by rw [vb_append]; exact o6)
    clear oc o6 g6
    obtain ⟨a6, c6, hv6, hB6, hc6, hcm6⟩ := hrest.out _ _ O6.out K6
    subst hv6
    have hs6 : w4.heap.size ≤ W6.heap.size := by have := K6.size; omega
    have B6 : Below w.heap.size w W6 := B5.trans (K6.mono B4.size)
    have K46 : Below w4.heap.size w4 W6 := b5.trans K6
    have hL6 := hL4.below K46
    clear O6 hB4
    go_wp2_with fail
    refine (dec_any a6 _ c6 (E ++ zs) _ hB6 (by omega) hc6 hcm6).mono ?_
    rintro e w7 ⟨b7, hp7⟩
    have B7 := B6.trans (b7.mono B6.size)
    rcases hp7 with ⟨hd, _⟩ | ⟨l2, r2, hd, hc2, _⟩ | ⟨l2, r2, a7, c7, a8, c8, hd, _, rfl, hL7, hB7⟩
    · rw [hdec.out] at hd; cases hd
    · rw [hdec.out] at hd; cases hd; rw [HC.out] at hc2; cases hc2
    rw [hdec.out] at hd
    simp only [Option.some.injEq, Prod.mk.injEq] at hd
    obtain ⟨hd1, hd2⟩ := hd
    subst hd1
    subst hd2
    rw [hl.out] at hL7 ⊢
    rw [hzl.out] at hB7 ⊢
    have hL67 := hL6.below b7
    have ha7 := hA.out.below B7
    have hb7 := hBb.out.below B7
    clear hL6
    go_wp2_with fail
    refine (equalL_any ap n cp ls a n n' ls _ hL67 ha7 ra ra).mono ?_
    rintro e w8 ⟨rfl, b8⟩
    rw [decide_eq_true (rfl : ls = ls)]
    have B8 := B7.trans (b8.mono B7.size)
    have ha8 := ha7.below b8
    have hb8 := hb7.below b8
    have hL78 := hL7.below b8
    have hB78 := hB7.below b8
    clear ha7 hb7 hL7 hB7 hL67
    go_wp2_with fail
    refine (equalL_any a7 n c7 ls a n n' ls _ hL78 ha8 ra ra).mono ?_
    rintro e w9 ⟨rfl, b9⟩
    rw [decide_eq_true (rfl : ls = ls)]
    have B9 := B8.trans (b9.mono B8.size)
    have hb9 := hb8.below b9
    have hB79 := hB78.below b9
    clear ha8 hb8 hL78 hB78
    go_wp2_with fail
    refine (equalB_any a8 m c8 zs (some xb) m m' zs _ hB79 hb9 (by omega) (by omega)).mono ?_
    rintro e w10 ⟨rfl, b10⟩
    rw [decide_eq_true (rfl : zs = zs)]
    go_wp2
    go_ret
    exact ⟨rfl, B9.trans (b10.mono B9.size)⟩

theorem back_walk (a b : Option Addr) (n m n' m' : Nat) (ls : List Lab) (zs : List Nat) (w : World) (ha : Ls w a n ls) (hb : Bs w b m zs) (ra : n ≤ 140737488355328) (rb : m ≤ 140737488351232) (hcb : b = none → m' = 0) :
    Calls Try.prog 7 #[.slice a n n', .slice b m m'] w fun e w' => e = .returned (.bool true) ∧ Below w.heap.size w w' := by
  cases hc : canOK ls with
  | false => exact back_no a b n m n' m' ls w ha ra hc
  | true => exact back_yes a b n m n' m' ls zs w ha hb ra rb hcb hc
end Go.Proofs.Ytkcmaneibfambaa
