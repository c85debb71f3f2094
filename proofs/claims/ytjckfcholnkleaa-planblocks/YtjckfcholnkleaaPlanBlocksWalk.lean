/- PlanBlocks: the law. -/
import Derived.Test.YtjckfcholnkleaaPlE
import Derived.Test.YtjckfcholnkleaaPlF
import Derived.Test.YtjckfcholnkleaaPlI
import Derived.Test.YtjckfcholnkleaaPlFl
namespace Go.Proofs.Ytjckfcholnkleaa
open Go.RowKit Go.Joins
set_option linter.unusedVariables false
set_option maxHeartbeats 1000000 in
set_option maxRecDepth 100000 in
theorem planBlocks_walk (a : Option Addr) (len cap : Nat) (l0 : List Fo) (fl : Int) (w : World) (h0 : Fls w a len l0) (hc0 : len ≤ cap) :
    Calls Try.prog 3 #[.slice a len cap, .int .i64 fl] w fun e w' => e = .returned (.bool true) ∧ Below w.heap.size w w' := by
  obtain ⟨n, hn, hn14, HC⟩ := cut_any a len cap w hc0
  have HC2 := hidn HC
  clear HC
  have h := h0.take n hn
  generalize l0.take n = l at *
  have hc : n ≤ cap := by omega
  have H1 := hidn (can_any a n cap l w h (by omega) hc)
  have hbb : (pcL l == pcL l) = true := by simp
  generalize hB : pcL l = B at *
  have HB := hidn hB
  clear hB h0 hc0
  go_enter Try.func3, Try.ntmps3
  go_wp2_with fail
  refine HC2.out.mono ?_
  rintro e w0 ⟨rfl, rfl⟩
  go_wp2_with fail
  refine H1.out.mono ?_
  rintro e w1 ⟨rfl, b1⟩
  have h1 := h.below b1
  have H2 := hidn (refCan_any a n cap l w1 h1 (by omega) hc)
  rw [HB.out] at H2
  go_wp2_with fail
  refine H2.out.mono ?_
  rintro e w2 ⟨rfl, b2⟩
  have B2 := b1.trans (b2.mono b1.size)
  have h2 := h1.below b2
  have H3 := hidn (expired_any a n cap l fl w2 h2 (by omega))
  go_wp2_with fail
  refine H3.out.mono ?_
  rintro e w3 ⟨v3, rfl, o3, b3⟩
  have B3 := B2.trans (b3.mono B2.size)
  obtain ⟨a3, c3, rfl, i3, -⟩ := ils_of_own o3
  have h3 := h2.below b3
  have H4 := hidn (refExpired_any a n cap l fl w3 h3 (by omega))
  clear o3
  go_wp2_with fail
  refine H4.out.mono ?_
  rintro e w4 ⟨v4, rfl, o4, b4⟩
  have B4 := B3.trans (b4.mono B3.size)
  obtain ⟨a4, c4, rfl, i4, -⟩ := ils_of_own o4
  have h4 := h3.below b4
  have H5 := hidn (equal_same a3 a4 _ c3 c4 _ w4 (i3.below b4) i4)
  clear o4
  go_wp2_with fail
  refine H5.out.mono ?_
  rintro e w5 ⟨rfl, b5⟩
  have B5 := B4.trans (b5.mono B4.size)
  have h5 := h4.below b5
  have H6 := hidn (merge_any a n cap l w5 h5 (by omega) hc)
  go_wp2_with fail
  refine H6.out.mono ?_
  rintro e w6 ⟨v6, rfl, o6, b6⟩
  have B6 := B5.trans (b6.mono B5.size)
  obtain ⟨a6, c6, rfl, i6, -⟩ := ils_of_own o6
  have h6 := h5.below b6
  have H7 := hidn (refMerge_any a n cap l w6 h6 (by omega) hc)
  clear o6
  go_wp2_with fail
  refine H7.out.mono ?_
  rintro e w7 ⟨v7, rfl, o7, b7⟩
  have B7 := B6.trans (b7.mono B6.size)
  obtain ⟨a7, c7, rfl, i7, -⟩ := ils_of_own o7
  have H8 := hidn (equal_same a6 a7 _ c6 c7 _ w7 (i6.below b7) i7)
  clear o7
  go_wp2_with fail
  refine H8.out.mono ?_
  rintro e w8 ⟨rfl, b8⟩
  have B8 := B7.trans (b8.mono B7.size)
  go_wp2_with fail
  refine (awake16 _).mono ?_
  rintro e w9 ⟨rfl, rfl⟩
  go_wp2_with fail
  exact bodyPost_ret (v := .bool true) (by simp [results, Try.results3, go_sem]) rfl ⟨rfl, B8⟩
end Go.Proofs.Ytjckfcholnkleaa
