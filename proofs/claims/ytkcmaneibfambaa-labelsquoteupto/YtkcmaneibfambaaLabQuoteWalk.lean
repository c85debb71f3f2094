/- LabelsQuote: the law's walk. -/
import Derived.Test.YtkcmaneibfambaaLabUnq
import Derived.Test.YtkcmaneibfambaaLabRefUnq
import Derived.Test.YtkcmaneibfambaaLabAwake
namespace Go.Proofs.Ytkcmaneibfambaa
open Go.RowKit
set_option linter.unusedVariables false

theorem quoted_back (s : ByteArray) : uqO ((⟨(quoted s).toArray⟩ : ByteArray) ++ s) = some (s.data.toList, s.data.toList) := by
  have h : ((⟨(quoted s).toArray⟩ : ByteArray) ++ s).data.toList = 34 :: (quoteL s.data.toList ++ 34 :: s.data.toList) := by
    rw [append_list]; simp [quoted]
  rw [uqO_cons h, unqS_quote]

set_option maxHeartbeats 4000000 in
set_option maxRecDepth 100000 in
theorem quote_walk (s : ByteArray) (w : World) (hs : s.size ≤ 1048576) :
    Calls Try.prog 4 #[.string s] w fun e w' => e = .returned (.bool true) ∧ Below w.heap.size w w' := by
  obtain ⟨X, hX⟩ : ∃ X, uqT s = X := ⟨_, rfl⟩
  obtain ⟨Y, hY⟩ : ∃ X, uqR s = X := ⟨_, rfl⟩
  obtain ⟨Z, hZ⟩ : ∃ X, uqE s = X := ⟨_, rfl⟩
  obtain ⟨Q, hQ⟩ : ∃ Q : ByteArray, (⟨(quoted s).toArray⟩ : ByteArray) = Q := ⟨_, rfl⟩
  have HX := hidn hX
  have HY := hidn hY
  have HZ := hidn hZ
  have HQ := hidn hQ
  have qX : (X.toList == X.toList) = true := beq_iff_eq.2 rfl
  have qY : (Y.toList == Y.toList) = true := beq_iff_eq.2 rfl
  have qZ : (Z == Z) = true := beq_iff_eq.2 rfl
  have qQ : (Q.toList == Q.toList) = true := beq_iff_eq.2 rfl
  have qs : (s.toList == s.toList) = true := beq_iff_eq.2 rfl
  have hQs : Q.size ≤ 2 + 2 * s.size := by
    rw [← hQ, Lib.size_eq]
    have h1 := (quoteL_len s.data.toList).2
    rw [← Lib.size_eq] at h1
    show (quoted s).length ≤ _
    unfold quoted
    simp only [List.length_append, List.length_cons, List.length_nil]
    omega
  have hback := quoted_back s
  rw [hQ] at hback
  obtain ⟨k1, k2, k3⟩ := uq_some hback
  have e1 : uqT (Q ++ s) = s := by rw [k1, Lib.mk_data]
  have e2 : uqR (Q ++ s) = s := by rw [k2, Lib.mk_data]
  have E1 := hidn e1
  have E2 := hidn e2
  have E3 := hidn k3
  have hQss : (Q ++ s).size ≤ 1099511627776 := by rw [ByteArray.size_append]; omega
  clear hX hY hZ hQ hback k1 k2 k3 e1 e2
  go_enter Try.func4, Try.ntmps4
  go_wp2_with fail
  refine (unq_any s _ (by omega)).mono ?_
  rintro e w1 ⟨rfl, b1⟩
  rw [HX.out, HY.out, HZ.out]
  go_wp2_with fail
  refine (refUnq_any s _ (by omega)).mono ?_
  rintro e w2 ⟨rfl, b2⟩
  have B2 := b1.trans (b2.mono b1.size)
  rw [HX.out, HY.out, HZ.out]
  go_wp2_with fail
  refine (quote_any s _ (by omega)).mono ?_
  rintro e w3 ⟨rfl, b3⟩
  have B3 := B2.trans (b3.mono B2.size)
  rw [HQ.out]
  go_wp2_with fail
  refine (unq_any (Q ++ s) _ hQss).mono ?_
  rintro e w4 ⟨rfl, b4⟩
  have B4 := B3.trans (b4.mono B3.size)
  rw [E1.out, E2.out, E3.out]
  go_wp2_with fail
  refine (quote_any s _ (by omega)).mono ?_
  rintro e w5 ⟨rfl, b5⟩
  have B5 := B4.trans (b5.mono B4.size)
  rw [HQ.out]
  go_wp2_with fail
  refine (refQuote_any s _ (by omega)).mono ?_
  rintro e w6 ⟨rfl, rfl⟩
  rw [HQ.out]
  go_wp2_with fail
  refine (awake_any _).mono ?_
  rintro e w7 ⟨rfl, b7⟩
  go_wp2
  go_ret
  exact ⟨rfl, B5.trans (b7.mono B5.size)⟩
end Go.Proofs.Ytkcmaneibfambaa
