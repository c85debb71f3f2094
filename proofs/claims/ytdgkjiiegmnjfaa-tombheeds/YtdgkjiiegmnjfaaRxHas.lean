/- set.has. -/
import Derived.Test.YtdgkjiiegmnjfaaRxMath2
namespace Go.Proofs.Ytdgkjiiegmnjfaa
open Go.RowKit Go.Joins
set_option linter.unusedVariables false
theorem vspans_get (l : List (Int × Int)) : ∀ (j : Nat) (x : Int × Int), l[j]? = some x → (vspans l)[j * 2]? = some (.int .i32 x.1) ∧ (vspans l)[j * 2 + 1]? = some (.int .i32 x.2) := by
  induction l with
  | nil => intro j s h; simp at h
  | cons x t ih =>
    intro j s h
    have e : vspans (x :: t) = .int .i32 x.1 :: .int .i32 x.2 :: vspans t := rfl
    cases j with
    | zero => simp at h; subst h; rw [e]; exact ⟨rfl, rfl⟩
    | succ j =>
      have := ih j s (by simpa using h)
      rw [e, show (j + 1) * 2 = j * 2 + 2 from by omega]
      exact this
set_option maxHeartbeats 4000000 in
set_option maxRecDepth 100000 in
theorem has_any (o : Bool) (sv : Value) (sp : List (Int × Int)) (p : Int) (w : World) (h : w.ownsRow 0 101 2 sv sp.length (vspans sp)) :
    Calls Try.prog 49 #[.agg #[.bool o, sv], .int .i32 p] w fun e w' => e = .returned (.bool (hasR o sp p)) ∧ Below w.heap.size w w' := by
  obtain ⟨sa, sc, hsv⟩ : ∃ sa sc, sv = .slice sa sp.length sc := by
    rcases h.2 with ⟨h1, h2⟩ | ⟨g, cap, cur, h1, _⟩
    · exact ⟨none, 0, by rw [h1, h2]⟩
    · exact ⟨_, _, h1⟩
  subst hsv
  have hl : sp.length ≤ 9223372036854775807 := by
    rcases h.2 with ⟨_, h1⟩ | ⟨g, cap, cur, _, _, _, h1, h2, _⟩
    · omega
    · unfold maxLen at h2; omega
  obtain ⟨n, hn⟩ : ∃ n, n = sp.length := ⟨_, rfl⟩
  have HN := hidn hn
  obtain ⟨P, hP⟩ : ∃ P, P = hasR o sp p := ⟨_, rfl⟩
  have HP := hidn hP
  rw [← hP]
  rw [← hn] at h hl ⊢
  clear hP hn
  go_enter Try.func49, Try.ntmps49
  have hA0 : Below w.heap.size w (w.alloc (.cells #[.bool o, .slice sa n sc] 97)) := (Below.refl _ w).alloc (Nat.le_refl _) _
  have qA0 : (w.alloc (.cells #[.bool o, .slice sa n sc] 97)).heap[w.heap.size]? = some (.cells #[.bool o, .slice sa n sc] 97 (0, 0)) := heap_alloc_new w _
  obtain ⟨A, hAe⟩ : ∃ A, A = w.heap.size := ⟨_, rfl⟩
  have hAw : w.heap.size ≤ A := by omega
  have HAA := hidn hAe
  have qA1 : (w.alloc (.cells #[.bool o, .slice sa n sc] 97)).heap[A]? = some (.cells #[.bool o, .slice sa n sc] 97 (0, 0)) := by rw [hAe]; exact qA0
  clear hAe qA0
  go_wp2
  rw [← HAA.out]
  go_loopw [10] (fun iv wr => ∃ k : Nat, iv = .int .i64 (k : Int) ∧ k ≤ n ∧ Below w.heap.size w wr ∧ wr.heap[A]? = some (.cells #[.bool o, .slice sa n sc] 97 (0, 0)) ∧ Hid ((sp.take k).any (inSp p) = false)) (fun iv _ => n - (intOf iv).toNat)
  case atStart => exact ⟨0, rfl, Nat.zero_le _, hA0, qA1, hidn rfl⟩
  case round =>
    obtain ⟨k, rfl, hk, hb, qs, hno⟩ := hrel
    have hs : w.heap.size ≤ wr.heap.size := hb.size
    by_cases hlt : k < n
    · have hlt2 : (k : Int) < (n : Int) := by omega
      have hkl : k < sp.length := by rw [← HN.out]; exact hlt
      obtain ⟨x, hx⟩ : ∃ x, sp[k]? = some x := ⟨_, List.getElem?_eq_getElem hkl⟩
      obtain ⟨g, c, hgc, hc1, hc2⟩ := nonnil h (by omega)
      cases hgc
      obtain ⟨v0, v1⟩ := vspans_get sp k x hx
      have c0 : wr.cell? ⟨g, k * 2, none⟩ = some (.int .i32 x.1) := own_at (own_belowS h (hb)) _ _ v0
      have c1 : wr.cell? ⟨g, k * 2 + 1, none⟩ = some (.int .i32 x.2) := own_at (own_belowS h (hb)) _ _ v1
      have hnext : Hid ((sp.take (k + 1)).any (inSp p) = inSp p x) := hidn (by
        rw [List.take_add_one, hx]
        simp [hno.out])
      obtain ⟨x1, x2⟩ := x
      simp only at c0 c1
      have cs0 : wr.cell? ⟨A, 0, none⟩ = some (.bool o) := cell_of_row _ _ _ _ _ _ qs
      have cs0' : (wr.alloc (.cells #[.int .i32 x1, .int .i32 x2] 101)).cell? ⟨A, 0, none⟩ = some (.bool o) := by
        rw [World.cell?_of_block (w := wr) (Below.heap_alloc _ _ _ (Array.getElem?_eq_some_iff.1 qs).1)]; exact cs0
      have hB2 := hb.alloc hs (.cells #[.int .i32 x1, .int .i32 x2] 101)
      have qs2 : (wr.alloc (.cells #[.int .i32 x1, .int .i32 x2] 101)).heap[A]? = some (.cells #[.bool o, .slice (some ⟨g, 0, none⟩) n sc] 97 (0, 0)) := (Below.heap_alloc _ _ _ (Array.getElem?_eq_some_iff.1 qs).1).trans qs
      clear v0 v1 hc1 hc2 hx
      by_cases a1 : x1 ≤ p
      · by_cases a2 : p ≤ x2
        · have hPv : Hid (P = !o) := hidn (by
            rw [HP.out]
            unfold hasR
            have e : sp.any (inSp p) = true := by
              have e2 : inSp p (x1, x2) = true := by simp [inSp, a1, a2]
              have e3 := hnext.out
              rw [e2] at e3
              rw [← List.take_append_drop (k + 1) sp, List.any_append, e3]
              rfl
            rw [if_pos e])
          go_wp2
          rw [hPv.out]
          exact bodyPost_ret (v := .bool (!o)) (by simp [results, Try.results49, go_sem]) rfl ⟨rfl, hB2⟩
        · have hn2 : Hid ((sp.take (k + 1)).any (inSp p) = false) := hidn (by rw [hnext.out]; simp [inSp, a2])
          have a3 : decide (p ≤ x2) = false := by simpa using a2
          go_wp2
          exact ⟨⟨k + 1, by simp, by omega, hB2, qs2, hn2⟩, by simp [intOf]; omega⟩
      · have hn2 : Hid ((sp.take (k + 1)).any (inSp p) = false) := hidn (by rw [hnext.out]; simp [inSp, a1])
        have a3 : decide (x1 ≤ p) = false := by simpa using a1
        go_wp2
        exact ⟨⟨k + 1, by simp, by omega, hB2, qs2, hn2⟩, by simp [intOf]; omega⟩
    · have hlt2 : ¬ (k : Int) < (n : Int) := by omega
      have hPv : Hid (P = o) := hidn (by
        rw [HP.out]
        unfold hasR
        have e := hno.out
        rw [List.take_of_length_le (by rw [← HN.out]; omega)] at e
        rw [e]
        rfl)
      have cs0 : wr.cell? ⟨A, 0, none⟩ = some (.bool o) := cell_of_row _ _ _ _ _ _ qs
      go_wp2
      rw [hPv.out]
      exact bodyPost_ret (v := .bool o) (by simp [results, Try.results49, go_sem]) rfl ⟨rfl, hb⟩
end Go.Proofs.Ytdgkjiiegmnjfaa
