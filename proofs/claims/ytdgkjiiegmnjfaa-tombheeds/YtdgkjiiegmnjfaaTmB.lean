/- slices.Min of numbers. -/
import Derived.Test.YtdgkjiiegmnjfaaInts
namespace Go.Proofs.Ytdgkjiiegmnjfaa
open Go.RowKit Go.Joins
set_option linter.unusedVariables false
def minI (m y : Int) : Int := if y < m then y else m
def minL : List Int → Int
  | [] => 0
  | x :: t => t.foldl minI x
theorem minL_take (l : List Int) (k : Nat) (hk : 0 < k) (y : Int) (hy : l[k]? = some y) : minL (l.take (k + 1)) = minI (minL (l.take k)) y := by
  cases l with
  | nil => simp at hy
  | cons x t =>
    obtain ⟨k, rfl⟩ : ∃ k', k = k' + 1 := ⟨k - 1, by omega⟩
    have hy' : t[k]? = some y := by simpa using hy
    rw [List.take_succ_cons, List.take_succ_cons, List.take_add_one, hy']
    simp [minL, List.foldl_append]
theorem foldl_minI (t : List Int) : ∀ x, (∀ u, t.foldl minI x ≤ u ↔ x ≤ u ∨ ∃ r ∈ t, r ≤ u) := by
  induction t with
  | nil => intro x u; simp
  | cons y t ih =>
    intro x u
    rw [List.foldl_cons, ih]
    simp only [List.mem_cons, exists_eq_or_imp]
    unfold minI
    split
    · constructor
      · rintro (h | h)
        · exact .inr (.inl h)
        · exact .inr (.inr h)
      · rintro (h | h | h)
        · exact .inl (by omega)
        · exact .inl h
        · exact .inr h
    · constructor
      · rintro (h | h)
        · exact .inl h
        · exact .inr (.inr h)
      · rintro (h | h | h)
        · exact .inl h
        · exact .inl (by omega)
        · exact .inr h
theorem minL_le (l : List Int) (hl : l ≠ []) (u : Int) : minL l ≤ u ↔ ∃ r ∈ l, r ≤ u := by
  cases l with
  | nil => exact absurd rfl hl
  | cons x t =>
    rw [show minL (x :: t) = t.foldl minI x from rfl, foldl_minI]
    simp
set_option maxHeartbeats 1000000 in
theorem min_any (a : Option Addr) (len cap : Nat) (l : List Int) (w : World) (h : Ils w a len l) (h0 : 0 < len) :
    Calls Try.prog 13 #[.slice a len cap] w fun e w' => e = .returned (.int .i64 (minL l)) ∧ Below w.heap.size w w' := by
  have hlen := hidn h.1
  have hlm := h.2.1
  unfold maxLen at hlm
  obtain ⟨Z, hZ⟩ : ∃ Z, Z = minL l := ⟨_, rfl⟩
  rw [← hZ]
  have HZ := hidn hZ
  clear hZ
  obtain ⟨c0, hc0⟩ : ∃ c, l[0]? = some c := ⟨_, List.getElem?_eq_getElem (by rw [hlen.out]; exact h0)⟩
  obtain ⟨b, off, rfl, k0⟩ := h.at hc0
  rw [Nat.add_zero] at k0
  have hs0 : Hid (minL (l.take 1) = c0) := hidn (by rw [List.take_add_one, hc0]; rfl)
  have hn : ¬ (len : Int) < 1 := by omega
  have hp : (0 : Int) < (len : Int) := by omega
  go_enter Try.func13, Try.ntmps13
  go_wp2_with fail
  go_loopw [3, 4] (fun mv iv wr => ∃ k : Nat, 0 < k ∧ k ≤ len ∧ mv = .int .i64 (minL (l.take k)) ∧ iv = .int .i64 (k : Int) ∧ Below w.heap.size w wr) (fun _ iv _ => len - (intOf iv).toNat)
  case atStart => exact ⟨1, by omega, by omega, by rw [hs0.out], rfl, Below.refl _ _⟩
  case round =>
    obtain ⟨k, hk0, hk, rfl, rfl, hb⟩ := hrel
    by_cases hlt : k < len
    · have hlt2 : (k : Int) < (len : Int) := by omega
      obtain ⟨y, hy⟩ : ∃ y, l[k]? = some y := ⟨_, List.getElem?_eq_getElem (by rw [hlen.out]; exact hlt)⟩
      obtain ⟨b', off', e, ck⟩ := (h.below hb).at hy
      cases e
      have hst : Hid (minL (l.take (k + 1)) = if y < minL (l.take k) then y else minL (l.take k)) := hidn (minL_take l k hk0 y hy)
      generalize minL (l.take k) = m at *
      clear hy
      by_cases hym : y < m
      · have hs2 : Hid (minL (l.take (k + 1)) = y) := hidn (by rw [hst.out, if_pos hym])
        go_wp2_with fail
        exact ⟨⟨k + 1, by omega, by omega, by rw [hs2.out], by simp, hb⟩, by simp [intOf]; omega⟩
      · have hs2 : Hid (minL (l.take (k + 1)) = m) := hidn (by rw [hst.out, if_neg hym])
        go_wp2_with fail
        exact ⟨⟨k + 1, by omega, by omega, by rw [hs2.out], by simp, hb⟩, by simp [intOf]; omega⟩
    · have hlt2 : ¬ (k : Int) < (len : Int) := by omega
      have hZt : Hid (Z = minL (l.take k)) := hidn (by rw [HZ.out, List.take_of_length_le (by rw [hlen.out]; omega)])
      go_wp2_with fail
      exact bodyPost_ret (v := .int .i64 (minL (l.take k))) (by simp [results, Try.results13, go_sem]) rfl ⟨by rw [hZt.out], hb⟩
end Go.Proofs.Ytdgkjiiegmnjfaa
