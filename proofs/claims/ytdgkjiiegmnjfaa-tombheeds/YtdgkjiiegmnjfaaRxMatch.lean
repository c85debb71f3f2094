/- regex.Match, regex.Check: contracts at every pattern and text. -/
import Derived.Test.YtdgkjiiegmnjfaaRxFits
namespace Go.Proofs.Ytdgkjiiegmnjfaa
open Go.RowKit Go.Joins
set_option linter.unusedVariables false

set_option maxHeartbeats 2000000 in
theorem match_any (p s : ByteArray) (w : World) (hp : p.size ≤ maxLen) (hs : s.size ≤ 140737488355328) :
    Calls Try.prog 32 #[.string p, .string s] w fun e w' => e = .returned (.tuple #[.bool (matchS p s).1, .int .i64 (matchS p s).2]) ∧ Below w.heap.size w w' := by
  obtain ⟨Z, hZ⟩ : ∃ Z, Z = matchS p s := ⟨_, rfl⟩
  rw [← hZ]
  have HZ := hidn hZ
  clear hZ
  go_enter Try.func32, Try.ntmps32
  go_wp2_with fail
  refine (rx_read_any p _ hp).mono ?_
  rintro e w1 ⟨b1, hpost⟩
  cases hr : readS p with
  | none =>
    rw [hr] at hpost
    obtain rfl : e = .returned (.tuple #[.agg #[.slice none 0 0, .int .i64 0, .int .i64 0], .bool false]) := hpost
    have hZ2 : Hid (Z = (false, 5)) := hidn (by rw [HZ.out]; unfold matchS; rw [hr])
    go_wp2_with fail
    exact bodyPost_ret (v := .tuple #[.bool false, .int .i64 5]) (by simp [results, Try.results32, go_sem]) rfl ⟨by rw [hZ2.out], b1.alloc b1.size _⟩
  | some m =>
    obtain ⟨L, f, t⟩ := m
    rw [hr] at hpost
    obtain ⟨sv, rfl, hms, hmok⟩ := hpost
    have hZ2 : Hid (Z = (fitsS L f t s, 0)) := hidn (by rw [HZ.out]; unfold matchS; rw [hr])
    obtain ⟨gs, cs, rfl⟩ : ∃ gs cs, sv = .slice (some ⟨gs, 0, none⟩) L.length cs := by
      obtain ⟨V, k1, _⟩ := hms
      have := hmok.f
      obtain ⟨g, c, h, _, _⟩ := nonnil k1 (by omega)
      exact ⟨g, c, h⟩
    obtain ⟨w2, hw2⟩ : ∃ w2, w2 = w1.alloc (.cells #[.slice (some ⟨gs, 0, none⟩) L.length cs, .int .i64 (f : Int), .int .i64 (t : Int)] 75) := ⟨_, rfl⟩
    have b2 : Below w1.heap.size w1 w2 := by rw [hw2]; exact (Below.refl _ w1).alloc (Nat.le_refl _) _
    have hms2 := hms.below b2
    have B2 : Below w.heap.size w w2 := b1.trans (b2.mono b1.size)
    have HC := hidn (fits_any L f t (.slice (some ⟨gs, 0, none⟩) L.length cs) s w2 hms2 hmok hs)
    obtain ⟨NL, hNL⟩ : ∃ NL, NL = L.length := ⟨_, rfl⟩
    rw [← hNL] at HC hw2 ⊢
    have HW2 := hidn hw2
    clear hw2 hNL hms hms2 b2
    go_wp2_with fail
    rw [← HW2.out]
    refine HC.out.mono ?_
    rintro e w3 ⟨rfl, b3⟩
    have B3 := B2.trans (b3.mono B2.size)
    go_wp2_with fail
    exact bodyPost_ret (v := .tuple #[.bool (fitsS L f t s), .int .i64 0]) (by simp [results, Try.results32, go_sem]) rfl ⟨by rw [hZ2.out], B3⟩

set_option maxHeartbeats 2000000 in
theorem rx_check_any (p : ByteArray) (w : World) (hp : p.size ≤ maxLen) :
    Calls Try.prog 36 #[.string p] w fun e w' => e = .returned (.int .i64 (checkS p)) ∧ Below w.heap.size w w' := by
  obtain ⟨Z, hZ⟩ : ∃ Z, Z = checkS p := ⟨_, rfl⟩
  rw [← hZ]
  have HZ := hidn hZ
  clear hZ
  go_enter Try.func36, Try.ntmps36
  go_wp2_with fail
  refine (rx_read_any p _ hp).mono ?_
  rintro e w1 ⟨b1, hpost⟩
  cases hr : readS p with
  | none =>
    rw [hr] at hpost
    obtain rfl : e = .returned (.tuple #[.agg #[.slice none 0 0, .int .i64 0, .int .i64 0], .bool false]) := hpost
    have hZ2 : Hid (Z = 5) := hidn (by rw [HZ.out]; unfold checkS; rw [hr])
    go_wp2_with fail
    exact bodyPost_ret (v := .int .i64 5) (by simp [results, Try.results36, go_sem]) rfl ⟨by rw [hZ2.out], b1.alloc b1.size _⟩
  | some m =>
    obtain ⟨L, f, t⟩ := m
    rw [hr] at hpost
    obtain ⟨sv, rfl, hms, hmok⟩ := hpost
    have hZ2 : Hid (Z = 0) := hidn (by rw [HZ.out]; unfold checkS; rw [hr])
    obtain ⟨gs, cs, rfl⟩ : ∃ gs cs, sv = .slice (some ⟨gs, 0, none⟩) L.length cs := by
      obtain ⟨V, k1, _⟩ := hms
      have := hmok.f
      obtain ⟨g, c, h, _, _⟩ := nonnil k1 (by omega)
      exact ⟨g, c, h⟩
    go_wp2_with fail
    exact bodyPost_ret (v := .int .i64 0) (by simp [results, Try.results36, go_sem]) rfl ⟨by rw [hZ2.out], b1.alloc b1.size _⟩
end Go.Proofs.Ytdgkjiiegmnjfaa
