/- The reader's small calls: isOneOf, isAt, take, point. -/
import Derived.Test.YtdgkjiiegmnjfaaRxRune
namespace Go.Proofs.Ytdgkjiiegmnjfaa
open Go.RowKit Go.Joins
set_option linter.unusedVariables false

set_option maxHeartbeats 2000000 in
theorem isOneOf_any (s : Sg) (p : ByteArray) (w : World) (hs : p.size ≤ 1000) (ha : AscS p) (hok : SgOK s) :
    Calls Try.prog 52 #[.agg #[.int .i32 s.p, .bool s.esc], .string p] w fun e w' => e = .returned (.bool (oneOf (ptsOf p) s)) ∧ Below w.heap.size w w' := by
  obtain ⟨a, esc⟩ := s
  obtain ⟨h0, h1, h2⟩ := hok
  simp only at h0 h1 h2
  cases esc with
  | true =>
    have e : oneOf (ptsOf p) ⟨a, true⟩ = false := rfl
    rw [e]
    go_enter Try.func52, Try.ntmps52
    go_wp2
    exact bodyPost_ret (v := .bool false) (by simp [results, Try.results52, go_sem]) rfl ⟨rfl, below_al (Below.refl _ _)⟩
  | false =>
    have e : oneOf (ptsOf p) ⟨a, false⟩ = (ptsOf p).contains a := rfl
    rw [e]
    go_enter Try.func52, Try.ntmps52
    go_wp2_with fail
    refine (contains_any p a _ hs ha h0 h1 h2).mono ?_
    rintro e w1 ⟨rfl, b1⟩
    go_wp2
    exact bodyPost_ret (v := .bool ((ptsOf p).contains a)) (by simp [results, Try.results52, go_sem]) rfl ⟨rfl, below_al b1⟩

set_option maxHeartbeats 2000000 in
theorem isAt_any (r : Nat) (ρ : Nat → Nat) (R : Rd) (p : ByteArray) (w : World) (hs : p.size ≤ 1000) (ha : AscS p) (h : RDx w r ρ R) :
    Calls Try.prog 50 #[.pointer (some ⟨r, 0, none⟩), .string p] w fun e w' => e = .returned (.bool (atR (ptsOf p) R.1)) ∧ Below w.heap.size w w' := by
  obtain ⟨l, L⟩ := R
  obtain ⟨la, lc, sv, V, h⟩ := h
  have hcap := h.cap
  have hcm := h.capm
  have hblk := h.blk
  unfold maxLen at hcm
  cases l with
  | nil =>
    simp only [List.length_nil] at hblk
    have c0 : w.cell? ⟨r, 0, none⟩ = some (.slice la 0 lc) := cell_of_row _ _ _ _ _ _ hblk
    have e : atR (ptsOf p) [] = false := rfl
    rw [e]
    clear hblk h
    go_enter Try.func50, Try.ntmps50
    go_wp2
    exact bodyPost_ret (v := .bool false) (by simp [results, Try.results50, go_sem]) rfl ⟨rfl, Below.refl _ _⟩
  | cons s t =>
    obtain ⟨b, off, rfl, d0, d1, hok, _⟩ := h.sig.cons
    have hl1 := h.sig.1
    simp only [List.length_cons] at hblk hl1 hcap
    obtain ⟨n, hn⟩ : ∃ n, n = t.length + 1 := ⟨_, rfl⟩
    rw [← hn] at hblk hl1 hcap
    have c0 : w.cell? ⟨r, 0, none⟩ = some (.slice (some ⟨b, off, none⟩) n lc) := cell_of_row _ _ _ _ _ _ hblk
    have hn0 : (0 : Int) < (n : Int) := by omega
    have hn1 : 0 < n := by omega
    have e : atR (ptsOf p) (s :: t) = oneOf (ptsOf p) s := rfl
    rw [e]
    clear hblk h hn
    go_enter Try.func50, Try.ntmps50
    go_wp2_with fail
    refine (isOneOf_any s p _ hs ha hok).mono ?_
    rintro e w1 ⟨rfl, b1⟩
    go_wp2
    exact bodyPost_ret (v := .bool (oneOf (ptsOf p) s)) (by simp [results, Try.results50, go_sem]) rfl ⟨rfl, b1⟩

def tailIf (b : Bool) (l : List Sg) : List Sg := if b = true then l.tail else l
set_option maxHeartbeats 2000000 in
theorem take_any (r : Nat) (ρ : Nat → Nat) (R : Rd) (p : ByteArray) (w : World) (hs : p.size ≤ 1000) (ha : AscS p) (h : RDx w r ρ R) :
    Calls Try.prog 47 #[.pointer (some ⟨r, 0, none⟩), .string p] w fun e w' => e = .returned (.bool (atR (ptsOf p) R.1)) ∧ RDx w' r ρ (tailIf (atR (ptsOf p) R.1) R.1, R.2) ∧ Gw ρ ρ w w' := by
  cases hat : atR (ptsOf p) R.1 with
  | false =>
    have HA := hidn hat
    clear hat
    go_enter Try.func47, Try.ntmps47
    go_wp2_with fail
    refine (isAt_any r ρ R p _ hs ha h).mono ?_
    rintro e w1 ⟨rfl, b1⟩
    rw [HA.out]
    go_wp2
    exact bodyPost_ret (v := .bool false) (by simp [results, Try.results47, go_sem]) rfl ⟨rfl, h.below b1, Gw.of (Kp.of_below b1)⟩
  | true =>
    obtain ⟨l, L⟩ := R
    cases l with
    | nil => cases hat
    | cons s t =>
      have HA := hidn hat
      clear hat
      go_enter Try.func47, Try.ntmps47
      go_wp2_with fail
      refine (isAt_any r ρ (s :: t, L) p _ hs ha h).mono ?_
      rintro e w1 ⟨rfl, b1⟩
      rw [HA.out]
      obtain ⟨la, lc, sv, V, h1⟩ := h.below b1
      obtain ⟨b, off, rfl, _, _, _, _⟩ := h1.sig.cons
      have hblk := h1.blk
      have hcap := h1.cap
      have hcm := h1.capm
      have hl1 := h1.sig.1
      unfold maxLen at hcm
      simp only [List.length_cons] at hblk hcap hl1
      obtain ⟨n, hn⟩ : ∃ n, n = t.length + 1 := ⟨_, rfl⟩
      rw [← hn] at hblk hl1 hcap
      have c0 : w1.cell? ⟨r, 0, none⟩ = some (.slice (some ⟨b, off, none⟩) n lc) := cell_of_row _ _ _ _ _ _ hblk
      have f0 : w1.frozen? ⟨r, 0, none⟩ = false := unfrozen_of_block hblk _
      have hn1 : 1 ≤ n := by omega
      have hn2 : (1 : Int) ≤ (n : Int) := by omega
      obtain ⟨la, hla⟩ : ∃ la, (if lc = 1 then some (⟨b, off, none⟩ : Addr) else some ⟨b, off + 2, none⟩) = la := ⟨_, rfl⟩
      have ht : Hid (n - 1 = t.length) := hidn (by omega)
      have H1 := h1.tail la (fun hne => by
        rw [← hla, if_neg]
        have : 0 < t.length := List.length_pos_iff.2 hne
        omega)
      have HH := hidn H1
      have HB : Hid (Below w.heap.size w w1) := hidn b1
      clear hn H1 h1 h b1
      go_wp2
      rw [ht.out]
      exact bodyPost_ret (v := .bool true) (by simp [results, Try.results47, go_sem]) rfl ⟨rfl, ⟨_, _, _, _, HH.out.1⟩, (Gw.of (Kp.of_below HB.out)).trans HH.out.2⟩

set_option maxHeartbeats 2000000 in
theorem point_none (r : Nat) (ρ : Nat → Nat) (R : Rd) (p : ByteArray) (w : World) (hs : p.size ≤ 1000) (ha : AscS p) (h : RDx w r ρ R) (hp : pointR (ptsOf p) R.1 = none) :
    Calls Try.prog 59 #[.pointer (some ⟨r, 0, none⟩), .string p] w fun e w' => e = .returned (.tuple #[.int .i32 0, .bool false]) ∧ RDx w' r ρ R ∧ Gw ρ ρ w w' := by
  obtain ⟨l, L⟩ := R
  have h' := h
  obtain ⟨la, lc, sv, V, h1⟩ := h'
  have hblk := h1.blk
  cases l with
  | nil =>
    simp only [List.length_nil] at hblk
    have c0 : w.cell? ⟨r, 0, none⟩ = some (.slice la 0 lc) := cell_of_row _ _ _ _ _ _ hblk
    clear hblk h1
    go_enter Try.func59, Try.ntmps59
    go_wp2
    exact bodyPost_ret (v := .tuple #[.int .i32 0, .bool false]) (by simp [results, Try.results59, go_sem]) rfl ⟨rfl, h, Gw.refl _ _⟩
  | cons s t =>
    obtain ⟨b, off, rfl, _, _, _, _⟩ := h1.sig.cons
    have hl1 := h1.sig.1
    simp only [List.length_cons] at hblk hl1
    obtain ⟨n, hn⟩ : ∃ n, n = t.length + 1 := ⟨_, rfl⟩
    rw [← hn] at hblk hl1
    have c0 : w.cell? ⟨r, 0, none⟩ = some (.slice (some ⟨b, off, none⟩) n lc) := cell_of_row _ _ _ _ _ _ hblk
    have hn0 : ((n : Int) == 0) = false := beq_eq_false_iff_ne.2 (by omega)
    have HA : Hid (atR (ptsOf p) (s :: t) = true) := hidn (by
      simp only [pointR] at hp
      split at hp
      · assumption
      · cases hp)
    clear hblk h1 hn hp
    go_enter Try.func59, Try.ntmps59
    go_wp2_with fail
    refine (isAt_any r ρ (s :: t, L) p _ hs ha h).mono ?_
    rintro e w1 ⟨rfl, b1⟩
    rw [HA.out]
    go_wp2
    exact bodyPost_ret (v := .tuple #[.int .i32 0, .bool false]) (by simp [results, Try.results59, go_sem]) rfl ⟨rfl, h.below b1, Gw.of (Kp.of_below b1)⟩

set_option maxHeartbeats 2000000 in
theorem point_some (r : Nat) (ρ : Nat → Nat) (R : Rd) (p : ByteArray) (w : World) (a : Int) (t' : List Sg) (hs : p.size ≤ 1000) (ha : AscS p) (h : RDx w r ρ R) (hp : pointR (ptsOf p) R.1 = some (a, t')) :
    Calls Try.prog 59 #[.pointer (some ⟨r, 0, none⟩), .string p] w fun e w' => e = .returned (.tuple #[.int .i32 a, .bool true]) ∧ RDx w' r ρ (t', R.2) ∧ Gw ρ ρ w w' := by
  obtain ⟨l, L⟩ := R
  cases l with
  | nil => cases hp
  | cons s t =>
    have h' := h
    obtain ⟨la, lc, sv, V, h1⟩ := h'
    have hblk := h1.blk
    obtain ⟨b, off, rfl, _, _, _, _⟩ := h1.sig.cons
    have hl1 := h1.sig.1
    simp only [List.length_cons] at hblk hl1
    obtain ⟨n, hn⟩ : ∃ n, n = t.length + 1 := ⟨_, rfl⟩
    rw [← hn] at hblk hl1
    have c0 : w.cell? ⟨r, 0, none⟩ = some (.slice (some ⟨b, off, none⟩) n lc) := cell_of_row _ _ _ _ _ _ hblk
    have hn0 : ((n : Int) == 0) = false := beq_eq_false_iff_ne.2 (by omega)
    simp only [pointR] at hp
    have HA : Hid (atR (ptsOf p) (s :: t) = false) := hidn (by
      show oneOf (ptsOf p) s = false
      split at hp
      · cases hp
      · rename_i h0; simpa using h0)
    obtain ⟨rfl, rfl⟩ : s.p = a ∧ t = t' := by
      split at hp
      · cases hp
      · simpa using hp
    have HN := hidn hn
    clear hblk h1 hn hp
    go_enter Try.func59, Try.ntmps59
    go_wp2_with fail
    refine (isAt_any r ρ (s :: t, L) p _ hs ha h).mono ?_
    rintro e w1 ⟨rfl, b1⟩
    rw [HA.out]
    obtain ⟨la, lc, sv, V, h1⟩ := h.below b1
    obtain ⟨b, off, rfl, d0, d1, _, _⟩ := h1.sig.cons
    have hblk := h1.blk
    have hcap := h1.cap
    have hcm := h1.capm
    unfold maxLen at hcm
    simp only [List.length_cons] at hblk hcap
    rw [← HN.out] at hblk hcap
    have e0 : w1.cell? ⟨r, 0, none⟩ = some (.slice (some ⟨b, off, none⟩) n lc) := cell_of_row _ _ _ _ _ _ hblk
    have f0 : w1.frozen? ⟨r, 0, none⟩ = false := unfrozen_of_block hblk _
    have hn' := HN.out
    have hn1 : 1 ≤ n := by omega
    have hn2 : (1 : Int) ≤ (n : Int) := by omega
    have hn3 : (0 : Int) < (n : Int) := by omega
    have hn4 : 0 < n := by omega
    obtain ⟨la, hla⟩ : ∃ la, (if lc = 1 then some (⟨b, off, none⟩ : Addr) else some ⟨b, off + 2, none⟩) = la := ⟨_, rfl⟩
    have ht : Hid (n - 1 = t.length) := hidn (by omega)
    have H1 := h1.tail la (fun hne => by
      rw [← hla, if_neg]
      have : 0 < t.length := List.length_pos_iff.2 hne
      omega)
    have HH := hidn H1
    have HB : Hid (Below w.heap.size w w1) := hidn b1
    clear hn' H1 h1 h b1
    go_wp2
    rw [ht.out]
    exact bodyPost_ret (v := .tuple #[.int .i32 s.p, .bool true]) (by simp [results, Try.results59, go_sem]) rfl ⟨rfl, ⟨_, _, _, _, HH.out.1⟩, (Gw.of (Kp.of_below HB.out)).trans HH.out.2⟩
end Go.Proofs.Ytdgkjiiegmnjfaa
