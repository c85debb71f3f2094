/- merge: which samples are told, in plain words. -/
import Derived.Test.YtccjgciknaooaaaHhF
import Derived.Test.YtccjgciknaooaaaGpM
namespace Go.Proofs.Ytccjgciknaooaaa
open Go.RowKit Go.Joins
set_option linter.unusedVariables false

def inB (J : List Gp) (t : Int) : Bool := J.any fun g => decide (g.f ≤ t) && decide (t ≤ g.t)
/-- Those neither below a floor nor in a gap. -/
def outL (l : List Sam) (floor : Int) (J : List Gp) : List Sam := l.filter fun s => decide (floor ≤ s.t) && !inB J s.t

theorem inB_cov (J : List Gp) (t : Int) : inB J t = true ↔ Cov J t := by unfold inB Cov; simp

theorem inB_same {J G : List Gp} (h : ∀ x, Cov J x ↔ Cov G x) (t : Int) : inB J t = inB G t := by
  rw [Bool.eq_iff_iff, inB_cov, inB_cov]
  exact h t

theorem outL_same {J G : List Gp} (h : ∀ x, Cov J x ↔ Cov G x) (l : List Sam) (floor : Int) : outL l floor J = outL l floor G := by
  unfold outL
  congr 1
  funext s
  rw [inB_same h]

theorem outL_yes {l : List Sam} {k : Nat} (h : k < l.length) {floor : Int} {J : List Gp} (h1 : floor ≤ (samD l k).t) (h2 : inB J (samD l k).t = false) : outL (l.take (k + 1)) floor J = outL (l.take k) floor J ++ [samD l k] := by
  unfold outL
  rw [take_more l k h, List.filter_append]
  simp [List.filter, h1, h2]

theorem outL_no {l : List Sam} {k : Nat} (h : k < l.length) {floor : Int} {J : List Gp} (h1 : ¬ floor ≤ (samD l k).t ∨ inB J (samD l k).t = true) : outL (l.take (k + 1)) floor J = outL (l.take k) floor J := by
  unfold outL
  rw [take_more l k h, List.filter_append]
  rcases h1 with h1 | h1 <;> simp [List.filter, h1]

theorem gpD_at {J : List Gp} {i : Nat} (hi : i < J.length) : gpD J i = J[i] := by
  unfold gpD
  rw [List.getD_eq_getElem?_getD, List.getElem?_eq_getElem hi]
  rfl

theorem hole_at {J : List Gp} (hs : SepG J) {m : Nat} {t : Int} (hm : m < J.length) (hlt : ∀ i, i < m → (gpD J i).t < t) (hge : t ≤ (gpD J m).t) : inB J t = decide ((gpD J m).f ≤ t) := by
  rw [Bool.eq_iff_iff, inB_cov, decide_eq_true_iff]
  constructor
  · rintro ⟨g, hg, h1, h2⟩
    obtain ⟨i, hi, rfl⟩ := List.getElem_of_mem hg
    rw [← gpD_at hi] at h1 h2
    rcases Nat.lt_trichotomy i m with h | h | h
    · have := hlt i h; omega
    · subst h; exact h1
    · have := List.pairwise_iff_getElem.1 hs.1 m i hm hi h
      rw [← gpD_at hm, ← gpD_at hi] at this
      omega
  · intro h
    exact ⟨gpD J m, by rw [gpD_at hm]; exact List.getElem_mem _, h, hge⟩

theorem hole_none {J : List Gp} {t : Int} (hlt : ∀ i, i < J.length → (gpD J i).t < t) : inB J t = false := by
  cases hc : inB J t
  · rfl
  · obtain ⟨g, hg, h1, h2⟩ := (inB_cov J t).1 hc
    obtain ⟨i, hi, rfl⟩ := List.getElem_of_mem hg
    have := hlt i hi
    rw [gpD_at hi] at this
    omega

theorem gpD_drop (J : List Gp) (m j : Nat) : gpD (J.drop m) j = gpD J (m + j) := by simp [gpD, List.getD_eq_getElem?_getD]

theorem outL_len (l : List Sam) (floor : Int) (J : List Gp) : (outL l floor J).length ≤ l.length := List.length_filter_le _ _

theorem gps_len0 {w : World} {a : Option Addr} {r m n : Nat} {J : List Gp} (h : Gps w a r (J.drop m)) (hn : J.length = n) (hm : m + r = n) : m + r = n := hm
end Go.Proofs.Ytccjgciknaooaaa
