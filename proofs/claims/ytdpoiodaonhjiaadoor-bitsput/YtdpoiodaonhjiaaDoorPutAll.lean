/- What bits.Put and the document's Put answer, whatever they are given: one answer. -/
import Derived.Test.YtdpoiodaonhjiaaDoorLaw2
import Derived.Test.YtdpoiodaonhjiaaDoorRefPut
namespace Go.Proofs.YtdpoiodaonhjiaaDoor
open Go.RowKit
set_option linter.unusedVariables false

def PutSpec (zs : List Nat) (x : Int) (n : Nat) (count : Int) (ya : List Nat) (na ea : Int) : Prop :=
  ((canB zs x = true ∧ 0 ≤ count ∧ count ≤ 64) ∧ IsPack ya (bitsL zs x.toNat ++ lowBits n count.toNat) ∧ na = x + count ∧ ea = 0) ∨
  (¬ (canB zs x = true ∧ 0 ≤ count ∧ count ≤ 64) ∧ ya = [] ∧ na = 0 ∧ ea = 1)
theorem PutSpec.unique {zs : List Nat} {x : Int} {n : Nat} {count : Int} {ya yb : List Nat} {na nb ea eb : Int} (h : PutSpec zs x n count ya na ea) (h' : PutSpec zs x n count yb nb eb) : ya = yb ∧ na = nb ∧ ea = eb := by
  rcases h with ⟨g, p, rfl, rfl⟩ | ⟨g, rfl, rfl, rfl⟩ <;> rcases h' with ⟨g', p', rfl, rfl⟩ | ⟨g', rfl, rfl, rfl⟩
  · exact ⟨p.unique p', rfl, rfl⟩
  · exact absurd g g'
  · exact absurd g' g
  · exact ⟨rfl, rfl, rfl⟩
theorem can_small {zs : List Nat} {x : Int} {len : Nat} (h : canB zs x = true) (hl : zs.length = len) : 0 ≤ x ∧ x.toNat ≤ 8 * len := by
  have := (canB_iff zs x).1 h
  refine ⟨this.1, ?_⟩
  have := this.2.1
  unfold nb at this
  omega

theorem put_all (a : Option Addr) (len cap : Nat) (x : Int) (n : Nat) (count : Int) (zs : List Nat) (w : World) (hB : Bs w a len zs) (hm : len ≤ 137438953472) (hx : x ≤ 9223372036854775807) (hn : n < 18446744073709551616) :
    Calls Tryd.prog 21 #[.agg #[.slice a len cap, .int .i64 x], .int .u64 n, .int .i64 count] w fun e w' =>
      ∃ a4 l4 c4 ya na ea, e = .returned (.tuple #[.agg #[.slice a4 l4 c4, .int .i64 na], .int .i64 ea]) ∧ Bs w' a4 l4 ya ∧ PutSpec zs x n count ya na ea ∧ Below w.heap.size w w' := by
  by_cases hgood : canB zs x = true ∧ 0 ≤ count ∧ count ≤ 64
  · obtain ⟨hcan, hc0, hc1⟩ := hgood
    have hsm := can_small hcan hB.1
    obtain ⟨ct, rfl⟩ := Int.eq_ofNat_of_zero_le hc0
    obtain ⟨xn, rfl⟩ := Int.eq_ofNat_of_zero_le hsm.1
    refine (put_ok a len cap xn n ct zs w hB (by omega) hn hcan (by omega)).mono ?_
    rintro e w4 ⟨g, ys, rfl, hg, hown4, hpk4, hb4⟩
    obtain ⟨a4, c4, hv, hB4⟩ := bs_of_own hown4 hpk4.2.1
    rw [hv]
    exact ⟨_, _, _, ys, _, _, rfl, hB4, .inl ⟨⟨hcan, hc0, hc1⟩, by rw [Int.toNat_natCast, Int.toNat_natCast]; exact hpk4, by push_cast; rfl, rfl⟩, hb4⟩
  · refine (put_bad a len cap x n count zs w hB hx (by
      by_cases h1 : canB zs x = true
      · exact .inr (fun h2 => hgood ⟨h1, h2⟩)
      · exact .inl (by simpa using h1))).mono ?_
    rintro e w4 ⟨rfl, hb4⟩
    exact ⟨_, _, _, [], _, _, rfl, Bs.nil _, .inr ⟨hgood, rfl, rfl, rfl⟩, hb4⟩
theorem refPut_all (a : Option Addr) (len cap : Nat) (x : Int) (n : Nat) (count : Int) (zs : List Nat) (w : World) (hB : Bs w a len zs) (hm : len ≤ 137438953472) (hx : x ≤ 9223372036854775807) (hn : n < 18446744073709551616) :
    Calls Tryd.prog 22 #[.agg #[.slice a len cap, .int .i64 x], .int .u64 n, .int .i64 count] w fun e w' =>
      ∃ a4 l4 c4 ya na ea, e = .returned (.tuple #[.agg #[.slice a4 l4 c4, .int .i64 na], .int .i64 ea]) ∧ Bs w' a4 l4 ya ∧ PutSpec zs x n count ya na ea ∧ Below w.heap.size w w' := by
  by_cases hgood : canB zs x = true ∧ 0 ≤ count ∧ count ≤ 64
  · obtain ⟨hcan, hc0, hc1⟩ := hgood
    have hsm := can_small hcan hB.1
    obtain ⟨ct, rfl⟩ := Int.eq_ofNat_of_zero_le hc0
    obtain ⟨xn, rfl⟩ := Int.eq_ofNat_of_zero_le hsm.1
    refine (refPut_ok a len cap xn n ct zs w hB hm (by omega) hn hcan (by omega)).mono ?_
    rintro e w4 ⟨v, ys, rfl, hown4, hpk4, hb4⟩
    obtain ⟨a4, c4, hv, hB4⟩ := bs_of_own hown4 hpk4.2.1
    rw [hv]
    exact ⟨_, _, _, ys, _, _, rfl, hB4, .inl ⟨⟨hcan, hc0, hc1⟩, by rw [Int.toNat_natCast, Int.toNat_natCast]; exact hpk4, by push_cast; rfl, rfl⟩, hb4⟩
  · refine (refPut_bad a len cap x n count zs w hB hm hx (by
      by_cases h1 : canB zs x = true
      · exact .inr (fun h2 => hgood ⟨h1, h2⟩)
      · exact .inl (by simpa using h1))).mono ?_
    rintro e w4 ⟨rfl, hb4⟩
    exact ⟨_, _, _, [], _, _, rfl, Bs.nil _, .inr ⟨hgood, rfl, rfl, rfl⟩, hb4⟩
end Go.Proofs.YtdpoiodaonhjiaaDoor
