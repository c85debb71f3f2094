/- merge.Sample: between, the closure, sort.Search of it. -/
import Derived.Test.YthmknpdhgfmogabMgB
import Derived.BigRegion
namespace Go.Proofs.Ythmknpdhgfmogab
open Go.RowKit Go.Joins
set_option linter.unusedVariables false

/-- Of rising samples, so many are no later than a time. -/
def AtN (l : List Sam) (t : Int) (n : Nat) : Prop := n ≤ l.length ∧ (∀ j, j < n → (samD l j).t ≤ t) ∧ ∀ j, n ≤ j → j < l.length → t < (samD l j).t

theorem AtN.eq {l : List Sam} {t : Int} {n m : Nat} (h : AtN l t n) (k : AtN l t m) : n = m := by
  rcases Nat.lt_trichotomy n m with h1 | h1 | h1
  · have a := h.2.2 n (Nat.le_refl _) (Nat.lt_of_lt_of_le h1 k.1)
    have b := k.2.1 n h1
    omega
  · exact h1
  · have a := k.2.2 m (Nat.le_refl _) (Nat.lt_of_lt_of_le h1 h.1)
    have b := h.2.1 m h1
    omega

theorem btw_any (a b : Int) (w : World) (h : a ≤ b) (ha : -9223372036854775808 ≤ a) (hb : b ≤ 9223372036854775807) :
    Calls Try.prog 46 #[.int .i64 a, .int .i64 b] w fun e w' => e = .returned (.int .u64 (b - a)) ∧ w' = w := by
  have e1 : IntKind.u64.wrap (IntKind.u64.wrap b - IntKind.u64.wrap a) = b - a := by
    have hw : ∀ n : Int, IntKind.u64.wrap n = n % 18446744073709551616 := fun n => rfl
    rw [hw, hw, hw]
    omega
  go_enter Try.func46, Try.ntmps46
  go_wp2_with fail
  go_ret
  exact ⟨rfl, rfl⟩

set_option maxHeartbeats 2000000 in
set_option maxRecDepth 100000 in
theorem later_any (bl bt : Nat) (a : Option Addr) (len cap : Nat) (l : List Sam) (t : Int) (i : Nat) (w : World) (hl : w.cell? ⟨bl, 0, none⟩ = some (.slice a len cap)) (ht : w.cell? ⟨bt, 0, none⟩ = some (.int .i64 t)) (h : Sm w a len l) (hi : i < len) :
    Calls Try.prog 47 #[.int .i64 (i : Int), .pointer (some ⟨bl, 0, none⟩), .pointer (some ⟨bt, 0, none⟩)] w fun e w' => e = .returned (.bool (decide (t < (samD l i).t))) ∧ Below w.heap.size w w' := by
  obtain ⟨b, off, rfl, hbs, hcl⟩ := h.pos (by omega)
  obtain ⟨c0, _⟩ := hcl i hi
  obtain ⟨x, hx⟩ : ∃ x, x = (samD l i).t := ⟨_, rfl⟩
  rw [← hx] at c0 ⊢
  have hi0 : ¬ (i : Int) < 0 := by omega
  have hi1 : (i : Int) < (len : Int) := by omega
  clear hcl hx
  go_enter Try.func47, Try.ntmps47
  go_wp2_with fail
  go_region
  go_wp2_with fail
  go_ret
  exact ⟨rfl, (Below.refl _ _).drew⟩

def RiseS (l : List Sam) : Prop := ∀ i j, i < j → j < l.length → (samD l i).t < (samD l j).t

theorem riseS_of {l : List Sam} (h : riseB l = true) : RiseS l := by
  have h1 : ∀ k, k + 1 < l.length → (samD l k).t < (samD l (k + 1)).t := fun k hk => by
    rcases Int.lt_or_le (samD l k).t (samD l (k + 1)).t with h2 | h2
    · exact h2
    · rw [riseB_no k hk h2] at h; cases h
  intro i j hij hj
  induction j with
  | zero => omega
  | succ j ih =>
    rcases Nat.lt_or_ge i j with h2 | h2
    · exact Int.lt_trans (ih h2 (by omega)) (h1 j hj)
    · obtain rfl : i = j := by omega
      exact h1 i hj

set_option maxHeartbeats 4000000 in
set_option maxRecDepth 100000 in
theorem search_any (bl bt : Nat) (a : Option Addr) (len cap : Nat) (l : List Sam) (t : Int) (w : World) (hl : w.cell? ⟨bl, 0, none⟩ = some (.slice a len cap)) (ht : w.cell? ⟨bt, 0, none⟩ = some (.int .i64 t)) (h : Sm w a len l) (hm : len ≤ 1000000) (hr : RiseS l) :
    Calls Try.prog 43 #[.int .i64 (len : Int), .func (.func 47) #[] #[.pointer (some ⟨bl, 0, none⟩), .pointer (some ⟨bt, 0, none⟩)]] w fun e w' => ∃ n : Nat, e = .returned (.int .i64 (n : Int)) ∧ AtN l t n ∧ Below w.heap.size w w' := by
  have H := hidn h
  have HL := hidn h.1
  have HR := hidn hr
  have HCL := hidn hl
  have HCT := hidn ht
  have hbl := block_lt_of_cell hl
  have hbt := block_lt_of_cell ht
  clear h hr hl ht
  go_enter Try.func43, Try.ntmps43
  go_wp2_with fail
  go_loopw [5, 6] (fun iv jv wr => ∃ i j : Nat, i ≤ j ∧ j ≤ len ∧ iv = .int .i64 (i : Int) ∧ jv = .int .i64 (j : Int) ∧ Hid (Below w.heap.size w wr) ∧ Hid (∀ k, k < i → (samD l k).t ≤ t) ∧ Hid (∀ k, j ≤ k → k < len → t < (samD l k).t)) (fun iv jv _ => (intOf jv).toNat - (intOf iv).toNat)
  case atStart => exact ⟨0, len, by omega, Nat.le_refl _, by first | rfl | simp, rfl, hidn (Below.refl _ _), hidn (fun k hk => by omega), hidn (fun k h1 h2 => by omega)⟩
  case round =>
    obtain ⟨i, j, hij, hj, rfl, rfl, HB, HI, HJ⟩ := hrel
    by_cases hlt : i < j
    · have hlt2 : (i : Int) < (j : Int) := by omega
      obtain ⟨m, hmm⟩ : ∃ m, m = (i + j) / 2 := ⟨_, rfl⟩
      have hm1 : i ≤ m ∧ m < j := by omega
      have HMM := hidn hmm
      have HM1 := hidn hm1
      have hb1 : (i : Int) ≤ 1000000 := by omega
      have hb2 : (j : Int) ≤ 1000000 := by omega
      have HC := hidn (later_any bl bt a len cap l t m wr ((HB.out.cell (p := ⟨bl, 0, none⟩) hbl).trans HCL.out) ((HB.out.cell (p := ⟨bt, 0, none⟩) hbt).trans HCT.out) (H.out.below HB.out) (by omega))
      clear hmm hm1 hij
      go_wp2_with fail
      rw [show ((i : Int) + (j : Int)) / 2 = (m : Int) from by have := HMM.out; omega]
      refine HC.out.mono ?_
      rintro e w2 ⟨rfl, b2⟩
      have HB2 := hidn (HB.out.trans (b2.mono HB.out.size))
      clear b2 HC
      by_cases hle : t < (samD l m).t
      · have HJ2 : Hid (∀ k, m ≤ k → k < len → t < (samD l k).t) := hidn (fun k h1 h2 => by
          rcases Nat.lt_or_ge m k with h3 | h3
          · exact Int.lt_trans hle (HR.out m k h3 (by rw [HL.out]; exact h2))
          · obtain rfl : m = k := by omega
            exact hle)
        rw [decide_eq_true hle]
        clear hle
        go_wp2_with fail
        go_roundw
        case rel => exact ⟨i, m, HM1.out.1, by have := HM1.out; omega, rfl, by first | rfl | simp, HB2, HI, HJ2⟩
        case measure => have := HM1.out; simp [intOf]; omega
      · have HI2 : Hid (∀ k, k < m + 1 → (samD l k).t ≤ t) := hidn (fun k h1 => by
          rcases Nat.lt_or_ge k m with h3 | h3
          · exact Int.le_trans (Int.le_of_lt (HR.out k m h3 (by have := HM1.out; rw [HL.out]; omega))) (Int.not_lt.1 hle)
          · obtain rfl : k = m := by omega
            exact Int.not_lt.1 hle)
        have hb3 : (m : Int) ≤ 1000000 := by have := HM1.out; omega
        rw [decide_eq_false hle]
        clear hle
        go_wp2_with fail
        go_roundw
        case rel => exact ⟨m + 1, j, by have := HM1.out; omega, hj, by first | rfl | simp, rfl, HB2, HI2, HJ⟩
        case measure => have := HM1.out; simp [intOf]; omega
    · obtain rfl : i = j := by omega
      have hlt2 : ¬ (i : Int) < (i : Int) := by omega
      go_wp2_with fail
      go_ret
      exact ⟨i, rfl, ⟨by rw [HL.out]; exact hj, HI.out, fun k h1 h2 => HJ.out k h1 (by rw [HL.out] at h2; exact h2)⟩, HB.out⟩
end Go.Proofs.Ythmknpdhgfmogab
