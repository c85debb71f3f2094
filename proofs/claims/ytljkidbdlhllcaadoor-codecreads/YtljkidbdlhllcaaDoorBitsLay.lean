/- The walk of bits.lay: it sets the bits of a number in a row of the call's own. -/
import Derived.Test.YtljkidbdlhllcaaDoorBitsCan
namespace Go.Proofs.YtljkidbdlhllcaaDoor
open Go.RowKit
set_option linter.unusedVariables false

theorem and1_u64 (q : Nat) (h : q < 18446744073709551616) : bits .and .u64 (q : Int) 1 = ((q % 2 : Nat) : Int) := by
  have := bits_and_u .u64 rfl q 1 h (by decide)
  rw [show ((1 : Nat) : Int) = 1 from rfl] at this
  rw [this, show (1 : Nat) = 2 ^ 1 - 1 from rfl, Nat.and_two_pow_sub_one_eq_mod]

def layBits (ys : List Nat) (at_ count t n : Nat) (ys' : List Nat) : Prop :=
  ∀ j, bitAt ys' j = (bitAt ys j || (decide (at_ + count - t ≤ j ∧ j < at_ + count) && n.testBit (at_ + count - 1 - j)))
theorem lay_bits {ys ys' : List Nat} {at_ count t n i : Nat} (h : layBits ys at_ count t n ys') (hi : i + 1 + t = at_ + count) (hil : i < 8 * ys'.length) :
    layBits ys at_ count (t + 1) n (setBit ys' i (n.testBit t)) := by
  intro j
  rw [bitAt_setBit ys' i _ hil j, h j]
  by_cases hj : j = i
  · subst hj
    have e1 : at_ + count - 1 - j = t := by omega
    have e2 : ¬ (at_ + count - t ≤ j ∧ j < at_ + count) := by omega
    have e3 : (at_ + count - (t + 1) ≤ j ∧ j < at_ + count) := by omega
    rw [decide_eq_false e2, decide_eq_true e3, e1]
    simp
  · have e : (at_ + count - (t + 1) ≤ j ∧ j < at_ + count) ↔ (at_ + count - t ≤ j ∧ j < at_ + count) := by omega
    have e' : decide (at_ + count - (t + 1) ≤ j ∧ j < at_ + count) = decide (at_ + count - t ≤ j ∧ j < at_ + count) := decide_eq_decide.2 e
    rw [e', decide_eq_false hj]
    simp
theorem own_drew {w : World} {base e n : Nat} {v : Value} {xs : List Value} (h : w.ownsRow base e 1 v n xs) : w.drew.ownsRow base e 1 v n xs := h
theorem grown_drew {a w : World} {row : Option Nat} (h : a.grownBy w row) : a.grownBy w.drew row := ⟨h.os, h.tape, h.output, h.size, h.block⟩
theorem grown_trans {a b c : World} {row : Option Nat} (h : a.grownBy b row) (k : b.grownBy c row) : a.grownBy c row :=
  ⟨k.os.trans h.os, k.tape.trans h.tape, k.output.trans h.output, Nat.le_trans h.size k.size, fun j hj hr => (k.block j (Nat.lt_of_lt_of_le hj h.size) hr).trans (h.block j hj hr)⟩
theorem lay_round {w wr : World} {base g len cap : Nat} {ys ys' : List Nat} {at_ count t n i x : Nat} (hown : wr.ownsRow base 5 1 (.slice (some ⟨g, 0, none⟩) len cap) len (vb ys')) (hy : isB ys') (hl : ys'.length = len)
    (hb : layBits ys at_ count t n ys') (hi : i + 1 + t = at_ + count) (hil : i / 8 < len) (hx : ys'.getD (i / 8) 0 = x) (hgr : w.grownBy wr (some g)) (V : Int) (hV : V = ((x ||| (if n.testBit t then 2 ^ (7 - i % 8) else 0) : Nat) : Int)) :
    (wr.setCell ⟨g, i / 8, none⟩ (.int .u8 V)).drew.ownsRow base 5 1 (.slice (some ⟨g, 0, none⟩) len cap) len (vb (setBit ys' i (n.testBit t))) ∧ isB (setBit ys' i (n.testBit t)) ∧ (setBit ys' i (n.testBit t)).length = len ∧
      layBits ys at_ count (t + 1) n (setBit ys' i (n.testBit t)) ∧ w.grownBy (wr.setCell ⟨g, i / 8, none⟩ (.int .u8 V)).drew (some g) := by
  subst hV
  have hst := hown.stored (i / 8) (.int .u8 ((x ||| (if n.testBit t then 2 ^ (7 - i % 8) else 0) : Nat) : Int))
  rw [vb_set] at hst
  subst hx
  exact ⟨own_drew hst.1, setBit_isB hy i _, by rw [setBit_length]; exact hl, lay_bits hb hi (by omega), grown_drew (grown_trans hgr hst.2)⟩
theorem or_zero_u8 (x : Nat) (hx : x < 256) : bits .or .u8 (x : Int) 0 = ((x ||| 0 : Nat) : Int) := bits_or_u .u8 rfl x 0 hx (by decide)
theorem or_pow_u8 (x i : Nat) (hx : x < 256) : bits .or .u8 (x : Int) (2 ^ (7 - i % 8) % 256) = ((x ||| 2 ^ (7 - i % 8) : Nat) : Int) := by
  have h1 := pow_le_128 i
  have e : ((2 : Int) ^ (7 - i % 8) % 256) = ((2 ^ (7 - i % 8) : Nat) : Int) := by
    rw [show ((2 : Int) ^ (7 - i % 8)) = ((2 ^ (7 - i % 8) : Nat) : Int) from by push_cast; rfl]
    generalize 2 ^ (7 - i % 8) = p at h1 ⊢
    omega
  rw [e]
  exact bits_or_u .u8 rfl x _ hx (by show _ < 256; omega)
theorem testBit_q {n t q : Nat} (h : n / 2 ^ t = q) : n.testBit t = decide (q % 2 = 1) := by
  rw [Nat.testBit_eq_decide_div_mod_eq, h]

set_option maxHeartbeats 1000000 in
theorem lay_any (base g len cap at_ count : Nat) (n : Nat) (ys : List Nat) (w : World) (hn : n < 18446744073709551616) (hc : count ≤ 64) (hlen : len ≤ 1152921504606846975) (hl : ys.length = len) (hy : isB ys)
    (hfit : at_ + count ≤ 8 * len) (hg : base ≤ g) (hown : w.ownsRow base 5 1 (.slice (some ⟨g, 0, none⟩) len cap) len (vb ys)) :
    Calls Tryd.prog 49 #[.slice (some ⟨g, 0, none⟩) len cap, .int .i64 at_, .int .u64 n, .int .i64 count] w fun e w' => e = .returned (.tuple #[]) ∧
      ∃ ys', w'.ownsRow base 5 1 (.slice (some ⟨g, 0, none⟩) len cap) len (vb ys') ∧ isB ys' ∧ ys'.length = len ∧
        (∀ j, bitAt ys' j = (bitAt ys j || (decide (at_ ≤ j ∧ j < at_ + count) && n.testBit (at_ + count - 1 - j)))) ∧ w.grownBy w' (some g) := by
  go_enter Tryd.func49, Tryd.ntmps49
  go_wp2
  go_loopw [2, 8] (fun nv iv wr => ∃ (t : Nat) (ys' : List Nat), t ≤ count ∧ nv = .int .u64 (n / 2 ^ t : Nat) ∧ iv = .int .i64 ((at_ + count : Nat) - 1 - t : Int) ∧
      wr.ownsRow base 5 1 (.slice (some ⟨g, 0, none⟩) len cap) len (vb ys') ∧ isB ys' ∧ ys'.length = len ∧
      layBits ys at_ count t n ys' ∧ w.grownBy wr (some g))
    (fun _ iv _ => (intOf iv + 1 - at_).toNat)
  case atStart =>
    refine ⟨0, ys, Nat.zero_le _, by simp, congrArg (Value.int .i64) (by omega), hown, hy, hl, ?_, World.grownBy.refl _ _⟩
    intro j
    rw [decide_eq_false (show ¬ (at_ + count - 0 ≤ j ∧ j < at_ + count) by omega)]
    simp
  case round =>
    obtain ⟨t, ys', ht, rfl, rfl, hown', hy', hl', hbits, hgr⟩ := hrel
    by_cases hlt : t < count
    · obtain ⟨i, hi⟩ : ∃ i : Nat, i + 1 + t = at_ + count := ⟨at_ + count - 1 - t, by omega⟩
      have hie : ((at_ + count : Nat) - 1 - t : Int) = (i : Int) := by omega
      rw [hie]
      have HI : Hid _ := hi
      have hq : n / 2 ^ t < 18446744073709551616 := Nat.lt_of_le_of_lt (Nat.div_le_self _ _) hn
      have ha := and1_u64 _ hq
      have hlo : at_ ≤ i := by omega
      have hi8 : i / 8 < len := by omega
      have hcell := hown'.cellAt (i / 8) (by omega)
      rw [vb_getD ys' (i / 8) (by omega)] at hcell
      have hfz := hown'.frozenAt (i / 8)
      have hyl := getD_lt hy' (i / 8)
      clear hi
      generalize hqq : n / 2 ^ t = q at *
      have HQ : Hid _ := hqq
      clear hqq
      generalize hxx : ys'.getD (i / 8) 0 = x at *
      have HX : Hid _ := hxx
      clear hxx
      have h2 : q % 2 = 0 ∨ q % 2 = 1 := by omega
      rcases h2 with h2 | h2
      · rw [h2] at ha
        have H2 : Hid _ := h2
        clear h2
        go_wp2
        go_region
        go_wp2
        go_roundw
        case rel =>
          have hb := testBit_q HQ.out
          rw [H2.out] at hb
          have R := lay_round hown' hy' hl' hbits HI.out hi8 HX.out hgr _ (show bits .or .u8 (x : Int) 0 = _ by rw [or_zero_u8 x hyl, hb]; simp)
          exact ⟨t + 1, _, by omega, congrArg (Value.int .u64) (by rw [Nat.pow_succ, ← Nat.div_div_eq_div_mul, HQ.out]; simp), congrArg (Value.int .i64) (by have := HI.out; omega), R.1, R.2.1, R.2.2.1, R.2.2.2.1, R.2.2.2.2⟩
        case measure => simp [intOf]; omega
      · rw [h2] at ha
        have H2 : Hid _ := h2
        clear h2
        go_wp2
        go_region
        go_wp2
        go_roundw
        case rel =>
          have hb := testBit_q HQ.out
          rw [H2.out] at hb
          have R := lay_round hown' hy' hl' hbits HI.out hi8 HX.out hgr _ (show bits .or .u8 (x : Int) (2 ^ (7 - i % 8) % 256) = _ by rw [or_pow_u8 x i hyl, hb]; simp)
          exact ⟨t + 1, _, by omega, congrArg (Value.int .u64) (by rw [Nat.pow_succ, ← Nat.div_div_eq_div_mul, HQ.out]; simp), congrArg (Value.int .i64) (by have := HI.out; omega), R.1, R.2.1, R.2.2.1, R.2.2.2.1, R.2.2.2.2⟩
        case measure => simp [intOf]; omega
    · go_wp2
      go_end0
      obtain rfl : t = count := by omega
      refine ⟨rfl, ys', hown', hy', hl', fun j => ?_, hgr⟩
      have := hbits j
      rwa [show at_ + t - t = at_ from by omega] at this
end Go.Proofs.YtljkidbdlhllcaaDoor
