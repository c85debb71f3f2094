/- The walks of the document's take and Take. -/
import Derived.Test.YtdpoiodaonhjiabDoorRefPack
import Derived.Test.YtdpoiodaonhjiabDoorBitsTake
namespace Go.Proofs.YtdpoiodaonhjiabDoor
open Go.RowKit
set_option linter.unusedVariables false

theorem can_small' {zs : List Nat} {x : Int} {len : Nat} (h : canB zs x = true) (hl : zs.length = len) : 0 ≤ x ∧ x.toNat ≤ 8 * len := by
  have := (canB_iff zs x).1 h
  refine ⟨this.1, ?_⟩
  have := this.2.1
  unfold nb at this
  omega
theorem own_shape' {w : World} {base e n : Nat} {v : Value} {xs : List Value} (h : w.ownsRow base e 1 v n xs) : ∃ a cap, v = .slice a n cap := by
  rcases h.2 with ⟨rfl, rfl⟩ | ⟨g, cap, cur, rfl, _⟩
  · exact ⟨_, _, rfl⟩
  · exact ⟨_, _, rfl⟩

set_option maxHeartbeats 1000000 in
theorem rtake_none (at_ count : Nat) (w : World) (ha : at_ = 0) (hc : count = 0) :
    Calls Tryd.prog 23 #[.slice none 0 0, .int .i64 at_, .int .i64 count] w fun e w' => e = .returned (.int .u64 0) ∧ w' = w := by
  subst ha; subst hc
  go_enter Tryd.func23, Tryd.ntmps23
  go_wp2
  refine wp_loop_rounds 1 ?_; rw [rounds_succ]
  go_wp2
  go_ret
  exact ⟨rfl, rfl⟩

set_option maxHeartbeats 1000000 in
theorem rtake_zero (g m cap at_ : Nat) (w : World) (hmc : m ≤ cap) (hm : cap ≤ 9223372036854775807) (hfit : at_ ≤ m) :
    Calls Tryd.prog 23 #[.slice (some ⟨g, 0, none⟩) m cap, .int .i64 at_, .int .i64 0] w fun e w' => e = .returned (.int .u64 0) ∧ w' = w := by
  go_enter Tryd.func23, Tryd.ntmps23
  go_wp2
  all_goals
    refine wp_loop_rounds 1 ?_
    rw [rounds_succ]
    go_wp2
    go_ret
    exact ⟨rfl, rfl⟩

theorem drop_take_succ (l : List Bool) (at_ k : Nat) (h : at_ + k < l.length) : (l.drop at_).take (k + 1) = (l.drop at_).take k ++ [l.getD (at_ + k) false] := by
  rw [List.take_succ_eq_append_getElem (by simp; omega)]
  simp [h]
set_option maxHeartbeats 1000000 in
theorem rtake_some (g m cap at_ count : Nat) (l : List Bool) (w : World) (hl : l.length = m) (hmc : m ≤ cap) (hm : cap ≤ 9223372036854775807) (hc : count ≤ 64) (h0 : 0 < count) (hfit : at_ + count ≤ m)
    (hcell : ∀ j, j < m → w.cell? ⟨g, j, none⟩ = some (.bool (l.getD j false))) :
    Calls Tryd.prog 23 #[.slice (some ⟨g, 0, none⟩) m cap, .int .i64 at_, .int .i64 count] w fun e w' => e = .returned (.int .u64 (numOf ((l.drop at_).take count) : Nat)) ∧ w' = w := by
  have hne : ¬ cap = at_ := by omega
  have HL : Hid _ := hl
  clear hl
  go_enter Tryd.func23, Tryd.ntmps23
  go_wp2
  go_loop [7, 17] (fun nv iv => ∃ k : Nat, k ≤ count ∧ iv = .int .i64 k ∧ nv = .int .u64 (numOf ((l.drop at_).take k) : Nat)) (fun _ iv => count - (intOf iv).toNat)
  case atStart => exact ⟨0, by omega, rfl, rfl⟩
  case round =>
    obtain ⟨k, hk, rfl, rfl⟩ := hrel
    by_cases hlt : k < count
    · have hck := hcell (at_ + k) (by omega)
      have hN : numOf ((l.drop at_).take k) < 9223372036854775808 := by
        have h1 := numOf_lt ((l.drop at_).take k)
        have h2 := Nat.pow_le_pow_right (n := 2) (by omega) (show ((l.drop at_).take k).length ≤ 63 by simp; omega)
        exact Nat.lt_of_lt_of_le h1 h2
      have HS : Hid (numOf ((l.drop at_).take (k + 1)) = numOf ((l.drop at_).take k) * 2 + (l.getD (at_ + k) false).toNat) := by
        show _ = _
        rw [drop_take_succ l at_ k (by rw [HL.out]; omega), numOf_snoc]
      generalize l.getD (at_ + k) false = b at *
      generalize numOf ((l.drop at_).take k) = N at *
      cases b with
      | true =>
        go_wp2
        go_round
        case rel => exact ⟨k + 1, by omega, by go_num, congrArg (Value.int .u64) (by rw [HS.out]; simp)⟩
        case measure => simp [intOf]; omega
      | false =>
        go_wp2
        go_round
        case rel => exact ⟨k + 1, by omega, by go_num, congrArg (Value.int .u64) (by rw [HS.out]; simp)⟩
        case measure => simp [intOf]; omega
    · obtain rfl : k = count := by omega
      go_wp2
      go_ret
      exact ⟨rfl, rfl⟩

theorem rtake_any (v : Value) (m base at_ count : Nat) (l : List Bool) (w : World) (hown : w.ownsRow base 4 1 v m (vt l)) (hc : count ≤ 64) (hfit : at_ + count ≤ m) :
    Calls Tryd.prog 23 #[v, .int .i64 at_, .int .i64 count] w fun e w' => e = .returned (.int .u64 (numOf ((l.drop at_).take count) : Nat)) ∧ w' = w := by
  have hl : l.length = m := by have := hown.1; rw [vt_len] at this; omega
  have h' := hown
  rcases hown.2 with ⟨rfl, rfl⟩ | ⟨g, cap, cur, rfl, hg, hh, hnc, hcm, _⟩
  · obtain rfl : count = 0 := by omega
    exact rtake_none at_ 0 w (by omega) rfl
  · by_cases h0 : count = 0
    · subst h0
      exact rtake_zero g m cap at_ w hnc hcm (by omega)
    · refine rtake_some g m cap at_ count l w hl hnc hcm hc (by omega) hfit (fun j hj => ?_)
      rw [h'.cellAt j (by omega), vt_getD l j (by omega)]
theorem bitsL_win (zs : List Nat) (n at_ count : Nat) (h : at_ + count ≤ n) : ((bitsL zs n).drop at_).take count = win zs at_ count := by
  refine List.ext_getElem (by simp [bitsL_length, win_length]; omega) fun i h1 h2 => ?_
  simp [bitsL, win]

set_option maxHeartbeats 2000000 in
theorem refTake_all (a : Option Addr) (len cap : Nat) (x at_ count : Int) (zs : List Nat) (w : World) (hB : Bs w a len zs) (hx : x ≤ 9223372036854775807) (hm : len ≤ 137438953472) :
    Calls Tryd.prog 10 #[.agg #[.slice a len cap, .int .i64 x], .int .i64 at_, .int .i64 count] w fun e w' =>
      e = .returned (.tuple #[.int .u64 (tV zs x at_ count : Nat), .int .i64 (tE zs x at_ count)]) ∧ Below w.heap.size w w' := by
  have h0 : Below w.heap.size w (w.alloc (.cells #[.slice a len cap, .int .i64 x] 24)) := (Below.refl w.heap.size w).alloc (Nat.le_refl _) _
  have hB2 := hB.below h0
  have hsm := fun h => can_small' (zs := zs) (x := x) (len := len) h hB.1
  go_enter Tryd.func10, Tryd.ntmps10
  go_wp2_with fail
  refine (list_any a len cap x zs _ hB2 hm hx).mono ?_
  rintro e w1 ⟨v, rfl, hown, hnil, hb1⟩
  have hbw := h0.trans (hb1.mono (by simp))
  cases hcan : canB zs x with
  | false =>
    have e1 : tE zs x at_ count = 1 := by unfold tE; rw [if_pos (fun h => by rw [hcan] at h; cases h.1)]
    have e2 : tV zs x at_ count = 0 := by unfold tV; rw [e1]; rfl
    have HE : Hid _ := e1
    have HV : Hid _ := e2
    have hv := hnil hcan
    subst hv
    clear hown hnil e1 e2 hsm hcan
    go_wp2
    go_ret2
    rw [HE.out, HV.out]
    exact ⟨rfl, hbw⟩
  | true =>
    replace hown := hown hcan
    have hx2 := hsm hcan
    obtain ⟨n, rfl⟩ := Int.eq_ofNat_of_zero_le hx2.1
    rw [Int.toNat_natCast] at hown hx2
    obtain ⟨av, cv, hv⟩ := own_shape' hown
    subst hv
    have HC : Hid _ := hcan
    have hown' : Hid _ := hown
    clear hnil hsm hcan hown
    by_cases c1 : count < 0
    · have b1 : decide (count < 0) = true := decide_eq_true c1
      have e1 : Hid (tE zs n at_ count = 1) := by show _ = _; unfold tE; rw [if_pos (fun h => by omega)]
      go_wp2
      go_ret2
      rw [e1.out, show tV zs n at_ count = 0 from by unfold tV; rw [e1.out]; rfl]
      exact ⟨rfl, hbw⟩
    · have b1 : decide (count < 0) = false := decide_eq_false c1
      by_cases c2 : 64 < count
      · have b2 : decide (64 < count) = true := decide_eq_true c2
        have e1 : Hid (tE zs n at_ count = 1) := by show _ = _; unfold tE; rw [if_pos (fun h => by omega)]
        go_wp2
        go_ret2
        rw [e1.out, show tV zs n at_ count = 0 from by unfold tV; rw [e1.out]; rfl]
        exact ⟨rfl, hbw⟩
      · have b2 : decide (64 < count) = false := decide_eq_false c2
        by_cases c3 : at_ < 0
        · have b3 : decide (at_ < 0) = true := decide_eq_true c3
          have e1 : Hid (tE zs n at_ count = 1) := by show _ = _; unfold tE; rw [if_pos (fun h => by omega)]
          go_wp2
          go_ret2
          rw [e1.out, show tV zs n at_ count = 0 from by unfold tV; rw [e1.out]; rfl]
          exact ⟨rfl, hbw⟩
        · have b3 : decide (at_ < 0) = false := decide_eq_false c3
          by_cases c4 : (n : Int) < at_
          · have b4 : decide ((n : Int) < at_) = true := decide_eq_true c4
            have e1 : Hid (tE zs n at_ count = 1) := by show _ = _; unfold tE; rw [if_pos (fun h => by omega)]
            go_wp2
            go_ret2
            rw [e1.out, show tV zs n at_ count = 0 from by unfold tV; rw [e1.out]; rfl]
            exact ⟨rfl, hbw⟩
          · have b4 : decide ((n : Int) < at_) = false := decide_eq_false c4
            have hgood : Hid (canB zs n = true ∧ (0 ≤ count ∧ count ≤ 64) ∧ (0 ≤ at_ ∧ at_ ≤ (n : Int))) := ⟨HC.out, ⟨by omega, by omega⟩, by omega, by omega⟩
            by_cases c5 : (n : Int) - at_ < count
            · have e1 : Hid (tE zs n at_ count = 3) := by show _ = _; unfold tE; rw [if_neg (fun h => h hgood.out), if_pos c5]
              go_wp2
              go_ret2
              rw [e1.out, show tV zs n at_ count = 0 from by unfold tV; rw [e1.out]; rfl]
              exact ⟨rfl, hbw⟩
            · have e1 : Hid (tE zs n at_ count = 0) := by show _ = _; unfold tE; rw [if_neg (fun h => h hgood.out), if_neg c5]
              obtain ⟨p, rfl⟩ := Int.eq_ofNat_of_zero_le (show 0 ≤ at_ by omega)
              obtain ⟨c, rfl⟩ := Int.eq_ofNat_of_zero_le (show 0 ≤ count by omega)
              have e2 : Hid (tV zs n p c = numOf (win zs p c)) := by show _ = _; unfold tV; rw [e1.out]; rfl
              go_wp2_with fail
              refine (rtake_any _ n _ p c _ _ hown'.out (by omega) (by omega)).mono ?_
              rintro e w2 ⟨rfl, rfl⟩
              rw [bitsL_win zs n p c (by omega)]
              go_wp2
              go_ret2
              rw [e1.out, e2.out]
              exact ⟨rfl, hbw⟩
end Go.Proofs.YtdpoiodaonhjiabDoor
