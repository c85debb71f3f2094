/- The walks of the document's list, whatever bits, and add: bits behind a list. -/
import Derived.Test.YtdpoiodaonhjiabDoorRefList
namespace Go.Proofs.YtdpoiodaonhjiabDoor
open Go.RowKit
set_option linter.unusedVariables false

theorem list_any (a : Option Addr) (len cap : Nat) (x : Int) (zs : List Nat) (w : World) (hB : Bs w a len zs) (hm : len ≤ 137438953472) (hx : x ≤ 9223372036854775807) :
    Calls Tryd.prog 22 #[.agg #[.slice a len cap, .int .i64 x]] w fun e w' =>
      ∃ v, e = .returned (.tuple #[v, .bool (canB zs x)]) ∧ (canB zs x = true → w'.ownsRow w.heap.size 4 1 v x.toNat (vt (bitsL zs x.toNat))) ∧ (canB zs x = false → v = .slice none 0 0) ∧ Below w.heap.size w w' := by
  by_cases h : x < 0 ∨ (0 ≤ x ∧ len ≠ nb x.toNat)
  · have e : canB zs x = false := by
      rw [Bool.eq_false_iff]; intro hc
      have := (canB_iff zs x).1 hc
      have hl := hB.1
      unfold canP at this
      omega
    rw [e]
    refine (list_bad a len cap x w (by omega) hx h).mono ?_
    rintro e w' ⟨rfl, hb⟩
    exact ⟨_, rfl, (fun h => by cases h), fun _ => rfl, hb⟩
  · obtain ⟨n, rfl⟩ := Int.eq_ofNat_of_zero_le (show 0 ≤ x by omega)
    have hl : len = nb n := by
      have h2 := not_or.1 h
      have h3 := h2.2
      rw [Int.toNat_natCast] at h3
      have h4 : ¬ len ≠ nb n := fun hh => h3 ⟨by omega, hh⟩
      omega
    rw [Int.toNat_natCast]
    exact list_loop a len cap n zs w hB (by omega) (by unfold nb at hl; omega) hl

theorem low_walk (n i : Nat) (hn : n < 18446744073709551616) : (bits .and .u64 ((n : Int) / 2 ^ i) 1 == 1) = n.testBit i := by
  have h1 : n / 2 ^ i < 18446744073709551616 := Nat.lt_of_le_of_lt (Nat.div_le_self _ _) hn
  have e : ((n : Int) / 2 ^ i) = ((n / 2 ^ i : Nat) : Int) := by push_cast; rfl
  rw [e, and1_u64 _ h1, Nat.testBit_eq_decide_div_mod_eq]
  have h2 : n / 2 ^ i % 2 = 0 ∨ n / 2 ^ i % 2 = 1 := by omega
  rcases h2 with h2 | h2 <;> rw [h2] <;> rfl
theorem lowBits_take_succ (n count t : Nat) (ht : t < count) : (lowBits n count).take (t + 1) = (lowBits n count).take t ++ [n.testBit (count - 1 - t)] := by
  rw [List.take_succ_eq_append_getElem (by rw [lowBits_length]; exact ht)]
  simp [lowBits]
theorem vt_app (l : List Bool) (b : Bool) : vt l ++ [Value.bool b] = vt (l ++ [b]) := by simp [vt]

set_option maxHeartbeats 2000000 in
theorem add_any (v : Value) (m n count base : Nat) (l : List Bool) (w : World) (hown : w.ownsRow base 4 1 v m (vt l)) (hm : m ≤ 1099511627776) (hn : n < 18446744073709551616) (hc : count ≤ 64) (hbase : base ≤ w.heap.size) :
    Calls Tryd.prog 29 #[v, .int .u64 n, .int .i64 count] w fun e w' =>
      ∃ v', e = .returned v' ∧ w'.ownsRow base 4 1 v' (m + count) (vt (l ++ lowBits n count)) ∧ Below base w w' := by
  obtain ⟨i0, hi, hz0, hz1, hz2⟩ := info_parts Tryd.info4
  go_enter Tryd.func29, Tryd.ntmps29
  go_wp2
  go_loopw [0, 7] (fun ov iv wr => ∃ t : Nat, t ≤ count ∧ iv = .int .i64 ((count : Int) - 1 - t) ∧ wr.ownsRow base 4 1 ov (m + t) (vt (l ++ (lowBits n count).take t)) ∧ Below base w wr) (fun _ iv _ => (intOf iv + 1).toNat)
  case atStart => exact ⟨0, Nat.zero_le _, congrArg (Value.int .i64) (by omega), by simpa using hown, Below.refl _ _⟩
  case round =>
    obtain ⟨t, ht, rfl, hown', hbel⟩ := hrel
    have hsz := hbel.size
    clear hown
    by_cases hlt : t < count
    · obtain ⟨i, hi1⟩ : ∃ i : Nat, i = count - 1 - t := ⟨_, rfl⟩
      have hie : ((count : Int) - 1 - t) = (i : Int) := by omega
      rw [hie]
      have hi64 : i < 64 := by omega
      have hlow := low_walk n i hn
      have HT : Hid _ := lowBits_take_succ n count t hlt
      have HI : Hid _ := hi1
      clear hi1 hie
      go_wp2_with (at_builtin; refine wpList_append_own _ rfl _ _ 44 rfl base 4 i0 (.bool false) 1 1 Tryd.underlying44 hi hz0 hz1 hz2 rfl (by decide) _ (m + t) _ rfl (hown'.alloc _) ⟨wr.heap.size, 0, none⟩ 1 1 [.bool (n.testBit i)] rfl rfl ?c1 ?c2 ?c3 ?c4 ?c5 ?_)
      case c1 =>
        intro j u hj
        match j, hj with
        | 0, hj => simp at hj; subst hj; simp [Addr.add]
      case c2 => intro u hu; simp at hu; subst hu; rfl
      case c3 => unfold maxLen; omega
      case c4 => omega
      case c5 => simp; omega
      intro v' w1 hown1 hgrow1 _
      rw [vt_app] at hown1
      have hb1 : Below base w w1 := (hbel.alloc (by omega) _).grown hgrow1 (by simp; omega) (by
        intro g hg
        rcases hown'.2 with ⟨rfl, _⟩ | ⟨g', cap', cur, rfl, hg', _⟩
        · simp [Value.ownBlock] at hg
        · simp [Value.ownBlock] at hg; omega)
      clear hown' hgrow1 hlow
      go_wp2
      go_roundw
      case rel => exact ⟨t + 1, by omega, congrArg (Value.int .i64) (by have := HI.out; omega), by rw [HT.out, ← HI.out, ← List.append_assoc, ← Nat.add_assoc]; exact hown1, hb1⟩
      case measure => simp [intOf]
    · obtain rfl : t = count := by omega
      go_wp2
      go_ret
      rw [List.take_of_length_le (by rw [lowBits_length]; omega)] at hown'
      exact ⟨_, rfl, hown', hbel⟩
end Go.Proofs.YtdpoiodaonhjiabDoor
