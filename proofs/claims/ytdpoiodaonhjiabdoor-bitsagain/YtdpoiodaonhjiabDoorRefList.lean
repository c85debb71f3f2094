/- The walk of the document's list: bits as a list, or none. -/
import Derived.Test.YtdpoiodaonhjiabDoorBitsLonger
namespace Go.Proofs.YtdpoiodaonhjiabDoor
open Go.RowKit
set_option linter.unusedVariables false
theorem Tryd.info4 : (Tryd.prog.info? 4).map (fun i => (i.zero, i.size, i.bytes)) = some (some (.bool false), 1, 1) := by kernel_rfl

def vt (l : List Bool) : List Value := l.map Value.bool

set_option maxHeartbeats 1000000 in
theorem list_bad (a : Option Addr) (len cap : Nat) (x : Int) (w : World) (hm : len ≤ 9223372036854775807) (hx : x ≤ 9223372036854775807) (h : x < 0 ∨ (0 ≤ x ∧ len ≠ nb x.toNat)) :
    Calls Tryd.prog 22 #[.agg #[.slice a len cap, .int .i64 x]] w fun e w' =>
      e = .returned (.tuple #[.slice none 0 0, .bool false]) ∧ Below w.heap.size w w' := by
  rcases h with h | ⟨h0, h⟩
  · have b0 : decide (x < 0) = true := decide_eq_true h
    go_enter Tryd.func22, Tryd.ntmps22
    go_wp2
    go_ret2
    exact ⟨rfl, (Below.refl _ _).alloc (Nat.le_refl _) _⟩
  · obtain ⟨n, rfl⟩ := Int.eq_ofNat_of_zero_le h0
    rw [Int.toNat_natCast] at h
    have b0 : decide ((n : Int) < 0) = false := decide_eq_false (by omega)
    by_cases h1 : len < n / 8
    · have b1 : decide ((len : Int) < (n : Int) / 8) = true := decide_eq_true (by omega)
      go_enter Tryd.func22, Tryd.ntmps22
      go_wp2
      go_ret2
      exact ⟨rfl, (Below.refl _ _).alloc (Nat.le_refl _) _⟩
    · have b1 : decide ((len : Int) < (n : Int) / 8) = false := decide_eq_false (by omega)
      by_cases h2 : n % 8 = 0
      · have b2 : (((n : Int) % 8) != 0) = false := by rw [bne_eq_false_iff_eq]; omega
        have b2' : (((n : Int) % 8) == 0) = true := beq_iff_eq.2 (by omega)
        by_cases h3 : n / 8 + 1 < len
        · have b3 : decide ((n : Int) / 8 + 1 < (len : Int)) = true := decide_eq_true (by omega)
          go_enter Tryd.func22, Tryd.ntmps22
          go_wp2
          go_ret2
          exact ⟨rfl, (Below.refl _ _).alloc (Nat.le_refl _) _⟩
        · have b3 : decide ((n : Int) / 8 + 1 < (len : Int)) = false := decide_eq_false (by omega)
          have b4 : ((len : Int) != (n : Int) / 8) = true := by rw [bne_iff_ne]; unfold nb at h; omega
          go_enter Tryd.func22, Tryd.ntmps22
          go_wp2
          go_ret2
          exact ⟨rfl, (Below.refl _ _).alloc (Nat.le_refl _) _⟩
      · have b2 : (((n : Int) % 8) != 0) = true := by rw [bne_iff_ne]; omega
        have b2' : (((n : Int) % 8) == 0) = false := beq_eq_false_iff_ne.2 (by omega)
        by_cases h4 : len ≤ n / 8
        · have b3 : decide ((len : Int) ≤ (n : Int) / 8) = true := decide_eq_true (by omega)
          go_enter Tryd.func22, Tryd.ntmps22
          go_wp2
          go_ret2
          exact ⟨rfl, (Below.refl _ _).alloc (Nat.le_refl _) _⟩
        · have b3 : decide ((len : Int) ≤ (n : Int) / 8) = false := decide_eq_false (by omega)
          have b4 : decide ((n : Int) / 8 + 1 < (len : Int)) = true := decide_eq_true (by unfold nb at h; omega)
          go_enter Tryd.func22, Tryd.ntmps22
          go_wp2
          go_ret2
          exact ⟨rfl, (Below.refl _ _).alloc (Nat.le_refl _) _⟩

theorem bit_walk (y i : Nat) (hy : y < 256) : (bits .and .u8 (y : Int) (128 / 2 ^ (i % 8)) != 0) = y.testBit (7 - i % 8) := by
  have hk : i % 8 = 0 ∨ i % 8 = 1 ∨ i % 8 = 2 ∨ i % 8 = 3 ∨ i % 8 = 4 ∨ i % 8 = 5 ∨ i % 8 = 6 ∨ i % 8 = 7 := by omega
  have key : ∀ m : Nat, m ≤ 7 → (bits .and .u8 (y : Int) ((2 ^ m : Nat) : Int) != 0) = y.testBit m := by
    intro m hm
    have hp := Nat.pow_le_pow_right (n := 2) (by omega) hm
    rw [bits_and_u .u8 rfl y (2 ^ m) hy (by show 2 ^ m < 256; omega)]
    rw [Bool.eq_iff_iff, bne_iff_ne]
    have e : y &&& 2 ^ m = if y.testBit m then 2 ^ m else 0 := by
      refine Nat.eq_of_testBit_eq fun j => ?_
      rw [Nat.testBit_and, Nat.testBit_two_pow]
      by_cases hj : m = j
      · subst hj; cases h : y.testBit m <;> simp [Nat.testBit_two_pow_self]
      · cases h : y.testBit m <;> simp [hj]
    rw [e]
    have hpos := Nat.two_pow_pos m
    cases h : y.testBit m
    · simp
    · simp only [if_true]
      generalize 2 ^ m = p at hpos ⊢
      simp
      omega
  rcases hk with h | h | h | h | h | h | h | h
  · rw [h]; exact key 7 (by omega)
  · rw [h]; exact key 6 (by omega)
  · rw [h]; exact key 5 (by omega)
  · rw [h]; exact key 4 (by omega)
  · rw [h]; exact key 3 (by omega)
  · rw [h]; exact key 2 (by omega)
  · rw [h]; exact key 1 (by omega)
  · rw [h]; exact key 0 (by omega)

theorem can_no {zs : List Nat} {n k : Nat} (hk : k < 8 * zs.length) (hn : n ≤ k) (hb : bitAt zs k = true) : canB zs n = false := by
  rw [Bool.eq_false_iff]
  intro h
  have := ((canB_iff zs n).1 h).2.2 k hk (by rw [Int.toNat_natCast]; exact hn)
  rw [hb] at this; cases this
theorem can_yes {zs : List Nat} {n : Nat} (hl : zs.length = nb n) (h : ∀ j, j < 8 * zs.length → n ≤ j → bitAt zs j = false) : canB zs n = true := by
  rw [canB_iff]
  exact ⟨by omega, by rw [Int.toNat_natCast]; exact hl, fun i hi hn => h i hi (by rw [Int.toNat_natCast] at hn; exact hn)⟩
theorem vt_snoc (zs : List Nat) (k : Nat) : vt (bitsL zs k) ++ [Value.bool (bitAt zs k)] = vt (bitsL zs (k + 1)) := by simp [vt, bitsL_succ]
theorem vt_length (zs : List Nat) (k : Nat) : (vt (bitsL zs k)).length = k := by simp [vt, bitsL_length]

set_option maxHeartbeats 4000000 in
theorem list_loop (a : Option Addr) (len cap n : Nat) (zs : List Nat) (w : World) (hB : Bs w a len zs) (hm : len ≤ 137438953600) (hn : n ≤ 1099511627776) (hl : len = nb n) :
    Calls Tryd.prog 22 #[.agg #[.slice a len cap, .int .i64 n]] w fun e w' =>
      ∃ v, e = .returned (.tuple #[v, .bool (canB zs n)]) ∧ (canB zs n = true → w'.ownsRow w.heap.size 4 1 v n (vt (bitsL zs n))) ∧ (canB zs n = false → v = .slice none 0 0) ∧ Below w.heap.size w w' := by
  obtain ⟨i0, hi, hz0, hz1, hz2⟩ := info_parts Tryd.info4
  have b0 : decide ((n : Int) < 0) = false := decide_eq_false (by omega)
  have b1 : decide ((len : Int) < (n : Int) / 8) = false := decide_eq_false (by unfold nb at hl; omega)
  have b3 : decide ((n : Int) / 8 + 1 < (len : Int)) = false := decide_eq_false (by unfold nb at hl; omega)
  have hn8 : n ≤ 8 * len := by unfold nb at hl; omega
  have HL : Hid _ := hl
  have h0 : Below w.heap.size w (w.alloc (.cells #[.slice a len cap, .int .i64 n] 24)) := (Below.refl _ _).alloc (Nat.le_refl _) _
  have hcase : ((((n : Int) % 8) != 0) = false ∧ (((n : Int) % 8) == 0) = true ∧ ((len : Int) != (n : Int) / 8) = false) ∨ ((((n : Int) % 8) != 0) = true ∧ (((n : Int) % 8) == 0) = false ∧ decide ((len : Int) ≤ (n : Int) / 8) = false) := by
    by_cases h2 : n % 8 = 0
    · exact .inl ⟨by rw [bne_eq_false_iff_eq]; omega, beq_iff_eq.2 (by omega), by rw [bne_eq_false_iff_eq]; unfold nb at hl; omega⟩
    · exact .inr ⟨by rw [bne_iff_ne]; omega, beq_eq_false_iff_ne.2 (by omega), decide_eq_false (by unfold nb at hl; omega)⟩
  clear hl
  rcases hcase with ⟨b2, b2', b4⟩ | ⟨b2, b2', b4⟩
  all_goals
    go_enter Tryd.func22, Tryd.ntmps22
    go_wp2
    go_loopw [4, 63] (fun ov iv wr => ∃ k : Nat, k ≤ 8 * len ∧ iv = .int .i64 k ∧ wr.ownsRow (w.heap.size + 1) 4 1 ov (min k n) (vt (bitsL zs (min k n))) ∧ (∀ j, j < k → n ≤ j → bitAt zs j = false) ∧ Below (w.heap.size + 1) (w.alloc (.cells #[.slice a len cap, .int .i64 n] 24)) wr) (fun _ iv _ => 8 * len - (intOf iv).toNat)
    case atStart => exact ⟨0, Nat.zero_le _, rfl, by rw [Nat.zero_min]; exact World.ownsRow_nil _ _ _ _, fun j hj => by omega, Below.refl _ _⟩
    case round =>
      obtain ⟨k, hk, rfl, hown, hzero, hbel⟩ := hrel
      have HZ : Hid _ := hzero
      clear hzero
      have hbw : Below w.heap.size w wr := h0.trans (hbel.mono (by omega))
      by_cases hlt : k < 8 * len
      · obtain ⟨b, off, rfl, hb, hc⟩ := hB.pos (by omega)
        have hcell : wr.cell? ⟨b, off + k / 8, none⟩ = some (.int .u8 ((zs.getD (k / 8) 0 : Nat) : Int)) := by
          rw [hbel.cell (by simp; omega), World.cell?_alloc_past _ _ _ hb]; exact hc (k / 8) (by omega)
        have c0 : wr.cell? ⟨w.heap.size, 0, none⟩ = some (.slice (some ⟨b, off, none⟩) len cap) := (hbel.cell (by simp)).trans (by simp)
        have c1 : wr.cell? ⟨w.heap.size, 1, none⟩ = some (.int .i64 n) := (hbel.cell (by simp)).trans (by simp)
        have hy := getD_lt hB.2.2.1 (k / 8)
        have hbit := bit_walk (zs.getD (k / 8) 0) k hy
        have hbe : (zs.getD (k / 8) 0).testBit (7 - k % 8) = bitAt zs k := rfl
        rw [hbe] at hbit
        have hsz := hbel.size
        simp only [World.size_alloc] at hsz
        clear hbe hc
        generalize zs.getD (k / 8) 0 = y at *
        by_cases hkn : k < n
        · rw [show min k n = k from by omega] at hown
          go_wp2
          go_region
          go_wp2_with (at_builtin; refine wpList_append_own _ rfl _ _ 44 rfl (w.heap.size + 1) 4 i0 (.bool false) 1 1 Tryd.underlying44 hi hz0 hz1 hz2 rfl (by decide) _ k _ rfl (own_drew (hown.alloc _)) ⟨wr.heap.size, 0, none⟩ 1 1 [.bool (bitAt zs k)] rfl rfl ?c1 ?c2 ?c3 ?c4 ?c5 ?_)
          case c1 =>
            intro j u hj
            match j, hj with
            | 0, hj => simp at hj; subst hj; simp [Addr.add]
          case c2 => intro u hu; simp at hu; subst hu; rfl
          case c3 => unfold maxLen; omega
          case c4 => omega
          case c5 => simp; omega
          intro v' w1 hown1 hgrow1 _
          rw [vt_snoc] at hown1
          have hb1 : Below (w.heap.size + 1) (w.alloc (.cells #[.slice (some ⟨b, off, none⟩) len cap, .int .i64 n] 24)) w1 := ((hbel.alloc (by omega) _).drew).grown hgrow1 (by simp; omega) (by
            intro g hg
            rcases hown.2 with ⟨rfl, _⟩ | ⟨g', cap', cur, rfl, hg', _⟩
            · simp [Value.ownBlock] at hg
            · simp [Value.ownBlock] at hg; omega)
          clear hown hgrow1 hcell c0 c1 hbit
          go_wp2
          go_roundw
          case rel => exact ⟨k + 1, by omega, by go_num, by rw [show min (k + 1) n = k + 1 from by omega]; exact hown1, fun j hj hnj => by omega, hb1⟩
          case measure => simp [intOf]; omega
        · cases hbv : bitAt zs k with
          | false =>
            rw [hbv] at hbit
            have HV : Hid _ := hbv
            clear hbv
            go_wp2
            go_region
            go_wp2
            go_roundw
            case rel =>
              refine ⟨k + 1, by omega, by go_num, ?_, ?_, hbel.drew⟩
              · rw [show min (k + 1) n = n from by omega]; rw [show min k n = n from by omega] at hown; exact own_drew hown
              · intro j hj hnj
                by_cases hjk : j = k
                · rw [hjk]; exact HV.out
                · exact HZ.out j (by omega) hnj
            case measure => simp [intOf]; omega
          | true =>
            rw [hbv] at hbit
            have HV : Hid (canB zs n = false) := can_no (by rw [hB.1]; exact hlt) (by omega) hbv
            clear hbv
            go_wp2
            go_region
            go_wp2
            go_ret2
            rw [HV.out]
            exact ⟨_, rfl, (fun h => by cases h), fun _ => rfl, hbw.drew⟩
      · obtain rfl : k = 8 * len := by omega
        rw [show min (8 * len) n = n from by omega] at hown
        have HV : Hid (canB zs n = true) := can_yes (by rw [hB.1]; exact HL.out) (by rw [hB.1]; exact HZ.out)
        go_wp2
        go_ret2
        rw [HV.out]
        exact ⟨_, rfl, fun _ => own_mono hown (by omega), (fun h => by cases h), hbw⟩
end Go.Proofs.YtdpoiodaonhjiabDoor
