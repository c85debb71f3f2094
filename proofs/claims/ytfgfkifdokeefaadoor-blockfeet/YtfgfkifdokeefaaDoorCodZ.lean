/- math/bits.TrailingZeros64; the writer's method putTurned. -/
import Derived.Test.YtfgfkifdokeefaaDoorMb
import Derived.Test.YtfgfkifdokeefaaDoorCodShelf
import Derived.Shelf.Spec.TrailingZeros
import Derived.Deep.QuietTactic
import Derived.BigQuiet
namespace Go.Proofs.YtfgfkifdokeefaaDoor.Cd
open Go.RowKit Go.Joins
set_option linter.unusedVariables false

theorem bitLenAux_zero : ∀ f, Lib.bitLenAux f 0 = 0
  | 0 => rfl
  | f + 1 => rfl
theorem bitLenAux_spec : ∀ (f x : Nat), 0 < x → x < 2 ^ f → 1 ≤ Lib.bitLenAux f x ∧ Lib.bitLenAux f x ≤ f ∧ 2 ^ (Lib.bitLenAux f x - 1) ≤ x ∧ x < 2 ^ Lib.bitLenAux f x
  | 0, x, h0, h => by simp at h; omega
  | f + 1, x, h0, h => by
    have e : Lib.bitLenAux (f + 1) x = 1 + Lib.bitLenAux f (x / 2) := by simp [Lib.bitLenAux]; omega
    rw [e]
    by_cases h1 : x / 2 = 0
    · rw [h1, bitLenAux_zero]
      refine ⟨by omega, by omega, ?_, ?_⟩
      · simp; omega
      · simp; omega
    · rw [Nat.pow_succ] at h
      obtain ⟨a1, a2, a3, a4⟩ := bitLenAux_spec f (x / 2) (by omega) (by omega)
      refine ⟨by omega, by omega, ?_, ?_⟩
      · rw [show 1 + Lib.bitLenAux f (x / 2) - 1 = (Lib.bitLenAux f (x / 2) - 1) + 1 from by omega, Nat.pow_succ]; omega
      · rw [Nat.add_comm 1, Nat.pow_succ]; omega
/-- Where a number's bits begin and end. -/
theorem zz_spec (x : Nat) (h0 : x ≠ 0) (h : x < 18446744073709551616) :
    Lib.bitLen x = 64 - hiZ x ∧ hiZ x ≤ 63 ∧ loZ x ≤ 63 ∧ 1 ≤ widZ x ∧ hiZ x + loZ x + widZ x = 64 ∧ x = 2 ^ loZ x * (x / 2 ^ loZ x) ∧ (x / 2 ^ loZ x) % 2 = 1 ∧ x / 2 ^ loZ x < 2 ^ widZ x ∧ 2 ^ (widZ x - 1) ≤ x / 2 ^ loZ x := by
  have h' : x < 2 ^ 64 := h
  obtain ⟨b1, b2, b3, b4⟩ := bitLenAux_spec 64 x (by omega) h'
  obtain ⟨m, hm, hk⟩ := Lib.ctzFrom_spec 64 x (by omega) h'
  have ebl : Lib.bitLenAux 64 x = Lib.bitLen x := rfl
  have ect : Lib.ctzFrom 64 x = loZ x := by unfold loZ Lib.ctz; rw [if_neg h0]
  rw [ebl] at b1 b2 b3 b4
  rw [ect] at hm hk
  have hlt : loZ x < Lib.bitLen x := by
    by_cases hh : loZ x < Lib.bitLen x
    · exact hh
    · exfalso
      have h1 : 2 ^ Lib.bitLen x ≤ 2 ^ loZ x := Nat.pow_le_pow_right (by omega) (by omega)
      have h2 : 2 ^ loZ x ≤ 2 ^ loZ x * (2 * m + 1) := Nat.le_mul_of_pos_right _ (by omega)
      omega
  have hq : x / 2 ^ loZ x = 2 * m + 1 := by
    generalize loZ x = c at hm
    rw [hm, Nat.mul_div_cancel_left _ (Nat.two_pow_pos c)]
  have hw : widZ x = Lib.bitLen x - loZ x := by unfold widZ hiZ; omega
  refine ⟨by unfold hiZ; omega, by unfold hiZ; omega, by omega, by omega, by rw [hw]; unfold hiZ; omega, by rw [hq]; exact hm, by rw [hq]; omega, ?_, ?_⟩
  · rw [Nat.div_lt_iff_lt_mul (Nat.two_pow_pos _), ← Nat.pow_add, hw, show Lib.bitLen x - loZ x + loZ x = Lib.bitLen x from by omega]; exact b4
  · rw [Nat.le_div_iff_mul_le (Nat.two_pow_pos _), ← Nat.pow_add, hw, show Lib.bitLen x - loZ x - 1 + loZ x = Lib.bitLen x - 1 from by omega]; exact b3
/-- The library's table of where a bit stands. -/
def DbTab (w : World) : Prop := TabAt 1 Lib.deBruijn64tab w
theorem DbTab.below {w w' : World} (h : DbTab w) (hb : Below w.heap.size w w') : DbTab w' := fun j hj => by
  have h1 := h j hj
  rw [hb.cell (block_lt_of_cell h1)]; exact h1
set_option maxHeartbeats 1000000 in
theorem tz_core (x k idx : Nat) (w : World) (hx0 : ((x : Int) == 0) = false)
    (key : IntKind.u64.wrap (bits BinOp.and IntKind.u64 (x : Int) (IntKind.u64.wrap (-(x : Int))) * 285870213051353865) / 288230376151711744 = (idx : Int))
    (hi : idx < 64) (hk : k < 64) (hcell : w.cell? ⟨1, idx, none⟩ = some (.int .u8 (k : Nat))) :
    Calls Tryd.prog 55 #[.int .u64 (x : Int)] w fun e w' => e = .returned (.int .i64 (k : Nat)) ∧ w' = w := by
  go_enter Tryd.func55, Tryd.ntmps55
  go_wp2_with (simp only [key])
  go_ret
  exact ⟨rfl, rfl⟩
theorem tz_any (x : Nat) (w : World) (h0 : x ≠ 0) (hx : x < 18446744073709551616) (hT : DbTab w) :
    Calls Tryd.prog 55 #[.int .u64 (x : Int)] w fun e w' => e = .returned (.int .i64 (loZ x : Nat)) ∧ w' = w := by
  obtain ⟨hlow, hk⟩ := Lib.lowest_bit 64 x h0 hx
  obtain ⟨hi, htab⟩ := Lib.deBruijn64_at _ hk
  have hcell := hT _ hi
  rw [htab] at hcell
  exact tz_core x _ _ w (by simp; omega) (tz64_key x _ hx h0 hlow) hi hk hcell
theorem lz_any (x : Nat) (w : World) (h0 : x ≠ 0) (hx : x < 18446744073709551616) :
    Calls Tryd.prog 54 #[.int .u64 (x : Int)] w fun e w' => e = .returned (.int .i64 (hiZ x : Nat)) ∧ w' = w := by
  have h := zz_spec x h0 hx
  refine (Tryd.bits_LeadingZeros64 (x : Int) w (by omega) (by omega)).mono ?_
  rintro e w' ⟨rfl, rfl⟩
  rw [Int.toNat_natCast, h.1, show (64 : Int) - ((64 - hiZ x : Nat) : Int) = ((hiZ x : Nat) : Int) from by have := h.2.1; omega]
  exact ⟨rfl, rfl⟩

set_option maxHeartbeats 2000000 in
set_option maxRecDepth 100000 in
theorem putTurned_zero (B b : Nat) (L : List Bool) (w : World) (hBw : B ≤ w.heap.size) (h : WI w B b L) (hlen : L.length ≤ 1099511620000) :
    Calls Tryd.prog 45 #[.pointer (some ⟨b, 0, none⟩), .int .u64 0] w fun e w' =>
      e = .returned (.tuple #[]) ∧ WI w' B b (L ++ lowBits 0 1) ∧ Below B w w' ∧ Lib.OthersKept 5 (some b) w w' := by
  go_enter Tryd.func45, Tryd.ntmps45
  go_wp2_with fail
  refine (wput_any B b L 0 1 w hBw h (by omega) (by omega) (by omega)).mono ?_
  rintro e w1 ⟨rfl, hr⟩
  have HR := hidn hr
  clear hr
  go_wp2_with fail
  exact bodyPost_ret (v := .tuple #[]) (by simp [results, Tryd.results45, go_sem]) rfl ⟨rfl, HR.out⟩

set_option maxHeartbeats 2000000 in
set_option maxRecDepth 100000 in
theorem putTurned_some (B b x : Nat) (L : List Bool) (w : World) (hBw : B ≤ w.heap.size) (h : WI w B b L) (hlen : L.length ≤ 1099511620000) (h0 : x ≠ 0) (hx : x < 18446744073709551616) (hD : DbTab w) :
    Calls Tryd.prog 45 #[.pointer (some ⟨b, 0, none⟩), .int .u64 (x : Int)] w fun e w' =>
      e = .returned (.tuple #[]) ∧ WI w' B b (L ++ (lowBits 1 1 ++ (lowBits (hiZ x) 6 ++ (lowBits (widZ x - 1) 6 ++ lowBits (x / 2 ^ loZ x) (widZ x))))) ∧ Below B w w' ∧ Lib.OthersKept 5 (some b) w w' := by
  have hx0 : ((x : Int) == 0) = false := by simp; omega
  obtain ⟨z1, z2, z3, z4, z5, z6, z7, z8, z9⟩ := zz_spec x h0 hx
  obtain ⟨q, hq⟩ : ∃ q, x / 2 ^ loZ x = q := ⟨_, rfl⟩
  have hql : q < 18446744073709551616 := by rw [← hq]; exact Nat.lt_of_le_of_lt (Nat.div_le_self _ _) hx
  have hqi : (x : Int) / 2 ^ loZ x = (q : Int) := by rw [← hq]; push_cast; rfl
  have hlz := fun w' : World => lz_any x w' h0 hx
  have htz := fun (w' : World) (hD : DbTab w') => tz_any x w' h0 hx hD
  rw [hq]
  clear z1 z6 z7 z8 z9 hq
  generalize hiZ x = hi at *
  generalize loZ x = lo at *
  generalize widZ x = wd at *
  obtain ⟨wm, hwm⟩ : ∃ wm, wd - 1 = wm := ⟨_, rfl⟩
  rw [hwm]
  have r1 : (64 : Int) - (hi : Int) - (lo : Int) = (wd : Int) := by omega
  have r2 : (wd : Int) - 1 = (wm : Int) := by omega
  have r3 : IntKind.u64.wrap (hi : Int) = (hi : Int) := wrap_u_lt .u64 rfl _ (by show hi < 18446744073709551616; omega)
  have r4 : IntKind.u64.wrap (wm : Int) = (wm : Int) := wrap_u_lt .u64 rfl _ (by show wm < 18446744073709551616; omega)
  have HZ5 := hidn z5
  have hwd : wd ≤ 64 := by omega
  have hwm6 : wm ≤ 63 := by omega
  clear hwm z5
  go_enter Tryd.func45, Tryd.ntmps45
  go_wp2_with fail
  refine (hlz _).mono ?_
  rintro e w0 ⟨rfl, rfl⟩
  go_wp2_with fail
  refine (htz _ hD).mono ?_
  rintro e w0 ⟨rfl, rfl⟩
  go_wp2_with fail
  refine (wput_any B b L 1 1 _ hBw h (by omega) (by omega) (by omega)).mono ?_
  rintro e w1 ⟨rfl, h1, l1, k1⟩
  have s1 := l1.size
  go_wp2_with fail
  refine (wput_any B b _ hi 6 _ (by omega) h1 (by omega) (by omega) (by simp [lowBits_length]; omega)).mono ?_
  rintro e w2 ⟨rfl, h2, l2, k2⟩
  have s2 := l2.size
  go_wp2_with fail
  refine (wput_any B b _ wm 6 _ (by omega) h2 (by omega) (by omega) (by simp [lowBits_length]; omega)).mono ?_
  rintro e w3 ⟨rfl, h3, l3, k3⟩
  have s3 := l3.size
  go_wp2_with fail
  refine (wput_any B b _ q wd _ (by omega) h3 (by omega) (by omega) (by simp [lowBits_length]; omega)).mono ?_
  rintro e w4 ⟨rfl, h4, l4, k4⟩
  have HR : Hid (WI w4 B b (L ++ (lowBits 1 1 ++ (lowBits hi 6 ++ (lowBits wm 6 ++ lowBits q wd)))) ∧ Below B w0 w4 ∧ Lib.OthersKept 5 (some b) w0 w4) := hidn ⟨by simpa [List.append_assoc] using h4, ((l1.trans l2).trans l3).trans l4, ((k1.trans k2).trans k3).trans k4⟩
  clear h4 h3 h2 h1 l1 l2 l3 l4 k1 k2 k3 k4
  go_wp2_with fail
  go_end0
  exact ⟨rfl, HR.out⟩
theorem putTurned_any (B b x : Nat) (L : List Bool) (w : World) (hBw : B ≤ w.heap.size) (h : WI w B b L) (hlen : L.length ≤ 1099511620000) (hx : x < 18446744073709551616) (hD : DbTab w) :
    Calls Tryd.prog 45 #[.pointer (some ⟨b, 0, none⟩), .int .u64 (x : Int)] w fun e w' =>
      e = .returned (.tuple #[]) ∧ WI w' B b (L ++ turned x) ∧ Below B w w' ∧ Lib.OthersKept 5 (some b) w w' := by
  by_cases h0 : x = 0
  · subst h0
    exact putTurned_zero B b L w hBw h hlen
  · unfold turned
    rw [if_neg h0]
    exact putTurned_some B b x L w hBw h hlen h0 hx hD
end Go.Proofs.YtfgfkifdokeefaaDoor.Cd
