/- The sum CRC-32C over plain numbers: a register's steps, that two at once are two, that no step loses anything. -/
import Derived.Test.YthhnpajaacfapaaDoorMath
import Derived.Test.YthhnpajaacfapaaDoorBytes
namespace Go.Proofs.YthhnpajaacfapaaDoor
open Go.RowKit
set_option linter.unusedVariables false

def crcP : Nat := 2197175160
def sh1 (r : Nat) : Nat := (r / 2) ^^^ (if r % 2 = 1 then crcP else 0)
def crcT (s : Nat) : Nat := if s = 0 then 0 else if s = 1 then 1098587580 else if s = 2 then 2197175160 else 3280807620
def sh2 (r : Nat) : Nat := (r / 4) ^^^ crcT (r % 4)
def sh8 (r : Nat) : Nat := sh2 (sh2 (sh2 (sh2 r)))
def crcR (r : Nat) (zs : List Nat) : Nat := zs.foldl (fun r c => sh8 (r ^^^ c)) r
def crcM (s : Nat) (zs : List Nat) : Nat := 4294967295 - crcR (4294967295 - s) zs
def iter {α : Type} (f : α → α) : Nat → α → α
  | 0, x => x
  | n + 1, x => f (iter f n x)

theorem sh1_lt {r : Nat} (h : r < 4294967296) : sh1 r < 4294967296 := by
  unfold sh1
  refine Nat.xor_lt_two_pow (n := 32) (by omega) ?_
  unfold crcP; split <;> omega
theorem xor_half (a b : Nat) : (a ^^^ b) / 2 = a / 2 ^^^ b / 2 := Nat.xor_div_two
theorem xor_even (a b : Nat) : (a ^^^ b) % 2 = (a + b) % 2 := by
  have h := Nat.testBit_xor a b 0
  simp only [Nat.testBit_zero] at h
  generalize a ^^^ b = c at h ⊢
  have ha : a % 2 = 0 ∨ a % 2 = 1 := by omega
  have hb : b % 2 = 0 ∨ b % 2 = 1 := by omega
  rcases ha with ha | ha <;> rcases hb with hb | hb <;> simp [ha, hb] at h <;> omega
theorem sh2_eq (r : Nat) : sh2 r = sh1 (sh1 r) := by
  have hs : r % 4 = 0 ∨ r % 4 = 1 ∨ r % 4 = 2 ∨ r % 4 = 3 := by omega
  rcases hs with hs | hs | hs | hs
  · have e1 : r % 2 = 0 := by omega
    have e2 : r / 2 % 2 = 0 := by omega
    simp [sh2, sh1, hs, e1, e2, crcT, Nat.div_div_eq_div_mul]
  · have e1 : r % 2 = 1 := by omega
    have e2 : r / 2 % 2 = 0 := by omega
    simp only [sh2, sh1, hs, e1, crcT, crcP, xor_half, xor_even, Nat.div_div_eq_div_mul]
    have e3 : (r / 2 + 2197175160) % 2 = 0 := by omega
    simp [e3]
  · have e1 : r % 2 = 0 := by omega
    have e2 : r / 2 % 2 = 1 := by omega
    simp [sh2, sh1, hs, e1, e2, crcT, crcP, Nat.div_div_eq_div_mul]
  · have e1 : r % 2 = 1 := by omega
    have e2 : r / 2 % 2 = 1 := by omega
    simp only [sh2, sh1, hs, e1, crcT, crcP, xor_half, xor_even, Nat.div_div_eq_div_mul]
    have e3 : (r / 2 + 2197175160) % 2 = 1 := by omega
    simp [e3, Nat.xor_assoc]
theorem sh2_lt {r : Nat} (h : r < 4294967296) : sh2 r < 4294967296 := by rw [sh2_eq]; exact sh1_lt (sh1_lt h)
theorem sh8_lt {r : Nat} (h : r < 4294967296) : sh8 r < 4294967296 := sh2_lt (sh2_lt (sh2_lt (sh2_lt h)))
theorem iter2_lt (k : Nat) {r : Nat} (h : r < 4294967296) : iter sh2 k r < 4294967296 := by
  induction k with
  | zero => exact h
  | succ k ih => exact sh2_lt ih
theorem iter1_lt (k : Nat) {r : Nat} (h : r < 4294967296) : iter sh1 k r < 4294967296 := by
  induction k with
  | zero => exact h
  | succ k ih => exact sh1_lt ih
theorem sh8_iter (r : Nat) : iter sh2 4 r = sh8 r := rfl
theorem sh8_iter1 (r : Nat) : iter sh1 8 r = sh8 r := by simp [iter, sh8, sh2_eq]
theorem crcT_lt (s : Nat) : crcT s < 4294967296 := by unfold crcT; split; omega; split; omega; split <;> omega
theorem xor_lt32 {a b : Nat} (ha : a < 4294967296) (hb : b < 4294967296) : a ^^^ b < 4294967296 := Nat.xor_lt_two_pow (n := 32) ha hb
theorem crcR_lt (zs : List Nat) : ∀ {r : Nat}, r < 4294967296 → (∀ x ∈ zs, x < 256) → crcR r zs < 4294967296 := by
  induction zs with
  | nil => intro r h _; exact h
  | cons c t ih =>
    intro r h hz
    have hc : c < 256 := hz c (by simp)
    exact ih (sh8_lt (xor_lt32 h (by omega))) (fun x hx => hz x (by simp [hx]))
theorem crcR_snoc (r : Nat) (zs : List Nat) (c : Nat) : crcR r (zs ++ [c]) = sh8 (crcR r zs ^^^ c) := by simp [crcR]
theorem crcR_append (r : Nat) (xs ys : List Nat) : crcR r (xs ++ ys) = crcR (crcR r xs) ys := by simp [crcR]
theorem crcM_lt (s : Nat) (zs : List Nat) : crcM s zs < 4294967296 := by unfold crcM; omega
theorem crcM_append (xs ys : List Nat) (hx : ∀ x ∈ xs, x < 256) : crcM (crcM 0 xs) ys = crcM 0 (xs ++ ys) := by
  unfold crcM
  have := crcR_lt xs (r := 4294967295 - 0) (by omega) hx
  rw [crcR_append]
  congr 2
  omega

/-- No step loses anything. -/
theorem sh1_inj {a b : Nat} (ha : a < 4294967296) (hb : b < 4294967296) (h : sh1 a = sh1 b) : a = b := by
  unfold sh1 at h
  have ta : (a / 2).testBit 31 = false := Nat.testBit_lt_two_pow (by omega)
  have tb : (b / 2).testBit 31 = false := Nat.testBit_lt_two_pow (by omega)
  have tP : crcP.testBit 31 = true := by decide
  have h31 := congrArg (fun x => x.testBit 31) h
  simp only [Nat.testBit_xor, ta, tb] at h31
  have ra : a % 2 = 0 ∨ a % 2 = 1 := by omega
  have rb : b % 2 = 0 ∨ b % 2 = 1 := by omega
  rcases ra with ra | ra <;> rcases rb with rb | rb <;> simp [ra, rb, tP] at h31 h
  · omega
  · have := congrArg (fun x => x ^^^ crcP) h
    simp [Nat.xor_assoc] at this
    omega
theorem sh2_inj {a b : Nat} (ha : a < 4294967296) (hb : b < 4294967296) (h : sh2 a = sh2 b) : a = b := by
  rw [sh2_eq, sh2_eq] at h
  exact sh1_inj ha hb (sh1_inj (sh1_lt ha) (sh1_lt hb) h)
theorem sh8_inj {a b : Nat} (ha : a < 4294967296) (hb : b < 4294967296) (h : sh8 a = sh8 b) : a = b :=
  sh2_inj ha hb (sh2_inj (sh2_lt ha) (sh2_lt hb) (sh2_inj (sh2_lt (sh2_lt ha)) (sh2_lt (sh2_lt hb)) (sh2_inj (sh2_lt (sh2_lt (sh2_lt ha))) (sh2_lt (sh2_lt (sh2_lt hb))) h)))
theorem xor_cancel_right {a b c : Nat} (h : a ^^^ c = b ^^^ c) : a = b := by
  have := congrArg (fun x => x ^^^ c) h
  simpa [Nat.xor_assoc] using this
theorem xor_cancel_left {a b c : Nat} (h : c ^^^ a = c ^^^ b) : a = b := by
  rw [Nat.xor_comm c a, Nat.xor_comm c b] at h; exact xor_cancel_right h
theorem crcR_inj (zs : List Nat) (hz : ∀ x ∈ zs, x < 256) : ∀ {a b : Nat}, a < 4294967296 → b < 4294967296 → crcR a zs = crcR b zs → a = b := by
  induction zs with
  | nil => intro a b _ _ h; exact h
  | cons c t ih =>
    intro a b ha hb h
    have hc : c < 256 := hz c (by simp)
    have h1 := ih (fun x hx => hz x (by simp [hx])) (sh8_lt (xor_lt32 ha (b := c) (by omega))) (sh8_lt (xor_lt32 hb (b := c) (by omega))) h
    exact xor_cancel_right (sh8_inj (xor_lt32 ha (by omega)) (xor_lt32 hb (by omega)) h1)
/-- Two texts that are as long and part in one byte alone have unlike sums. -/
theorem crcM_tells (zs : List Nat) (i y : Nat) (hz : ∀ x ∈ zs, x < 256) (hi : i < zs.length) (hy : y < 256) (hne : y ≠ zs.getD i 0) : crcM 0 (zs.set i y) ≠ crcM 0 zs := by
  have hsplit : zs = zs.take i ++ zs.getD i 0 :: zs.drop (i + 1) := by
    simp [hi]
  have hset : zs.set i y = zs.take i ++ y :: zs.drop (i + 1) := List.set_eq_take_append_cons_drop .. |>.trans (by simp [hi])
  have hx0 : zs.getD i 0 < 256 := by
    have : zs.getD i 0 = zs[i] := by simp [hi]
    rw [this]; exact hz _ (List.getElem_mem hi)
  have hpre : ∀ x ∈ zs.take i, x < 256 := fun x hx => hz x (List.mem_of_mem_take hx)
  have hpost : ∀ x ∈ zs.drop (i + 1), x < 256 := fun x hx => hz x (List.mem_of_mem_drop hx)
  generalize zs.getD i 0 = x0 at *
  generalize zs.take i = pre at *
  generalize zs.drop (i + 1) = post at *
  rw [hset, hsplit]
  unfold crcM
  have hr : crcR (4294967295 - 0) pre < 4294967296 := crcR_lt pre (by omega) hpre
  have e : ∀ c, crcR (4294967295 - 0) (pre ++ c :: post) = crcR (sh8 (crcR (4294967295 - 0) pre ^^^ c)) post := by
    intro c; rw [crcR_append]; rfl
  rw [e, e]
  generalize crcR (4294967295 - 0) pre = r at *
  intro h
  have l1 := crcR_lt post (sh8_lt (xor_lt32 hr (b := y) (by omega))) hpost
  have l2 := crcR_lt post (sh8_lt (xor_lt32 hr (b := x0) (by omega))) hpost
  have h1 : crcR (sh8 (r ^^^ y)) post = crcR (sh8 (r ^^^ x0)) post := by omega
  have h2 := crcR_inj post hpost (sh8_lt (xor_lt32 hr (by omega))) (sh8_lt (xor_lt32 hr (by omega))) h1
  have h3 := sh8_inj (xor_lt32 hr (by omega)) (xor_lt32 hr (by omega)) h2
  exact hne (xor_cancel_left h3)
end Go.Proofs.YthhnpajaacfapaaDoor

namespace Go.Proofs.YthhnpajaacfapaaDoor
open Go.RowKit
set_option linter.unusedVariables false

/-- The table of crc holds what its text lays. -/
def CrcTab (w : World) : Prop :=
  w.cell? ⟨1, 0, none⟩ = some (.int .u32 0) ∧ w.cell? ⟨1, 1, none⟩ = some (.int .u32 1098587580) ∧
  w.cell? ⟨1, 2, none⟩ = some (.int .u32 2197175160) ∧ w.cell? ⟨1, 3, none⟩ = some (.int .u32 3280807620)
theorem CrcTab.below {w w' : World} (h : CrcTab w) (hb : Below w.heap.size w w') : CrcTab w' := by
  obtain ⟨h0, h1, h2, h3⟩ := h
  exact ⟨(hb.cell (block_lt_of_cell h0)).trans h0, (hb.cell (block_lt_of_cell h1)).trans h1, (hb.cell (block_lt_of_cell h2)).trans h2, (hb.cell (block_lt_of_cell h3)).trans h3⟩

theorem and3 (r : Nat) (h : r < 4294967296) : bits .and .u32 (r : Int) 3 = ((r % 4 : Nat) : Int) := by
  have := bits_and_u .u32 rfl r 3 h (by decide)
  rw [show ((3 : Nat) : Int) = 3 from rfl] at this
  rw [this, show (3 : Nat) = 2 ^ 2 - 1 from rfl, Nat.and_two_pow_sub_one_eq_mod]
theorem and1 (r : Nat) (h : r < 4294967296) : bits .and .u32 (r : Int) 1 = ((r % 2 : Nat) : Int) := by
  have := bits_and_u .u32 rfl r 1 h (by decide)
  rw [show ((1 : Nat) : Int) = 1 from rfl] at this
  rw [this, show (1 : Nat) = 2 ^ 1 - 1 from rfl, Nat.and_two_pow_sub_one_eq_mod]

theorem sh2_walk (q s : Nat) (T : Int) (hq : q < 4294967296) (hs : q % 4 = s) (hT : T = ((crcT s : Nat) : Int)) : bits .xor .u32 ((q : Int) / 4) T = ((sh2 q : Nat) : Int) := by
  subst hT; subst hs
  exact bits_xor_u .u32 rfl (q / 4) (crcT (q % 4)) (by show q / 4 < 4294967296; omega) (crcT_lt _)

set_option maxHeartbeats 1000000 in
theorem shift_any (r : Nat) (w : World) (h : r < 4294967296) (hT : CrcTab w) :
    Calls Tryd.prog 91 #[.int .u32 r] w fun e w' => e = .returned (.int .u32 (sh8 r : Nat)) ∧ w' = w := by
  obtain ⟨c0, c1, c2, c3⟩ := hT
  go_enter Tryd.func91, Tryd.ntmps91
  go_wp2
  go_loop [0, 3] (fun rv iv => ∃ k : Nat, k ≤ 4 ∧ iv = .int .i64 k ∧ rv = .int .u32 (iter sh2 k r : Nat)) (fun _ iv => 4 - (intOf iv).toNat)
  case atStart => exact ⟨0, by omega, rfl, rfl⟩
  case round =>
    obtain ⟨k, hk, rfl, rfl⟩ := hrel
    by_cases hlt : k < 4
    · have hq := iter2_lt k h
      have hstep : iter sh2 (k + 1) r = sh2 (iter sh2 k r) := rfl
      have HS : Hid (_ = _) := hstep
      clear hstep
      generalize iter sh2 k r = q at *
      have ha := and3 q hq
      have hs : q % 4 = 0 ∨ q % 4 = 1 ∨ q % 4 = 2 ∨ q % 4 = 3 := by omega
      rcases hs with hs | hs | hs | hs
      all_goals
        rw [hs] at ha
        have HQ : Hid (_ = _) := hs
        clear hs
        go_wp2
        go_round
        case rel => exact ⟨k + 1, by omega, by go_num, congrArg (Value.int .u32) (by rw [HS.out]; exact sh2_walk q _ _ hq HQ.out rfl)⟩
        case measure => simp [intOf]; omega
    · go_wp2
      go_ret
      obtain rfl : k = 4 := by omega
      exact ⟨rfl, rfl⟩

theorem not32 (s : Nat) (h : s < 4294967296) : bits .xor .u32 IntKind.u32.max (s : Int) = ((4294967295 - s : Nat) : Int) := by
  have e : IntKind.u32.max = ((4294967295 : Nat) : Int) := rfl
  rw [e, bits_xor_u .u32 rfl 4294967295 s (by decide) h]
  congr 1
  have h1 : (BitVec.allOnes 32 ^^^ BitVec.ofNat 32 s).toNat = 4294967295 - s := by
    rw [BitVec.allOnes_xor, BitVec.toNat_not, BitVec.toNat_ofNat, Nat.mod_eq_of_lt (by omega : s < 2 ^ 32)]
  rw [BitVec.toNat_xor, BitVec.toNat_ofNat, Nat.mod_eq_of_lt (by omega : s < 2 ^ 32)] at h1
  exact h1
theorem xorb (r c : Nat) (hr : r < 4294967296) (hc : c < 256) : bits .xor .u32 (r : Int) (c : Int) = ((r ^^^ c : Nat) : Int) := by
  exact bits_xor_u .u32 rfl r c hr (by show c < 4294967296; omega)

set_option maxHeartbeats 1000000 in
theorem more_any (s : Nat) (a : Option Addr) (len cap : Nat) (zs : List Nat) (w : World) (hs : s < 4294967296) (hB : Bs w a len zs) (hT : CrcTab w) :
    Calls Tryd.prog 74 #[.int .u32 s, .slice a len cap] w fun e w' => e = .returned (.int .u32 (crcM s zs : Nat)) ∧ w' = w := by
  have hm : len ≤ 9223372036854775807 := hB.2.1
  go_enter Tryd.func74, Tryd.ntmps74
  go_wp2
  go_loop [5, 12] (fun rv iv => ∃ k : Nat, k ≤ len ∧ iv = .int .i64 k ∧ rv = .int .u32 (crcR (4294967295 - s) (zs.take k) : Nat)) (fun _ iv => len - (intOf iv).toNat)
  case atStart => exact ⟨0, Nat.zero_le _, rfl, congrArg (Value.int .u32) (not32 s hs)⟩
  case round =>
    obtain ⟨k, hk, rfl, rfl⟩ := hrel
    have hr : crcR (4294967295 - s) (zs.take k) < 4294967296 := crcR_lt _ (by omega) (fun x hx => hB.2.2.1 x (List.mem_of_mem_take hx))
    by_cases hlt : k < len
    · have hstep : crcR (4294967295 - s) (zs.take (k + 1)) = sh8 (crcR (4294967295 - s) (zs.take k) ^^^ zs[k]?.getD 0) := by
        rw [take_succ_getD zs k (by rw [hB.1]; exact hlt), crcR_snoc]
      have HS : Hid (_ = _) := hstep
      clear hstep
      have hx : zs[k]?.getD 0 < 256 := getD_mem_lt zs k 256 (by omega) hB.2.2.1
      obtain ⟨b, off, rfl, hb, hc⟩ := hB.pos (by omega)
      have hck := hc k hlt
      clear hc hb
      rw [List.getD_eq_getElem?_getD] at hck
      generalize zs[k]?.getD 0 = c at *
      generalize crcR (4294967295 - s) (zs.take k) = r at *
      go_wp2_with fail
      rw [xorb r c hr hx]
      refine (shift_any (r ^^^ c) _ (xor_lt32 hr (by omega)) hT).mono ?_
      rintro e w' ⟨rfl, rfl⟩
      go_wp2
      go_round
      case rel => exact ⟨k + 1, by omega, by go_num, congrArg (Value.int .u32) (by rw [HS.out])⟩
      case measure => simp [intOf]; omega
    · go_wp2
      go_ret
      have e : zs.take k = zs := List.take_of_length_le (by rw [hB.1]; omega)
      rw [e] at hr ⊢
      exact ⟨congrArg (fun x => Ending.returned (Value.int .u32 x)) (not32 _ hr), rfl⟩

set_option maxHeartbeats 1000000 in
theorem sum_any (a : Option Addr) (len cap : Nat) (zs : List Nat) (w : World) (hB : Bs w a len zs) (hT : CrcTab w) :
    Calls Tryd.prog 62 #[.slice a len cap] w fun e w' => e = .returned (.int .u32 (crcM 0 zs : Nat)) ∧ w' = w := by
  go_enter Tryd.func62, Tryd.ntmps62
  go_wp2_with fail
  refine (more_any 0 a len cap zs _ (by omega) hB hT).mono ?_
  rintro e w' ⟨rfl, rfl⟩
  go_wp2
  go_ret
  exact ⟨rfl, rfl⟩

theorem sh1_walk1 (q : Nat) (hq : q < 4294967296) (h : q % 2 = 1) : bits .xor .u32 ((q : Int) / 2) 2197175160 = ((sh1 q : Nat) : Int) := by
  have := bits_xor_u .u32 rfl (q / 2) 2197175160 (by show q / 2 < 4294967296; omega) (by decide)
  unfold sh1
  rw [if_pos h]
  exact this
theorem sh1_walk0 (q : Nat) (h : q % 2 = 0) : ((q : Int) / 2) = ((sh1 q : Nat) : Int) := by
  unfold sh1
  rw [if_neg (by omega)]
  simp

set_option maxHeartbeats 1000000 in
theorem refMore_any (s : Nat) (a : Option Addr) (len cap : Nat) (zs : List Nat) (w : World) (hs : s < 4294967296) (hB : Bs w a len zs) :
    Calls Tryd.prog 68 #[.int .u32 s, .slice a len cap] w fun e w' => e = .returned (.int .u32 (crcM s zs : Nat)) ∧ w' = w := by
  have hm : len ≤ 9223372036854775807 := hB.2.1
  go_enter Tryd.func68, Tryd.ntmps68
  go_wp2
  go_loop [5, 13] (fun rv iv => ∃ k : Nat, k ≤ len ∧ iv = .int .i64 k ∧ rv = .int .u32 (crcR (4294967295 - s) (zs.take k) : Nat)) (fun _ iv => len - (intOf iv).toNat)
  case atStart => exact ⟨0, Nat.zero_le _, rfl, congrArg (Value.int .u32) (not32 s hs)⟩
  case round =>
    obtain ⟨k, hk, rfl, rfl⟩ := hrel
    have hr : crcR (4294967295 - s) (zs.take k) < 4294967296 := crcR_lt _ (by omega) (fun x hx => hB.2.2.1 x (List.mem_of_mem_take hx))
    by_cases hlt : k < len
    · have hstep : crcR (4294967295 - s) (zs.take (k + 1)) = sh8 (crcR (4294967295 - s) (zs.take k) ^^^ zs[k]?.getD 0) := by
        rw [take_succ_getD zs k (by rw [hB.1]; exact hlt), crcR_snoc]
      have HS : Hid (_ = _) := hstep
      clear hstep
      have hx : zs[k]?.getD 0 < 256 := getD_mem_lt zs k 256 (by omega) hB.2.2.1
      obtain ⟨b, off, rfl, hb, hc⟩ := hB.pos (by omega)
      have hck := hc k hlt
      clear hc hb
      rw [List.getD_eq_getElem?_getD] at hck
      generalize zs[k]?.getD 0 = c at *
      generalize crcR (4294967295 - s) (zs.take k) = r at *
      have hX : Hid (_ = _) := xorb r c hr hx
      have hq0 : r ^^^ c < 4294967296 := xor_lt32 hr (by omega)
      go_wp2
      go_loop [5, 21] (fun rv iv => ∃ j : Nat, j ≤ 8 ∧ iv = .int .i64 j ∧ rv = .int .u32 (iter sh1 j (r ^^^ c) : Nat)) (fun _ iv => 8 - (intOf iv).toNat)
      case atStart => exact ⟨0, by omega, rfl, congrArg (Value.int .u32) hX.out⟩
      case round =>
        obtain ⟨j, hj, rfl, rfl⟩ := hrel
        have hq := iter1_lt j hq0
        have HJ : Hid (iter sh1 (j + 1) (r ^^^ c) = sh1 (iter sh1 j (r ^^^ c))) := rfl
        have H8 : Hid (iter sh1 8 (r ^^^ c) = sh8 (r ^^^ c)) := sh8_iter1 _
        by_cases hjl : j < 8
        · generalize iter sh1 j (r ^^^ c) = q at *
          have ha := and1 q hq
          have hs2 : q % 2 = 0 ∨ q % 2 = 1 := by omega
          rcases hs2 with hs2 | hs2
          · rw [hs2] at ha
            have HQ : Hid (_ = _) := hs2
            clear hs2
            go_wp2
            go_round
            case rel => exact ⟨j + 1, by omega, by go_num, congrArg (Value.int .u32) (by rw [HJ.out]; exact sh1_walk0 q HQ.out)⟩
            case measure => simp [intOf]; omega
          · rw [hs2] at ha
            have HQ : Hid (_ = _) := hs2
            clear hs2
            go_wp2
            go_round
            case rel => exact ⟨j + 1, by omega, by go_num, congrArg (Value.int .u32) (by rw [HJ.out]; exact sh1_walk1 q hq HQ.out)⟩
            case measure => simp [intOf]; omega
        · obtain rfl : j = 8 := by omega
          rw [H8.out]
          go_wp2
          go_round
          case rel => exact ⟨k + 1, by omega, by go_num, congrArg (Value.int .u32) (by rw [HS.out])⟩
          case measure => simp [intOf]; omega
    · go_wp2
      go_ret
      have e : zs.take k = zs := List.take_of_length_le (by rw [hB.1]; omega)
      rw [e] at hr ⊢
      exact ⟨congrArg (fun x => Ending.returned (Value.int .u32 x)) (not32 _ hr), rfl⟩

set_option maxHeartbeats 1000000 in
theorem refSum_any (a : Option Addr) (len cap : Nat) (zs : List Nat) (w : World) (hB : Bs w a len zs) :
    Calls Tryd.prog 57 #[.slice a len cap] w fun e w' => e = .returned (.int .u32 (crcM 0 zs : Nat)) ∧ w' = w := by
  go_enter Tryd.func57, Tryd.ntmps57
  go_wp2_with fail
  refine (refMore_any 0 a len cap zs _ (by omega) hB).mono ?_
  rintro e w' ⟨rfl, rfl⟩
  go_wp2
  go_ret
  exact ⟨rfl, rfl⟩
end Go.Proofs.YthhnpajaacfapaaDoor
