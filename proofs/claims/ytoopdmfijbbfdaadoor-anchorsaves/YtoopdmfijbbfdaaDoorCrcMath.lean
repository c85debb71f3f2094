/- The sum CRC-32C over plain numbers: a register's steps, that two at once are two, that no step loses anything. -/
import Derived.Test.YtoopdmfijbbfdaaDoorMath
namespace Go.Proofs.YtoopdmfijbbfdaaDoor
open Go.RowKit
set_option linter.unusedVariables false

def crcP : Nat := 2197175160
def sh1 (r : Nat) : Nat := (r / 2) ^^^ (if r % 2 = 1 then crcP else 0)
def crcT (s : Nat) : Nat := if s = 0 then 0 else if s = 1 then 1098587580 else if s = 2 then 2197175160 else 3280807620
def sh2 (r : Nat) : Nat := (r / 4) ^^^ crcT (r % 4)
def sh8 (r : Nat) : Nat := sh2 (sh2 (sh2 (sh2 r)))
def crcR (r : Nat) (zs : List Nat) : Nat := zs.foldl (fun r c => sh8 (r ^^^ c)) r
def crcM (s : Nat) (zs : List Nat) : Nat := 4294967295 - crcR (4294967295 - s) zs
def iter {α : Type} (f : α → α) : Nat → α → α
  | 0, x => x
  | n + 1, x => f (iter f n x)

theorem sh1_lt {r : Nat} (h : r < 4294967296) : sh1 r < 4294967296 := by
  unfold sh1
  refine Nat.xor_lt_two_pow (n := 32) (by omega) ?_
  unfold crcP; split <;> omega
theorem xor_half (a b : Nat) : (a ^^^ b) / 2 = a / 2 ^^^ b / 2 := Nat.xor_div_two
theorem xor_even (a b : Nat) : (a ^^^ b) % 2 = (a + b) % 2 := by
  have h := Nat.testBit_xor a b 0
  simp only [Nat.testBit_zero] at h
  generalize a ^^^ b = c at h ⊢
  have ha : a % 2 = 0 ∨ a % 2 = 1 := by omega
  have hb : b % 2 = 0 ∨ b % 2 = 1 := by omega
  rcases ha with ha | ha <;> rcases hb with hb | hb <;> simp [ha, hb] at h <;> omega
theorem sh2_eq (r : Nat) : sh2 r = sh1 (sh1 r) := by
  have hs : r % 4 = 0 ∨ r % 4 = 1 ∨ r % 4 = 2 ∨ r % 4 = 3 := by omega
  rcases hs with hs | hs | hs | hs
  · have e1 : r % 2 = 0 := by omega
    have e2 : r / 2 % 2 = 0 := by omega
    simp [sh2, sh1, hs, e1, e2, crcT, Nat.div_div_eq_div_mul]
  · have e1 : r % 2 = 1 := by omega
    have e2 : r / 2 % 2 = 0 := by omega
    simp only [sh2, sh1, hs, e1, crcT, crcP, xor_half, xor_even, Nat.div_div_eq_div_mul]
    have e3 : (r / 2 + 2197175160) % 2 = 0 := by omega
    simp [e3]
  · have e1 : r % 2 = 0 := by omega
    have e2 : r / 2 % 2 = 1 := by omega
    simp [sh2, sh1, hs, e1, e2, crcT, crcP, Nat.div_div_eq_div_mul]
  · have e1 : r % 2 = 1 := by omega
    have e2 : r / 2 % 2 = 1 := by omega
    simp only [sh2, sh1, hs, e1, crcT, crcP, xor_half, xor_even, Nat.div_div_eq_div_mul]
    have e3 : (r / 2 + 2197175160) % 2 = 1 := by omega
    simp [e3, Nat.xor_assoc]
theorem sh2_lt {r : Nat} (h : r < 4294967296) : sh2 r < 4294967296 := by rw [sh2_eq]; exact sh1_lt (sh1_lt h)
theorem sh8_lt {r : Nat} (h : r < 4294967296) : sh8 r < 4294967296 := sh2_lt (sh2_lt (sh2_lt (sh2_lt h)))
theorem iter2_lt (k : Nat) {r : Nat} (h : r < 4294967296) : iter sh2 k r < 4294967296 := by
  induction k with
  | zero => exact h
  | succ k ih => exact sh2_lt ih
theorem iter1_lt (k : Nat) {r : Nat} (h : r < 4294967296) : iter sh1 k r < 4294967296 := by
  induction k with
  | zero => exact h
  | succ k ih => exact sh1_lt ih
theorem sh8_iter (r : Nat) : iter sh2 4 r = sh8 r := rfl
theorem sh8_iter1 (r : Nat) : iter sh1 8 r = sh8 r := by simp [iter, sh8, sh2_eq]
theorem crcT_lt (s : Nat) : crcT s < 4294967296 := by unfold crcT; split; omega; split; omega; split <;> omega
theorem xor_lt32 {a b : Nat} (ha : a < 4294967296) (hb : b < 4294967296) : a ^^^ b < 4294967296 := Nat.xor_lt_two_pow (n := 32) ha hb
theorem crcR_lt (zs : List Nat) : ∀ {r : Nat}, r < 4294967296 → (∀ x ∈ zs, x < 256) → crcR r zs < 4294967296 := by
  induction zs with
  | nil => intro r h _; exact h
  | cons c t ih =>
    intro r h hz
    have hc : c < 256 := hz c (by simp)
    exact ih (sh8_lt (xor_lt32 h (by omega))) (fun x hx => hz x (by simp [hx]))
theorem crcR_snoc (r : Nat) (zs : List Nat) (c : Nat) : crcR r (zs ++ [c]) = sh8 (crcR r zs ^^^ c) := by simp [crcR]
theorem crcR_append (r : Nat) (xs ys : List Nat) : crcR r (xs ++ ys) = crcR (crcR r xs) ys := by simp [crcR]
theorem crcM_lt (s : Nat) (zs : List Nat) : crcM s zs < 4294967296 := by unfold crcM; omega
theorem crcM_append (xs ys : List Nat) (hx : ∀ x ∈ xs, x < 256) : crcM (crcM 0 xs) ys = crcM 0 (xs ++ ys) := by
  unfold crcM
  have := crcR_lt xs (r := 4294967295 - 0) (by omega) hx
  rw [crcR_append]
  congr 2
  omega

/-- No step loses anything. -/
theorem sh1_inj {a b : Nat} (ha : a < 4294967296) (hb : b < 4294967296) (h : sh1 a = sh1 b) : a = b := by
  unfold sh1 at h
  have ta : (a / 2).testBit 31 = false := Nat.testBit_lt_two_pow (by omega)
  have tb : (b / 2).testBit 31 = false := Nat.testBit_lt_two_pow (by omega)
  have tP : crcP.testBit 31 = true := by decide
  have h31 := congrArg (fun x => x.testBit 31) h
  simp only [Nat.testBit_xor, ta, tb] at h31
  have ra : a % 2 = 0 ∨ a % 2 = 1 := by omega
  have rb : b % 2 = 0 ∨ b % 2 = 1 := by omega
  rcases ra with ra | ra <;> rcases rb with rb | rb <;> simp [ra, rb, tP] at h31 h
  · omega
  · have := congrArg (fun x => x ^^^ crcP) h
    simp [Nat.xor_assoc] at this
    omega
theorem sh2_inj {a b : Nat} (ha : a < 4294967296) (hb : b < 4294967296) (h : sh2 a = sh2 b) : a = b := by
  rw [sh2_eq, sh2_eq] at h
  exact sh1_inj ha hb (sh1_inj (sh1_lt ha) (sh1_lt hb) h)
theorem sh8_inj {a b : Nat} (ha : a < 4294967296) (hb : b < 4294967296) (h : sh8 a = sh8 b) : a = b :=
  sh2_inj ha hb (sh2_inj (sh2_lt ha) (sh2_lt hb) (sh2_inj (sh2_lt (sh2_lt ha)) (sh2_lt (sh2_lt hb)) (sh2_inj (sh2_lt (sh2_lt (sh2_lt ha))) (sh2_lt (sh2_lt (sh2_lt hb))) h)))
theorem xor_cancel_right {a b c : Nat} (h : a ^^^ c = b ^^^ c) : a = b := by
  have := congrArg (fun x => x ^^^ c) h
  simpa [Nat.xor_assoc] using this
theorem xor_cancel_left {a b c : Nat} (h : c ^^^ a = c ^^^ b) : a = b := by
  rw [Nat.xor_comm c a, Nat.xor_comm c b] at h; exact xor_cancel_right h
theorem crcR_inj (zs : List Nat) (hz : ∀ x ∈ zs, x < 256) : ∀ {a b : Nat}, a < 4294967296 → b < 4294967296 → crcR a zs = crcR b zs → a = b := by
  induction zs with
  | nil => intro a b _ _ h; exact h
  | cons c t ih =>
    intro a b ha hb h
    have hc : c < 256 := hz c (by simp)
    have h1 := ih (fun x hx => hz x (by simp [hx])) (sh8_lt (xor_lt32 ha (b := c) (by omega))) (sh8_lt (xor_lt32 hb (b := c) (by omega))) h
    exact xor_cancel_right (sh8_inj (xor_lt32 ha (by omega)) (xor_lt32 hb (by omega)) h1)
/-- Two texts that are as long and part in one byte alone have unlike sums. -/
theorem crcM_tells (zs : List Nat) (i y : Nat) (hz : ∀ x ∈ zs, x < 256) (hi : i < zs.length) (hy : y < 256) (hne : y ≠ zs.getD i 0) : crcM 0 (zs.set i y) ≠ crcM 0 zs := by
  have hsplit : zs = zs.take i ++ zs.getD i 0 :: zs.drop (i + 1) := by
    simp [hi]
  have hset : zs.set i y = zs.take i ++ y :: zs.drop (i + 1) := List.set_eq_take_append_cons_drop .. |>.trans (by simp [hi])
  have hx0 : zs.getD i 0 < 256 := by
    have : zs.getD i 0 = zs[i] := by simp [hi]
    rw [this]; exact hz _ (List.getElem_mem hi)
  have hpre : ∀ x ∈ zs.take i, x < 256 := fun x hx => hz x (List.mem_of_mem_take hx)
  have hpost : ∀ x ∈ zs.drop (i + 1), x < 256 := fun x hx => hz x (List.mem_of_mem_drop hx)
  generalize zs.getD i 0 = x0 at *
  generalize zs.take i = pre at *
  generalize zs.drop (i + 1) = post at *
  rw [hset, hsplit]
  unfold crcM
  have hr : crcR (4294967295 - 0) pre < 4294967296 := crcR_lt pre (by omega) hpre
  have e : ∀ c, crcR (4294967295 - 0) (pre ++ c :: post) = crcR (sh8 (crcR (4294967295 - 0) pre ^^^ c)) post := by
    intro c; rw [crcR_append]; rfl
  rw [e, e]
  generalize crcR (4294967295 - 0) pre = r at *
  intro h
  have l1 := crcR_lt post (sh8_lt (xor_lt32 hr (b := y) (by omega))) hpost
  have l2 := crcR_lt post (sh8_lt (xor_lt32 hr (b := x0) (by omega))) hpost
  have h1 : crcR (sh8 (r ^^^ y)) post = crcR (sh8 (r ^^^ x0)) post := by omega
  have h2 := crcR_inj post hpost (sh8_lt (xor_lt32 hr (by omega))) (sh8_lt (xor_lt32 hr (by omega))) h1
  have h3 := sh8_inj (xor_lt32 hr (by omega)) (xor_lt32 hr (by omega)) h2
  exact hne (xor_cancel_left h3)
end Go.Proofs.YtoopdmfijbbfdaaDoor
