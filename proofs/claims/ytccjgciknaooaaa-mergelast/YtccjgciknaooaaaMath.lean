/- Numbers of Go's kinds as plain numbers: what wraps and bits come to. -/
import Derived.WalkKit
import Derived.WalkLawsBesides
namespace Go.Proofs.Ytccjgciknaooaaa
open Go.RowKit
set_option linter.unusedVariables false

theorem wrap_u (k : IntKind) (hs : k.signed = false) (a : Nat) : k.wrap (a : Int) = ((a % 2 ^ k.bits : Nat) : Int) := by
  unfold IntKind.wrap
  simp [hs]
theorem wrap_u_lt (k : IntKind) (hs : k.signed = false) (a : Nat) (h : a < 2 ^ k.bits) : k.wrap (a : Int) = (a : Int) := by
  rw [wrap_u k hs, Nat.mod_eq_of_lt h]
theorem bits_or_u (k : IntKind) (hs : k.signed = false) (a b : Nat) (ha : a < 2 ^ k.bits) (hb : b < 2 ^ k.bits) : bits .or k (a : Int) (b : Int) = ((a ||| b : Nat) : Int) := by
  unfold bits
  simp only [BitVec.ofInt_natCast, BitVec.toNat_or, BitVec.toNat_ofNat, Nat.mod_eq_of_lt ha, Nat.mod_eq_of_lt hb]
  exact wrap_u_lt k hs _ (Nat.or_lt_two_pow ha hb)
theorem bits_and_u (k : IntKind) (hs : k.signed = false) (a b : Nat) (ha : a < 2 ^ k.bits) (hb : b < 2 ^ k.bits) : bits .and k (a : Int) (b : Int) = ((a &&& b : Nat) : Int) := by
  unfold bits
  simp only [BitVec.ofInt_natCast, BitVec.toNat_and, BitVec.toNat_ofNat, Nat.mod_eq_of_lt ha, Nat.mod_eq_of_lt hb]
  exact wrap_u_lt k hs _ (Nat.and_lt_two_pow _ hb)
theorem bits_xor_u (k : IntKind) (hs : k.signed = false) (a b : Nat) (ha : a < 2 ^ k.bits) (hb : b < 2 ^ k.bits) : bits .xor k (a : Int) (b : Int) = ((a ^^^ b : Nat) : Int) := by
  unfold bits
  simp only [BitVec.ofInt_natCast, BitVec.toNat_xor, BitVec.toNat_ofNat, Nat.mod_eq_of_lt ha, Nat.mod_eq_of_lt hb]
  exact wrap_u_lt k hs _ (Nat.xor_lt_two_pow ha hb)

/-- a number shifted up, and less than that below it: or is plus. -/
theorem shl_or (a c m : Nat) (h : c < 2 ^ m) : a * 2 ^ m ||| c = a * 2 ^ m + c := by
  rw [Nat.mul_comm]; exact (Nat.two_pow_add_eq_or_of_lt h a).symm

theorem or_byte_u64 (a c : Nat) (ha : a < 72057594037927936) (hc : c < 256) : bits .or .u64 (IntKind.u64.wrap ((a : Int) * 256)) (IntKind.u64.wrap (c : Int)) = ((a * 256 + c : Nat) : Int) := by
  have e1 : IntKind.u64.wrap ((a : Int) * 256) = ((a * 256 : Nat) : Int) := by
    rw [show ((a : Int) * 256) = ((a * 256 : Nat) : Int) from by omega]; exact wrap_u_lt .u64 rfl _ (by show a * 256 < 18446744073709551616; omega)
  have e2 : IntKind.u64.wrap (c : Int) = (c : Int) := wrap_u_lt .u64 rfl _ (by show c < 18446744073709551616; omega)
  rw [e1, e2, bits_or_u .u64 rfl _ _ (by show a * 256 < 18446744073709551616; omega) (by show c < 18446744073709551616; omega)]
  rw [show a * 256 = a * 2 ^ 8 from rfl, shl_or a c 8 hc]

def getB (a : Nat) (l : List Nat) : Nat := l.foldl (fun a x => a * 256 + x) a
def putB (n : Nat) : Nat → List Nat
  | 0 => []
  | k + 1 => putB (n / 256) k ++ [n % 256]
def vb (l : List Nat) : List Value := l.map fun (x : Nat) => Value.int .u8 (Int.ofNat x)

theorem getB_lt (l : List Nat) (h : ∀ x ∈ l, x < 256) : getB 0 l < 256 ^ l.length := by
  suffices H : ∀ (l : List Nat) (a p : Nat), (∀ x ∈ l, x < 256) → a < p → getB a l < p * 256 ^ l.length by
    have := H l 0 1 h (by omega); simpa using this
  intro l
  induction l with
  | nil => intro a p _ ha; simpa [getB] using ha
  | cons y t ih =>
    intro a p hl ha
    have hy := hl y (by simp)
    have := ih (a * 256 + y) (p * 256) (fun x hx => hl x (by simp [hx])) (by omega)
    simp only [getB, List.foldl_cons, List.length_cons] at this ⊢
    rw [Nat.pow_succ, Nat.mul_comm (256 ^ t.length) 256, ← Nat.mul_assoc]; exact this
theorem getB_snoc (l : List Nat) (x : Nat) : getB 0 (l ++ [x]) = getB 0 l * 256 + x := by simp [getB]
theorem pow_256_le (k : Nat) (h : k ≤ 7) : 256 ^ k ≤ 72057594037927936 := Nat.pow_le_pow_right (n := 256) (by omega) h
theorem getB_take_lt (l : List Nat) (k : Nat) (h : ∀ x ∈ l, x < 256) (hk : k ≤ 7) : getB 0 (l.take k) < 72057594037927936 := by
  have h1 := getB_lt (l.take k) (fun x hx => h x (List.mem_of_mem_take hx))
  have h2 := pow_256_le (l.take k).length (by simp; omega)
  omega
theorem take_succ_getD (l : List Nat) (k : Nat) (h : k < l.length) : l.take (k + 1) = l.take k ++ [l[k]?.getD 0] := by
  rw [List.take_succ_eq_append_getElem h]; simp [h]
theorem getD_mem_lt (l : List Nat) (k B : Nat) (hB : 0 < B) (h : ∀ x ∈ l, x < B) : l[k]?.getD 0 < B := by
  by_cases hk : k < l.length
  · simp [hk]; exact h _ (List.getElem_mem hk)
  · simp [List.getElem?_eq_none (by omega : l.length ≤ k)]; exact hB
/-- Get's round, in the walk's spelling. -/
theorem get_step (l : List Nat) (k : Nat) (hk : k < l.length) (h : ∀ x ∈ l, x < 256) (h8 : l.length ≤ 8) :
    bits BinOp.or IntKind.u64 (IntKind.u64.wrap (((getB 0 (List.take k l) : Nat) : Int) * 256)) (IntKind.u64.wrap ((l[k]?.getD 0 : Nat) : Int)) = ((getB 0 (l.take (k + 1)) : Nat) : Int) := by
  rw [or_byte_u64 _ _ (getB_take_lt l k h (by omega)) (getD_mem_lt l k 256 (by omega) h), take_succ_getD l k hk, getB_snoc]

theorem putB_length (k : Nat) : ∀ n, (putB n k).length = k := by
  induction k with
  | zero => intro n; rfl
  | succ k ih => intro n; simp [putB, ih]
theorem putB_lt (k : Nat) : ∀ n, ∀ x ∈ putB n k, x < 256 := by
  induction k with
  | zero => intro n x hx; simp [putB] at hx
  | succ k ih =>
    intro n x hx
    simp only [putB, List.mem_append, List.mem_singleton] at hx
    rcases hx with hx | rfl
    · exact ih _ x hx
    · exact Nat.mod_lt _ (by omega)
theorem getB_putB (k : Nat) : ∀ n, getB 0 (putB n k) = n % 256 ^ k := by
  induction k with
  | zero => intro n; simp [putB, getB, Nat.mod_one]
  | succ k ih =>
    intro n
    rw [putB, getB_snoc, ih, Nat.pow_succ, Nat.mul_comm (256 ^ k) 256, Nat.mod_mul, Nat.mul_comm, Nat.add_comm]
theorem put_set (m : Nat) (x : Nat) (suf : List Nat) : (List.replicate (m + 1) (Value.int .u8 0) ++ vb suf).set m (Value.int .u8 (x : Int)) = List.replicate m (Value.int .u8 0) ++ vb (x :: suf) := by
  rw [List.replicate_succ', List.append_assoc, List.set_append_right _ _ (by simp)]
  simp [vb]
theorem vb_getD (l : List Nat) (j : Nat) (h : j < l.length) : (vb l)[j]? = some (.int .u8 ((l.getD j 0 : Nat) : Int)) := by
  simp [vb, h]
theorem vb_set (zs : List Nat) (i y : Nat) : (vb zs).set i (.int .u8 (y : Int)) = vb (zs.set i y) := by
  simp only [vb, List.map_set]
  rfl
end Go.Proofs.Ytccjgciknaooaaa
