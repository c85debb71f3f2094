/- postings: a reader's short number. -/
import Derived.Test.YthmknpdhgfmogaaPgG
namespace Go.Proofs.Ythmknpdhgfmogaa
open Go.RowKit Go.Joins
set_option linter.unusedVariables false

/-- A short number off bytes, i bytes of it gone already: it, and how many bytes more. -/
def rdS : Nat → Nat → List Nat → Option (Nat × Nat)
  | _, _, [] => none
  | i, n, c :: t => if i = 5 then none else if c < 128 then some (n + c % 128 * 128 ^ i, i + 1) else rdS (i + 1) (n + c % 128 * 128 ^ i) t

/-- What a reader has: its bytes that are left, and whether it failed. -/
def RdI (B : Nat) (w : World) (r : Nat) (zs : List Nat) (f : Bool) : Prop := ∃ a len cap, w.heap[r]? = some (.cells #[.slice a len cap, .bool f] 85 (0, 0)) ∧ Bs w a len zs ∧ len ≤ cap ∧ cap ≤ maxLen ∧ ∀ x, a = some x → 0 < len → x.block < B

def Kr (r : Nat) (w w' : World) : Prop := w'.os = w.os ∧ w'.tape = w.tape ∧ w'.output = w.output ∧ w.heap.size ≤ w'.heap.size ∧ ∀ k, k < w.heap.size → k ≠ r → w'.heap[k]? = w.heap[k]?

/-- What a reader tells, and what is left. -/
def shortP (zs : List Nat) (f : Bool) : Nat × List Nat × Bool :=
  match rdS 0 0 zs with
  | some (n, k) => (n, zs.drop k, f)
  | none => (0, [], true)

theorem or_i64 (a b : Nat) (ha : a < 9223372036854775808) (hb : b < 9223372036854775808) : bits .or .i64 (a : Int) (b : Int) = ((a ||| b : Nat) : Int) := by
  have h64 : (2 : Nat) ^ IntKind.i64.bits = 18446744073709551616 := rfl
  unfold bits
  simp only [BitVec.ofInt_natCast, BitVec.toNat_or, BitVec.toNat_ofNat, h64, Nat.mod_eq_of_lt (show a < 18446744073709551616 by omega), Nat.mod_eq_of_lt (show b < 18446744073709551616 by omega)]
  have hor : a ||| b < 9223372036854775808 := Nat.or_lt_two_pow (n := 63) ha hb
  rw [IntKind.wrap_i64]
  omega

theorem and127 : ∀ c, c < 256 → c &&& 127 = c % 128 := by decide +kernel

theorem w64_nat (x : Nat) (h : x < 9223372036854775808) : wrap64 (x : Int) = (x : Int) := by unfold wrap64; omega

theorem pow7 (k : Nat) : (2 : Int) ^ (7 * k) = ((128 ^ k : Nat) : Int) := by
  rw [show (128 : Nat) = 2 ^ 7 from rfl, ← Nat.pow_mul]
  push_cast
  rfl

theorem or7 (n d k : Nat) (hn : n < 128 ^ k) : n ||| d * 128 ^ k = n + d * 128 ^ k := by
  have hp : (128 : Nat) ^ k = 2 ^ (7 * k) := by rw [show (128 : Nat) = 2 ^ 7 from rfl, ← Nat.pow_mul]
  rw [hp] at hn ⊢
  rw [Nat.or_comm, Nat.mul_comm, ← Nat.two_pow_add_eq_or_of_lt hn, Nat.add_comm]

/-- Seven bits more. -/
theorem seven (n c k : Nat) (hk : k ≤ 4) (hn : n < 128 ^ k) (hc : c < 256) : bits .or .i64 (n : Int) (wrap64 (wrap64 (bits .and .u8 (c : Int) 127) * 2 ^ (7 * k))) = ((n + c % 128 * 128 ^ k : Nat) : Int) ∧ n + c % 128 * 128 ^ k < 128 ^ (k + 1) := by
  have h1 : bits .and .u8 (c : Int) 127 = ((c % 128 : Nat) : Int) := by rw [← and127 c hc]; exact bits_and_u .u8 rfl c 127 hc (by decide)
  have hor := or7 n (c % 128) k hn
  have hpk : (128 : Nat) ^ k ≤ 128 ^ 4 := Nat.pow_le_pow_right (by decide) hk
  have h4 : (128 : Nat) ^ 4 = 268435456 := by decide
  obtain ⟨d, hd⟩ : ∃ d, d = c % 128 := ⟨_, rfl⟩
  have hd7 : d ≤ 127 := by omega
  rw [h1, pow7, Nat.pow_succ, ← hd]
  rw [← hd] at hor
  obtain ⟨P, hP⟩ : ∃ P, P = (128 : Nat) ^ k := ⟨_, rfl⟩
  rw [← hP] at hn hor hpk ⊢
  rw [h4] at hpk
  have hm2 : d * P ≤ 127 * P := Nat.mul_le_mul_right _ hd7
  obtain ⟨m, hm⟩ : ∃ m, m = d * P := ⟨_, rfl⟩
  rw [← hm] at hor hm2 ⊢
  have e : (d : Int) * (P : Int) = (m : Int) := by rw [hm]; push_cast; rfl
  have hm64 : m < 9223372036854775808 := by omega
  have hn64 : n < 9223372036854775808 := by omega
  rw [w64_nat d (by omega), e, w64_nat m hm64, or_i64 n m hn64 hm64, hor]
  exact ⟨rfl, by omega⟩

theorem bs_stay {w w' : World} {a : Option Addr} {len : Nat} {zs : List Nat} (h : Bs w a len zs) (hs : 0 < len → ∀ x, a = some x → w'.heap[x.block]? = w.heap[x.block]?) : Bs w' a len zs := by
  by_cases h0 : 0 < len
  · obtain ⟨b, off, rfl, hb, hc⟩ := h.pos h0
    refine ⟨h.1, h.2.1, h.2.2.1, h.2.2.2.1, fun x hx j hj => ?_⟩
    cases hx
    rw [add_none]
    exact (World.cell?_of_block (a := ⟨b, off + j, none⟩) (hs h0 ⟨b, off, none⟩ rfl)).trans (hc j hj)
  · exact ⟨h.1, h.2.1, h.2.2.1, h.2.2.2.1, fun x hx j hj => by omega⟩

theorem bs_drop {w : World} {b off len k : Nat} {zs : List Nat} (h : Bs w (some ⟨b, off, none⟩) len zs) (hk : k ≤ len) : Bs w (some ⟨b, off + k, none⟩) (len - k) (zs.drop k) := by
  obtain ⟨h1, h2, h3, h4, h5⟩ := h
  refine ⟨by rw [List.length_drop, h1], by omega, fun x hx => h3 x (List.mem_of_mem_drop hx), (fun e => by cases e), fun x hx j hj => ?_⟩
  cases hx
  have := h5 _ rfl (k + j) (by omega)
  rw [add_none] at this ⊢
  rw [Nat.add_assoc, this]
  simp only [List.getD_eq_getElem?_getD, List.getElem?_drop]

theorem Kr.refl (r : Nat) (w : World) : Kr r w w := ⟨rfl, rfl, rfl, Nat.le_refl _, fun _ _ _ => rfl⟩

theorem Kr.trans {r : Nat} {a b c : World} (h : Kr r a b) (k : Kr r b c) : Kr r a c :=
  ⟨k.1.trans h.1, k.2.1.trans h.2.1, k.2.2.1.trans h.2.2.1, Nat.le_trans h.2.2.2.1 k.2.2.2.1, fun i hi hn => (k.2.2.2.2 i (Nat.lt_of_lt_of_le hi h.2.2.2.1) hn).trans (h.2.2.2.2 i hi hn)⟩

theorem Kr.setCell {r : Nat} {a w : World} (h : Kr r a w) (o : Nat) (u : Value) : Kr r a (w.setCell ⟨r, o, none⟩ u) :=
  h.trans ⟨rfl, rfl, rfl, by simp [World.setCell], fun k _ hk => Below.heap_setCell _ _ _ _ hk⟩

/-- What a call of short leaves: it yields p's number. -/
def ShP (B : Nat) (w : World) (r : Nat) (p : Nat × List Nat × Bool) (e : Ending) (w' : World) : Prop := e = .returned (.int .i64 (p.1 : Int)) ∧ RdI B w' r p.2.1 p.2.2 ∧ Kr r w w'

theorem rd_cell {w : World} {r : Nat} {f : Bool} {a : Option Addr} {len cap : Nat} (h : w.heap[r]? = some (.cells #[.slice a len cap, .bool f] 85 (0, 0))) : w.cell? ⟨r, 0, none⟩ = some (.slice a len cap) ∧ w.cell? ⟨r, 1, none⟩ = some (.bool f) ∧ w.frozen? ⟨r, 0, none⟩ = false ∧ w.frozen? ⟨r, 1, none⟩ = false :=
  ⟨cell_of_row _ _ _ _ _ _ h, cell_of_row _ _ _ _ _ _ h, unfrozen_of_block h _, unfrozen_of_block h _⟩

theorem rd_fail {B : Nat} {w : World} {r : Nat} {f : Bool} {a : Option Addr} {len cap : Nat} (h : w.heap[r]? = some (.cells #[.slice a len cap, .bool f] 85 (0, 0))) (zs : List Nat) (hz : rdS 0 0 zs = none) :
    ShP B w r (shortP zs f) (.returned (.int .i64 0)) ((w.setCell ⟨r, 0, none⟩ (.slice none 0 0)).setCell ⟨r, 1, none⟩ (.bool true)) := by
  have e : shortP zs f = (0, [], true) := by unfold shortP; rw [hz]
  rw [e]
  refine ⟨rfl, ⟨none, 0, 0, ?_, Bs.nil _, Nat.le_refl _, Nat.zero_le _, fun x hx => by cases hx⟩, ((Kr.refl r w).setCell 0 _).setCell 1 _⟩
  exact block_setCell (block_setCell h (.slice none 0 0)) (.bool true)

theorem rd_ok {B : Nat} {w : World} {r : Nat} {f : Bool} {a : Option Addr} {len cap : Nat} (h : w.heap[r]? = some (.cells #[.slice a len cap, .bool f] 85 (0, 0))) {zs : List Nat} {m k l' : Nat} {a' : Option Addr} {cap' : Nat} (hz : shortP zs f = (m, zs.drop k, f)) (hB : Bs w a' l' (zs.drop k)) (hlc : l' ≤ cap') (hcm : cap' ≤ maxLen) (hne : ∀ x, a' = some x → 0 < l' → x.block < B) (hBr : B ≤ r) :
    ShP B w r (shortP zs f) (.returned (.int .i64 (m : Int))) (w.setCell ⟨r, 0, none⟩ (.slice a' l' cap')) := by
  rw [hz]
  exact ⟨rfl, ⟨a', l', cap', block_setCell h (.slice a' l' cap'), bs_stay hB (fun h0 x hx => Below.heap_setCell w ⟨r, 0, none⟩ _ _ (Nat.ne_of_lt (Nat.lt_of_lt_of_le (hne x hx h0) hBr))), hlc, hcm, hne⟩, (Kr.refl r w).setCell 0 _⟩

theorem bs_none {w : World} {b off l : Nat} {ys : List Nat} (hl : l = 0) (hy : ys.length = l) : Bs w (some ⟨b, off, none⟩) l ys := by
  subst hl
  obtain rfl : ys = [] := List.length_eq_zero_iff.1 hy
  exact ⟨rfl, Nat.zero_le _, (fun x hx => by cases hx), (fun e => by cases e), fun x hx j hj => by omega⟩

theorem rdS_some : ∀ (zs : List Nat) (i n : Nat) (m k : Nat), rdS i n zs = some (m, k) → i < k ∧ k ≤ i + zs.length
  | [], i, n, m, k, h => by cases h
  | c :: t, i, n, m, k, h => by
    unfold rdS at h
    split at h
    · cases h
    · split at h
      · cases h; simp
      · have := rdS_some t _ _ _ _ h
        simp; omega

theorem rdS_at {zs : List Nat} {k n c : Nat} (hk : k < zs.length) (hc : zs.getD k 0 = c) : rdS k n (zs.drop k) = if k = 5 then none else if c < 128 then some (n + c % 128 * 128 ^ k, k + 1) else rdS (k + 1) (n + c % 128 * 128 ^ k) (zs.drop (k + 1)) := by
  rw [zs_drop zs k hk, hc]
  rfl

set_option maxHeartbeats 4000000 in
set_option maxRecDepth 100000 in
theorem short_any (B : Nat) (w : World) (r : Nat) (zs : List Nat) (f : Bool) (h : RdI B w r zs f) (hBr : B ≤ r) :
    Calls Try.prog 55 #[.pointer (some ⟨r, 0, none⟩)] w (ShP B w r (shortP zs f)) := by
  obtain ⟨a, len, cap, hr, hB, hlc, hcm, hne⟩ := h
  obtain ⟨c0, c1, f0, f1⟩ := rd_cell hr
  have HL := hidn hB.1
  have HB := hidn hB
  have HRR := hidn hr
  have HNE := hidn hne
  have HF := hidn (rd_fail (B := B) hr zs)
  have f1b : (w.setCell ⟨r, 0, none⟩ (.slice none 0 0)).frozen? ⟨r, 1, none⟩ = false := unfrozen_of_block (block_setCell hr _) _
  have c1b : (w.setCell ⟨r, 0, none⟩ (.slice none 0 0)).cell? ⟨r, 1, none⟩ = some (.bool f) := cell_of_row _ _ _ _ _ _ (block_setCell hr (.slice none 0 0))
  clear hr hB hne
  go_enter Try.func55, Try.ntmps55
  go_wp2_with fail
  go_loopw [3, 11] (fun nv iv wr => ∃ (k n : Nat), k ≤ 5 ∧ k ≤ len ∧ nv = .int .i64 (n : Int) ∧ iv = .int .i64 (k : Int) ∧ n < 128 ^ k ∧ Hid (rdS 0 0 zs = rdS k n (zs.drop k)) ∧ Hid (wr = w)) (fun _ iv _ => len - (intOf iv).toNat)
  case atStart => exact ⟨0, 0, by omega, by omega, rfl, rfl, by decide, hidn rfl, hidn rfl⟩
  case round =>
    obtain ⟨k, n, hk5, hkl, rfl, rfl, hn, HR, HW⟩ := hrel
    have hw := HW.out
    subst hw
    by_cases hlt : k < len
    · have hlt2 : (k : Int) < (len : Int) := by omega
      obtain ⟨b, off, ea, hbl, hcs⟩ := HB.out.pos (by omega)
      subst ea
      have hck := hcs k hlt
      obtain ⟨c, hc⟩ : ∃ c, c = zs.getD k 0 := ⟨_, rfl⟩
      rw [← hc] at hck
      have hc256 : c < 256 := by rw [hc]; exact HB.out.2.2.1 _ (by rw [List.getD_eq_getElem?_getD, List.getElem?_eq_getElem (by rw [HL.out]; exact hlt)]; exact List.getElem_mem _)
      have hat := rdS_at (zs := zs) (n := n) (k := k) (by rw [HL.out]; exact hlt) hc.symm
      by_cases h5 : k = 5
      · have h5' : ((k : Int) == 5) = true := beq_iff_eq.2 (by omega)
        have HZ : Hid (rdS 0 0 zs = none) := hidn (by rw [HR.out, hat, if_pos h5])
        clear hc hcs hat hn h5
        go_wp2_with fail
        go_ret
        exact HF.out HZ.out
      · have h5' : ((k : Int) == 5) = false := beq_eq_false_iff_ne.2 (by omega)
        have hk4 : k ≤ 4 := by omega
        obtain ⟨hsv, hm⟩ := seven n c k hk4 hn hc256
        rw [if_neg h5] at hat
        obtain ⟨m, hme⟩ : ∃ m, m = n + c % 128 * 128 ^ k := ⟨_, rfl⟩
        rw [← hme] at hsv hm hat
        by_cases hc7 : c < 128
        · have hc7' : (c : Int) < 128 := by omega
          rw [if_pos hc7] at hat
          have HZ : Hid (shortP zs f = (m, zs.drop (k + 1), f)) := hidn (by unfold shortP; rw [HR.out, hat])
          have HBD := hidn (bs_drop (k := k + 1) HB.out (by omega))
          have t1 : (0 : Int) ≤ (k : Int) + 1 := by omega
          have t2 : (k : Int) + 1 ≤ (len : Int) := by omega
          clear hc hcs hat hn hme h5
          by_cases hcap : cap = k + 1
          · have HE : Hid (len = k + 1) := hidn (by omega)
            go_wp2_with fail
            go_ret
            exact rd_ok HRR.out HZ.out (bs_none (by omega) HBD.out.1) (by omega) (Nat.zero_le _) (fun x hx h0 => by omega) hBr
          · go_wp2_with fail
            go_ret
            exact rd_ok HRR.out HZ.out HBD.out (by omega) (by omega) (fun x hx h0 => by cases hx; exact HNE.out ⟨b, off, none⟩ rfl (by omega)) hBr
        · have hc7' : ¬ (c : Int) < 128 := by omega
          rw [if_neg hc7] at hat
          have HRN : Hid (rdS 0 0 zs = rdS (k + 1) m (zs.drop (k + 1))) := hidn (by rw [HR.out, hat])
          clear hc hcs hat hn hme h5
          go_wp2_with fail
          exact ⟨⟨k + 1, m, by omega, by omega, rfl, by first | rfl | simp, hm, HRN, hidn trivial⟩, by simp [intOf]; omega⟩
    · have hlt2 : ¬ (k : Int) < (len : Int) := by omega
      have HZ : Hid (rdS 0 0 zs = none) := hidn (by rw [HR.out, List.drop_of_length_le (by rw [HL.out]; omega)]; rfl)
      clear hn
      go_wp2_with fail
      go_ret
      exact HF.out HZ.out
end Go.Proofs.Ythmknpdhgfmogaa
