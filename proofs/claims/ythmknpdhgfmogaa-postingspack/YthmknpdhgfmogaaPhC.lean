/- postings: the document's take. -/
import Derived.Test.YthmknpdhgfmogaaPhB
namespace Go.Proofs.Ythmknpdhgfmogaa
open Go.RowKit Go.Joins
set_option linter.unusedVariables false

/-- What take tells. -/
def tkR (zs : List Nat) : Nat × List Nat × Bool :=
  match rdS 0 0 zs with
  | some (n, k) => (n, zs.drop k, decide (n ≤ 2147483648))
  | none => (0, [], false)

/-- What take leaves. -/
def TkP (B : Nat) (w : World) (zs : List Nat) (e : Ending) (w' : World) : Prop :=
  ∃ a l c, e = .returned (.tuple #[.int .i64 ((tkR zs).1 : Int), .slice a l c, .bool (tkR zs).2.2]) ∧ Bs w' a l (tkR zs).2.1 ∧ l ≤ c ∧ c ≤ maxLen ∧ Below w.heap.size w w' ∧ ∀ x, a = some x → 0 < l → x.block < B

theorem tk_fail {B : Nat} {w : World} {zs : List Nat} (h : rdS 0 0 zs = none) : TkP B w zs (.returned (.tuple #[.int .i64 0, .slice none 0 0, .bool false])) w := by
  have e : tkR zs = (0, [], false) := by unfold tkR; rw [h]
  refine ⟨none, 0, 0, by rw [e]; rfl, by rw [e]; exact Bs.nil _, Nat.le_refl _, Nat.zero_le _, Below.refl _ _, fun x hx => by cases hx⟩

theorem tk_ok {B : Nat} {w : World} {zs ys : List Nat} {m : Nat} {q : Bool} {a : Option Addr} {l c : Nat} (h : tkR zs = (m, ys, decide (m ≤ 2147483648))) (hq : q = decide (m ≤ 2147483648)) (hB : Bs w a l ys) (hlc : l ≤ c) (hcm : c ≤ maxLen) (hx : ∀ x, a = some x → 0 < l → x.block < B) : TkP B w zs (.returned (.tuple #[.int .i64 (m : Int), .slice a l c, .bool q])) w.drew := by
  refine ⟨a, l, c, by rw [h, hq], by rw [h]; exact hB.below ((Below.refl _ w).drew), hlc, hcm, (Below.refl _ w).drew, hx⟩

theorem tk_mul (d k : Nat) (hd : d < 128) (hk : k ≤ 4) : d * 128 ^ k < 34359738368 := by
  have h1 : (128 : Nat) ^ k ≤ 128 ^ 4 := Nat.pow_le_pow_right (by decide) hk
  have h2 : (128 : Nat) ^ 4 = 268435456 := by decide
  have h3 : d * 128 ^ k ≤ 127 * 128 ^ k := Nat.mul_le_mul_right _ (by omega)
  omega

set_option maxHeartbeats 4000000 in
set_option maxRecDepth 100000 in
theorem refTake_any (a : Option Addr) (len cap : Nat) (zs : List Nat) (w : World) (h : Bs w a len zs) (hlc : len ≤ cap) (hcm : cap ≤ maxLen) (B : Nat) (hxB : ∀ x, a = some x → 0 < len → x.block < B) :
    Calls Try.prog 42 #[.slice a len cap] w (TkP B w zs) := by
  have HL := hidn h.1
  have HB := hidn h
  have HXB := hidn hxB
  clear h hxB
  go_enter Try.func42, Try.ntmps42
  go_wp2_with fail
  go_loopw [5, 6, 7] (fun nv uv iv wr => ∃ (k n U : Nat), k ≤ 5 ∧ k ≤ len ∧ nv = .int .i64 (n : Int) ∧ uv = .int .i64 (U : Int) ∧ iv = .int .i64 (k : Int) ∧ Hid (n < 128 ^ k) ∧ Hid (U = 128 ^ k) ∧ Hid (rdS 0 0 zs = rdS k n (zs.drop k)) ∧ Hid (wr = w)) (fun _ _ iv _ => len - (intOf iv).toNat)
  case atStart => exact ⟨0, 0, 1, by omega, by omega, rfl, rfl, rfl, hidn (by decide), hidn rfl, hidn rfl, hidn rfl⟩
  case round =>
    obtain ⟨k, n, U, hk5, hkl, rfl, rfl, rfl, HN, HU, HR, HW⟩ := hrel
    have hw := HW.out
    subst hw
    by_cases hlt : k < len
    · have hlt2 : (k : Int) < (len : Int) := by omega
      obtain ⟨b, off, ea, hbl, hcs⟩ := HB.out.pos (by omega)
      subst ea
      have hck := hcs k hlt
      obtain ⟨c, hc⟩ : ∃ c, c = zs.getD k 0 := ⟨_, rfl⟩
      rw [← hc] at hck
      have hc256 : c < 256 := by rw [hc]; exact HB.out.2.2.1 _ (by rw [List.getD_eq_getElem?_getD, List.getElem?_eq_getElem (by rw [HL.out]; exact hlt)]; exact List.getElem_mem _)
      have hat := rdS_at (zs := zs) (n := n) (k := k) (by rw [HL.out]; exact hlt) hc.symm
      by_cases h5 : k = 5
      · have h5' : ¬ (k : Int) < 5 := by omega
        have HZ : Hid (rdS 0 0 zs = none) := hidn (by rw [HR.out, hat, if_pos h5])
        clear hc hcs hat h5
        go_wp2_with fail
        exact bodyPost_ret (v := .tuple #[.int .i64 0, .slice none 0 0, .bool false]) (by simp [results, Try.results42, go_sem]) rfl (tk_fail HZ.out)
      · have h5' : (k : Int) < 5 := by omega
        have hk4 : k ≤ 4 := by omega
        rw [if_neg h5] at hat
        obtain ⟨d, hd⟩ : ∃ d, d = c % 128 := ⟨_, rfl⟩
        have hd1 : (c : Int) % 128 = (d : Int) := by omega
        have hd7 : d < 128 := by omega
        obtain ⟨e, he⟩ : ∃ e, e = d * U := ⟨_, rfl⟩
        have he1 : (d : Int) * (U : Int) = (e : Int) := by rw [he]; push_cast; rfl
        have heb : e < 34359738368 := by rw [he, HU.out]; exact tk_mul d k hd7 hk4
        obtain ⟨m, hm⟩ : ∃ m, m = n + e := ⟨_, rfl⟩
        have hm1 : (n : Int) + (e : Int) = (m : Int) := by omega
        rw [← hd, ← HU.out, ← he, ← hm] at hat
        have hUb : U ≤ 268435456 := by
          rw [HU.out]
          have h1 : (128 : Nat) ^ k ≤ 128 ^ 4 := Nat.pow_le_pow_right (by decide) hk4
          have h2 : (128 : Nat) ^ 4 = 268435456 := by decide
          omega
        have hnb : n < 268435456 := by have := HN.out; rw [← HU.out] at this; omega
        have HM : Hid (m < 128 ^ (k + 1)) := hidn (by
          rw [Nat.pow_succ, ← HU.out, hm, he]
          have h1 := HN.out
          rw [← HU.out] at h1
          have h3 : d * U ≤ 127 * U := Nat.mul_le_mul_right _ (by omega)
          omega)
        by_cases hc7 : c < 128
        · have hc7' : (c : Int) < 128 := by omega
          rw [if_pos hc7] at hat
          have HZ : Hid (tkR zs = (m, zs.drop (k + 1), decide (m ≤ 2147483648))) := hidn (by unfold tkR; rw [HR.out, hat])
          have HBD := hidn (bs_drop (k := k + 1) HB.out (by omega))
          have t1 : (0 : Int) ≤ (k : Int) + 1 := by omega
          have t2 : (k : Int) + 1 ≤ (len : Int) := by omega
          have hmb : m < 34628173824 := by omega
          have HDEC : Hid (decide ((m : Int) ≤ 2147483648) = decide (m ≤ 2147483648)) := hidn (by congr 1; exact propext ⟨fun h => by omega, fun h => by omega⟩)
          clear hc hcs hat hd he hm h5
          by_cases hcap : cap = k + 1
          · have HE : Hid (len = k + 1) := hidn (by omega)
            go_wp2_with fail
            go_region
            go_wp2_with fail
            exact bodyPost_ret (v := .tuple #[.int .i64 (m : Int), .slice (some ⟨b, off, none⟩) (len - (k + 1)) 0, .bool (decide ((m : Int) ≤ 2147483648))]) (by simp [results, Try.results42, go_sem]) rfl (tk_ok HZ.out HDEC.out (bs_none (by omega) HBD.out.1) (by omega) (Nat.zero_le _) (fun x hx h0 => by omega))
          · go_wp2_with fail
            go_region
            go_wp2_with fail
            exact bodyPost_ret (v := .tuple #[.int .i64 (m : Int), .slice (some ⟨b, off + (k + 1), none⟩) (len - (k + 1)) (cap - (k + 1)), .bool (decide ((m : Int) ≤ 2147483648))]) (by simp [results, Try.results42, go_sem]) rfl (tk_ok HZ.out HDEC.out HBD.out (by omega) (by omega) (fun x hx h0 => by cases hx; exact HXB.out ⟨b, off, none⟩ rfl (by omega)))
        · have hc7' : ¬ (c : Int) < 128 := by omega
          rw [if_neg hc7] at hat
          have HRN : Hid (rdS 0 0 zs = rdS (k + 1) m (zs.drop (k + 1))) := hidn (by rw [HR.out, hat])
          obtain ⟨U2, hU2⟩ : ∃ U2, U2 = U * 128 := ⟨_, rfl⟩
          have hU21 : (U : Int) * 128 = (U2 : Int) := by omega
          have HU2 : Hid (U2 = 128 ^ (k + 1)) := hidn (by rw [hU2, HU.out, Nat.pow_succ])
          clear hc hcs hat hd he hm h5 hU2
          go_wp2_with fail
          exact ⟨⟨k + 1, m, U2, by omega, by omega, by first | rfl | simp, by first | rfl | simp, by first | rfl | simp, HM, HU2, HRN, hidn trivial⟩, by simp [intOf]; omega⟩
    · have hlt2 : ¬ (k : Int) < (len : Int) := by omega
      have HZ : Hid (rdS 0 0 zs = none) := hidn (by rw [HR.out, List.drop_of_length_le (by rw [HL.out]; omega)]; rfl)
      go_wp2_with fail
      exact bodyPost_ret (v := .tuple #[.int .i64 0, .slice none 0 0, .bool false]) (by simp [results, Try.results42, go_sem]) rfl (tk_fail HZ.out)

/-- Bytes that lie below a border. -/
def BsB (w : World) (B : Nat) (a : Option Addr) (l : Nat) (zs : List Nat) : Prop := Bs w a l zs ∧ ∀ x, a = some x → 0 < l → x.block < B

theorem BsB.bel {w w' : World} {B : Nat} {a : Option Addr} {l : Nat} {zs : List Nat} (h : BsB w B a l zs) (hb : Below B w w') : BsB w' B a l zs :=
  ⟨bs_stay h.1 (fun h0 x hx => hb.block _ (h.2 x hx h0)), h.2⟩
end Go.Proofs.Ythmknpdhgfmogaa
