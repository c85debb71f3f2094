/- Samples in bits, read one by one: what each is, and that there is no other. -/
import Derived.Test.YtfgfkifdokeefaaDoorMd
import Derived.Test.YtfgfkifdokeefaaDoorCodE
namespace Go.Proofs.YtfgfkifdokeefaaDoor.Cd
open Go.RowKit
set_option linter.unusedVariables false

def bodyTo (l : List Sam) : Nat → List Bool
  | 0 => []
  | k + 1 => bodyTo l k ++ encOne l k

theorem encTo_body (l : List Sam) : ∀ k, encTo l k = lowBits l.length 16 ++ bodyTo l k := by
  intro k
  induction k with
  | zero => simp [encTo, bodyTo]
  | succ k ih => rw [encTo_succ, ih, List.append_assoc]; rfl

def SamsOK (l : List Sam) : Prop := ∀ i, SamOK (samD l i)

theorem samD_take {m : List Sam} {k i : Nat} (hi : i < k) : samD (m.take k) i = samD m i := by
  simp [samD, List.getD_eq_getElem?_getD, hi]

theorem samD_app_lt {l : List Sam} {s : Sam} {i : Nat} (hi : i < l.length) : samD (l ++ [s]) i = samD l i := by
  simp [samD, List.getD_eq_getElem?_getD, List.getElem?_append_left hi]

theorem samD_app_at (l : List Sam) (s : Sam) : samD (l ++ [s]) l.length = s := by
  simp [samD, List.getD_eq_getElem?_getD]

/-- One sample's bits, behind the one ahead and its difference. -/
def oneOf (first : Bool) (a : Sam) (st : Int) (s : Sam) : List Bool :=
  if first = true then lowBits (u64 s.t) 64 ++ lowBits s.v 64 else intBits (wrap64 (wrap64 (s.t - a.t) - st)) ++ turned (s.v ^^^ a.v)

theorem encOne_oneOf (m : List Sam) (k : Nat) : encOne m k = oneOf (decide (k = 0)) (aheadS m k) (pstepS m k) (samD m k) := by
  cases k with
  | zero => rfl
  | succ k => rfl

theorem same_ahead {l m : List Sam} {k : Nat} (h : ∀ i, i < k → samD m i = samD l i) : aheadS m k = aheadS l k ∧ pstepS m k = pstepS l k := by
  cases k with
  | zero => exact ⟨rfl, rfl⟩
  | succ k =>
    refine ⟨h k (by omega), ?_⟩
    cases k with
    | zero => rfl
    | succ k =>
      show wrap64 ((samD m (k + 1)).t - (samD m k).t) = wrap64 ((samD l (k + 1)).t - (samD l k).t)
      rw [h (k + 1) (by omega), h k (by omega)]

theorem same_body {l m : List Sam} : ∀ {k : Nat}, (∀ i, i < k → samD m i = samD l i) → bodyTo m k = bodyTo l k := by
  intro k
  induction k with
  | zero => intro _; rfl
  | succ k ih =>
    intro h
    obtain ⟨e1, e2⟩ := same_ahead (l := l) (m := m) (k := k) (fun i hi => h i (by omega))
    show bodyTo m k ++ encOne m k = bodyTo l k ++ encOne l k
    rw [ih (fun i hi => h i (by omega)), encOne_oneOf, encOne_oneOf, e1, e2, h k (by omega)]

theorem body_app (l : List Sam) (s : Sam) : bodyTo (l ++ [s]) (l.length + 1) = bodyTo l l.length ++ oneOf (decide (l.length = 0)) (aheadS l l.length) (pstepS l l.length) s := by
  have h : ∀ i, i < l.length → samD (l ++ [s]) i = samD l i := fun i hi => samD_app_lt hi
  obtain ⟨e1, e2⟩ := same_ahead h
  show bodyTo (l ++ [s]) l.length ++ encOne (l ++ [s]) l.length = _
  rw [same_body h, encOne_oneOf, e1, e2, samD_app_at]

theorem body_more (m : List Sam) (k : Nat) : ∀ d, ∃ R, bodyTo m (k + d) = bodyTo m k ++ R := by
  intro d
  induction d with
  | zero => exact ⟨[], by simp⟩
  | succ d ih =>
    obtain ⟨R, hR⟩ := ih
    exact ⟨R ++ encOne m (k + d), by show bodyTo m (k + d) ++ encOne m (k + d) = _; rw [hR, List.append_assoc]⟩

theorem at_body_le {zs : List Nat} {N q k n : Nat} {m : List Sam} (h : At zs N q (bodyTo m n)) (hk : k ≤ n) : At zs N q (bodyTo m k) := by
  obtain ⟨R, hR⟩ := body_more m k (n - k)
  rw [show k + (n - k) = n from by omega] at hR
  rw [hR] at h
  exact (at_app.1 h).1

/-- There is no other list of samples with these bits. -/
def Uniq (zs : List Nat) (N : Nat) (l : List Sam) : Prop := ∀ m, SamsOK m → riseS m → l.length ≤ m.length → At zs N 0 (bodyTo m l.length) → m.take l.length = l

theorem uniq_nil (zs : List Nat) (N : Nat) : Uniq zs N [] := fun m _ _ _ _ => by simp

theorem uniq_one {zs : List Nat} {N : Nat} {l m : List Sam} (hU : Uniq zs N l) (hm : SamsOK m) (hr : riseS m) (hl : l.length < m.length) (h : At zs N 0 (bodyTo m (l.length + 1))) :
    m.take l.length = l ∧ At zs N (bodyTo l l.length).length (oneOf (decide (l.length = 0)) (aheadS l l.length) (pstepS l l.length) (samD m l.length)) := by
  have e := hU m hm hr (by omega) (at_body_le h (by omega))
  have hs : ∀ i, i < l.length → samD m i = samD l i := fun i hi => by rw [← samD_take (m := m) hi, e]
  obtain ⟨e1, e2⟩ := same_ahead hs
  refine ⟨e, ?_⟩
  have h1 : At zs N 0 (bodyTo m l.length ++ encOne m l.length) := h
  have h2 := (at_app.1 h1).2
  rw [same_body hs, Nat.zero_add, encOne_oneOf, e1, e2] at h2
  exact h2

theorem uniq_snoc {zs : List Nat} {N : Nat} {l : List Sam} {s : Sam} (hU : Uniq zs N l) (hs : ∀ s', SamOK s' → At zs N (bodyTo l l.length).length (oneOf (decide (l.length = 0)) (aheadS l l.length) (pstepS l l.length) s') → s' = s) : Uniq zs N (l ++ [s]) := by
  intro m hm hr hl h
  rw [List.length_append, List.length_singleton] at hl h ⊢
  obtain ⟨e, h2⟩ := uniq_one hU hm hr (by omega) h
  have := hs _ (hm l.length) h2
  have hlt : l.length < m.length := by omega
  rw [List.take_succ_eq_append_getElem hlt, e]
  congr 2
  rw [← this]
  simp [samD, List.getD_eq_getElem?_getD, hlt]

/-- What lies behind cannot be a list of samples. -/
theorem uniq_none {zs : List Nat} {N n : Nat} {l : List Sam} (hU : Uniq zs N l) (hn : l.length < n) (hs : ∀ s', SamOK s' → (l.length ≠ 0 → (aheadS l l.length).t < s'.t) → ¬ At zs N (bodyTo l l.length).length (oneOf (decide (l.length = 0)) (aheadS l l.length) (pstepS l l.length) s')) :
    ∀ m, SamsOK m → riseS m → m.length = n → ¬ At zs N 0 (bodyTo m n) := by
  intro m hm hr hl h
  obtain ⟨e, h2⟩ := uniq_one hU hm hr (by omega) (at_body_le h (by omega))
  refine hs _ (hm l.length) (fun h0 => ?_) h2
  obtain ⟨k, hk⟩ : ∃ k, l.length = k + 1 := ⟨l.length - 1, by omega⟩
  rw [hk]
  show (samD l k).t < (samD m (k + 1)).t
  have h3 := hr k (by omega)
  have h4 : samD m k = samD l k := by rw [← samD_take (m := m) (k := l.length) (by omega), e]
  rw [← h4]; exact h3

theorem u64_nat (t : Int) : (u64 t : Int) = t % 18446744073709551616 := u64_of t

theorem first_uniq {zs : List Nat} {N q : Nat} {a : Sam} {st : Int} {s : Sam} (hs : SamOK s) (h : At zs N q (oneOf true a st s)) : q + 128 ≤ N ∧ s = ⟨wrap64 (numOf (win zs q 64) : Nat), numOf (win zs (q + 64) 64)⟩ := by
  have h0 : At zs N q (lowBits (u64 s.t) 64 ++ lowBits s.v 64) := h
  obtain ⟨h1, h2⟩ := at_app.1 h0
  rw [lowBits_length] at h2
  have e1 := at_low h1
  have e2 := at_low h2
  rw [Nat.mod_eq_of_lt (u64_lt _)] at e1
  rw [Nat.mod_eq_of_lt (by exact hs.2.2)] at e2
  refine ⟨by omega, ?_⟩
  rw [e1.2, e2.2, u64_nat]
  obtain ⟨t, v⟩ := s
  have := hs.1
  have := hs.2.1
  simp only at *
  congr 1
  unfold wrap64; omega

theorem first_at {zs : List Nat} {N q : Nat} {a : Sam} {st : Int} (hf : q + 128 ≤ N) : At zs N q (oneOf true a st ⟨wrap64 (numOf (win zs q 64) : Nat), numOf (win zs (q + 64) 64)⟩) := by
  show At zs N q (lowBits (u64 (wrap64 (numOf (win zs q 64) : Nat))) 64 ++ lowBits (numOf (win zs (q + 64) 64)) 64)
  have hl := numOf_lt (win zs q 64)
  rw [win_length] at hl
  have e : u64 (wrap64 (numOf (win zs q 64) : Nat)) = numOf (win zs q 64) := by
    have := u64_nat (wrap64 (numOf (win zs q 64) : Nat))
    unfold wrap64 at *
    omega
  rw [e]
  refine at_app.2 ⟨at_of_low rfl (by omega), ?_⟩
  rw [lowBits_length]
  exact at_of_low rfl (by omega)

theorem turned_uniq {zs : List Nat} {N q x y : Nat} (hx : x < 18446744073709551616) (hy : y < 18446744073709551616) (h1 : At zs N q (turned x)) (h2 : At zs N q (turned y)) : x = y := by
  have b1 := numOf_lt (win zs q 1)
  rw [win_length] at b1
  have bit : ∀ z, At zs N q (turned z) → (z = 0 ↔ numOf (win zs q 1) = 0) := by
    intro z hz
    by_cases h0 : z = 0
    · subst h0
      rw [turned_zero] at hz
      have := (at_low hz).2
      simp only [true_iff]
      rw [this]
    · rw [turned_some z h0] at hz
      have := (at_low (at_app.1 hz).1).2
      rw [this]
      simp [h0]
  by_cases hb : numOf (win zs q 1) = 0
  · rw [(bit x h1).2 hb, (bit y h2).2 hb]
  · have hb1 : numOf (win zs q 1) = 1 := by omega
    obtain ⟨h', c', t', e1, e2, e3, e4, e5, e6, e7, e8⟩ := tu_must hb1 hx h1
    obtain ⟨h'', c'', t'', g1, g2, g3, g4, g5, g6, g7, g8⟩ := tu_must hb1 hy h2
    have k1 : h' = h'' := e1.symm.trans g1
    have k2 : c' = c'' := e2.symm.trans g2
    subst k1 k2
    have k3 : t' = t'' := e4.symm.trans g4
    rw [e8, g8, k3]

theorem int_uniq {zs : List Nat} {N q : Nat} {u v : Int} (hcan : canB zs N = true) (hu0 : -9223372036854775808 ≤ u) (hu1 : u ≤ 9223372036854775807) (hv0 : -9223372036854775808 ≤ v) (hv1 : v ≤ 9223372036854775807) (h1 : At zs N q (intBits u)) (h2 : At zs N q (intBits v)) : u = v :=
  ((ti_full hcan hu0 hu1 h1).unique (ti_full hcan hv0 hv1 h2)).1

theorem wrap64_rng (n : Int) : -9223372036854775808 ≤ wrap64 n ∧ wrap64 n ≤ 9223372036854775807 := by unfold wrap64; omega

/-- A further sample: it is what was read. -/
theorem next_at {zs : List Nat} {N q x : Nat} {a : Sam} {st d : Int} (ha : SamOK a) (hst : -9223372036854775808 ≤ st ∧ st ≤ 9223372036854775807) (hd : -9223372036854775808 ≤ d ∧ d ≤ 9223372036854775807) (h1 : At zs N q (intBits d)) (hx : x < 18446744073709551616) (h2 : At zs N (q + intLen d) (turned x)) :
    At zs N q (oneOf false a st ⟨wrap64 (a.t + wrap64 (st + d)), a.v ^^^ x⟩) := by
  show At zs N q (intBits (wrap64 (wrap64 (wrap64 (a.t + wrap64 (st + d)) - a.t) - st)) ++ turned ((a.v ^^^ x) ^^^ a.v))
  have e1 : wrap64 (wrap64 (wrap64 (a.t + wrap64 (st + d)) - a.t) - st) = d := by
    have := ha.1
    have := ha.2.1
    unfold wrap64; omega
  have e2 : (a.v ^^^ x) ^^^ a.v = x := by rw [Nat.xor_comm a.v x, Nat.xor_assoc, Nat.xor_self, Nat.xor_zero]
  rw [e1, e2]
  refine at_app.2 ⟨h1, ?_⟩
  rw [intBits_length]
  exact h2

theorem next_uniq {zs : List Nat} {N q : Nat} {a : Sam} {st : Int} {s : Sam} (ha : SamOK a) (hst : -9223372036854775808 ≤ st ∧ st ≤ 9223372036854775807) (hs : SamOK s) (h : At zs N q (oneOf false a st s)) :
    ∃ d x, (-9223372036854775808 ≤ d ∧ d ≤ 9223372036854775807) ∧ x < 18446744073709551616 ∧ At zs N q (intBits d) ∧ At zs N (q + intLen d) (turned x) ∧ s = ⟨wrap64 (a.t + wrap64 (st + d)), a.v ^^^ x⟩ := by
  have h0 : At zs N q (intBits (wrap64 (wrap64 (s.t - a.t) - st)) ++ turned (s.v ^^^ a.v)) := h
  obtain ⟨h1, h2⟩ := at_app.1 h0
  rw [intBits_length] at h2
  refine ⟨_, _, wrap64_rng _, Nat.xor_lt_two_pow (n := 64) hs.2.2 ha.2.2, h1, h2, ?_⟩
  obtain ⟨t, v⟩ := s
  have e2 : a.v ^^^ (v ^^^ a.v) = v := by rw [Nat.xor_comm v a.v, ← Nat.xor_assoc, Nat.xor_self, Nat.zero_xor]
  have := hs.1
  have := hs.2.1
  have := ha.1
  have := ha.2.1
  simp only at *
  rw [e2]
  congr 1
  unfold wrap64; omega

end Go.Proofs.YtfgfkifdokeefaaDoor.Cd
