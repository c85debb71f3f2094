/- Numbers in bits, read: what stands at a place, and what taking answers there. -/
import Derived.Test.YtfgfkifdokeefaaDoorCodZ
namespace Go.Proofs.YtfgfkifdokeefaaDoor.Cd
open Go.RowKit
set_option linter.unusedVariables false

theorem numOf_cons (b : Bool) (l : List Bool) : numOf (b :: l) = b.toNat * 2 ^ l.length + numOf l := by
  suffices H : ∀ (l : List Bool) (a : Nat), l.foldl (fun n b => n * 2 + b.toNat) a = a * 2 ^ l.length + numOf l by
    have := H l b.toNat
    simpa [numOf] using this
  intro l
  induction l with
  | nil => intro a; simp [numOf]
  | cons c t ih =>
    intro a
    simp only [List.foldl_cons, List.length_cons, numOf]
    rw [ih, ih (0 * 2 + c.toNat), Nat.pow_succ, Nat.add_mul]
    simp only [Nat.zero_mul, Nat.zero_add]
    rw [Nat.mul_comm (2 ^ t.length) 2, ← Nat.mul_assoc]
    omega

theorem numOf_inj : ∀ (l l' : List Bool), l.length = l'.length → numOf l = numOf l' → l = l' := by
  intro l
  induction l with
  | nil => intro l' h _; cases l' with
    | nil => rfl
    | cons _ _ => simp at h
  | cons b t ih =>
    intro l' hl h
    cases l' with
    | nil => simp at hl
    | cons b' t' =>
      simp at hl
      rw [numOf_cons, numOf_cons, hl] at h
      have h1 := numOf_lt t
      have h2 := numOf_lt t'
      rw [hl] at h1
      have hb : b = b' := by
        cases b <;> cases b' <;> simp at h ⊢ <;> omega
      subst hb
      rw [ih t' hl (by omega)]

theorem sgn_u64 (word k : Nat) (hk : k ≤ 4) (hw : word < 2 ^ clsWidth k) : u64 (sgn word (clsWidth k)) % 2 ^ clsWidth k = word := by
  have hu := u64_of (sgn word (clsWidth k))
  generalize u64 (sgn word (clsWidth k)) = u at hu ⊢
  have hk5 : k = 0 ∨ k = 1 ∨ k = 2 ∨ k = 3 ∨ k = 4 := by omega
  rcases hk5 with rfl | rfl | rfl | rfl | rfl
  · rw [show clsWidth 0 = 0 from rfl] at *
    omega
  · rw [show clsWidth 1 = 7 from rfl] at *
    unfold sgn at hu
    split at hu <;> simp only [Int.reducePow, Nat.reducePow] at * <;> omega
  · rw [show clsWidth 2 = 12 from rfl] at *
    unfold sgn at hu
    split at hu <;> simp only [Int.reducePow, Nat.reducePow] at * <;> omega
  · rw [show clsWidth 3 = 32 from rfl] at *
    unfold sgn at hu
    split at hu <;> simp only [Int.reducePow, Nat.reducePow] at * <;> omega
  · rw [show clsWidth 4 = 64 from rfl] at *
    unfold sgn at hu
    split at hu <;> simp only [Int.reducePow, Nat.reducePow] at * <;> omega

theorem ti_err {zs : List Nat} {x at_ v to e : Int} (h : TI zs x at_ v to e) (he : e ≠ 0) : v = 0 ∧ to = 0 := by
  rcases h with ⟨_, rfl, rfl, _⟩ | ⟨_, k, er, _, ⟨_, rfl, rfl, _⟩ | ⟨_, ⟨_, rfl, rfl, _⟩ | ⟨_, ⟨_, rfl, rfl, _⟩ | ⟨_, _, _, rfl⟩⟩⟩⟩
  · exact ⟨rfl, rfl⟩
  · exact ⟨rfl, rfl⟩
  · exact ⟨rfl, rfl⟩
  · exact ⟨rfl, rfl⟩
  · exact absurd rfl he

theorem ti_bits {zs : List Nat} {n q : Nat} {v to : Int} (h : TI zs n q v to 0) : to = ((q + intLen v : Nat) : Int) ∧ q + intLen v ≤ n ∧ (-9223372036854775808 ≤ v ∧ v ≤ 9223372036854775807) ∧ ∀ i, i < intLen v → bitAt zs (q + i) = (intBits v).getD i false := by
  rcases h with ⟨_, _, _, h⟩ | ⟨_, k, er, hc, ⟨hne, _, _, h⟩ | ⟨rfl, ⟨_, _, _, h⟩ | ⟨hf, ⟨_, _, _, h⟩ | ⟨hcl, hv, hto, _⟩⟩⟩⟩
  · cases h
  · exact absurd h.symm hne
  · cases h
  · cases h
  · rw [Int.toNat_natCast, Int.toNat_natCast] at hc hf
    rw [Int.toNat_natCast] at hcl hv hto
    have hk4 := hc.marks.1
    have hwl : numOf (win zs (q + clsMarks k) (clsWidth k)) < 2 ^ clsWidth k := by
      have := numOf_lt (win zs (q + clsMarks k) (clsWidth k)); rwa [win_length] at this
    have hb := sgn_bounds _ k hk4 hwl
    have hsu := sgn_u64 _ k hk4 hwl
    rw [← hv] at hcl hb hsu
    subst hcl
    have hil : intLen v = clsMarks (cls v) + clsWidth (cls v) := rfl
    refine ⟨by rw [hto, hil, Nat.add_assoc], by omega, hb, fun i hi => ?_⟩
    unfold intBits
    rw [getD_app, lowBits_length]
    by_cases h1 : i < clsMarks (cls v)
    · rw [if_pos h1]
      obtain ⟨m1, m2, m3, m4⟩ := marks_ones (cls v) hk4
      rcases hc with ⟨_, _, ho, hz⟩ | ⟨hh, _⟩
      · by_cases hik : i < cls v
        · rw [m1 i hik]; exact (ho i hik).2
        · have hk : cls v < 4 := by
            by_cases hk : cls v < 4
            · exact hk
            · have := m4 (by omega); omega
          have hik2 : i = cls v := by have := m3 hk; omega
          rw [hik2, m2 hk]; exact (hz hk).2
      · cases hh
    · rw [if_neg h1]
      have hwin : win zs (q + clsMarks (cls v)) (clsWidth (cls v)) = lowBits (u64 v) (clsWidth (cls v)) :=
        numOf_inj _ _ (by rw [win_length, lowBits_length]) (by rw [numOf_lowBits]; exact hsu.symm)
      rw [← hwin]
      have : q + i = q + clsMarks (cls v) + (i - clsMarks (cls v)) := by omega
      rw [this]
      simp [win, show i - clsMarks (cls v) < clsWidth (cls v) from by omega]

/-- The bits L stand at the place q. -/
def At (zs : List Nat) (n q : Nat) (L : List Bool) : Prop := q + L.length ≤ n ∧ ∀ i, i < L.length → bitAt zs (q + i) = L.getD i false

theorem at_app {zs : List Nat} {n q : Nat} {A B : List Bool} : At zs n q (A ++ B) ↔ At zs n q A ∧ At zs n (q + A.length) B := by
  unfold At
  rw [List.length_append]
  constructor
  · rintro ⟨h1, h2⟩
    refine ⟨⟨by omega, fun i hi => ?_⟩, by omega, fun i hi => ?_⟩
    · rw [h2 i (by omega), getD_app, if_pos hi]
    · rw [Nat.add_assoc, h2 (A.length + i) (by omega), getD_app, if_neg (by omega), show A.length + i - A.length = i from by omega]
  · rintro ⟨⟨h1, h2⟩, h3, h4⟩
    refine ⟨by omega, fun i hi => ?_⟩
    rw [getD_app]
    by_cases hA : i < A.length
    · rw [if_pos hA]; exact h2 i hA
    · rw [if_neg hA, ← h4 (i - A.length) (by omega), show q + A.length + (i - A.length) = q + i from by omega]

theorem at_win {zs : List Nat} {n q : Nat} {L : List Bool} (h : At zs n q L) : win zs q L.length = L := by
  refine bools_ext (win_length _ _ _) fun i => ?_
  by_cases hi : i < L.length
  · rw [← h.2 i hi]; simp [win, hi]
  · rw [List.getD_eq_getElem?_getD, List.getElem?_eq_none (by rw [win_length]; omega), List.getD_eq_getElem?_getD, List.getElem?_eq_none (by omega)]

theorem at_of_win {zs : List Nat} {n q c : Nat} {L : List Bool} (hc : L.length = c) (h : win zs q c = L) (hn : q + c ≤ n) : At zs n q L := by
  refine ⟨by omega, fun i hi => ?_⟩
  rw [← h]; simp [win, show i < c from by omega]

theorem at_unique {zs : List Nat} {n q : Nat} {A B : List Bool} (h : At zs n q A) (h' : At zs n q B) (hl : A.length = B.length) : A = B := by
  rw [← at_win h, ← at_win h', hl]

theorem win_low (zs : List Nat) (q c : Nat) : win zs q c = lowBits (numOf (win zs q c)) c := by
  refine numOf_inj _ _ (by rw [win_length, lowBits_length]) ?_
  rw [numOf_lowBits, Nat.mod_eq_of_lt]
  have := numOf_lt (win zs q c)
  rwa [win_length] at this

theorem at_low {zs : List Nat} {n q c x : Nat} (h : At zs n q (lowBits x c)) : q + c ≤ n ∧ numOf (win zs q c) = x % 2 ^ c := by
  have h1 := at_win h
  have h2 := h.1
  rw [lowBits_length] at h1 h2
  exact ⟨h2, by rw [h1, numOf_lowBits]⟩

theorem ti_at {zs : List Nat} {n q : Nat} {v to : Int} (h : TI zs n q v to 0) : to = ((q + intLen v : Nat) : Int) ∧ (-9223372036854775808 ≤ v ∧ v ≤ 9223372036854775807) ∧ At zs n q (intBits v) := by
  obtain ⟨h1, h2, h3, h4⟩ := ti_bits h
  exact ⟨h1, h3, by rw [intBits_length]; exact h2, by rw [intBits_length]; exact h4⟩

theorem ti_full {zs : List Nat} {n q : Nat} {v : Int} (hcan : canB zs n = true) (h0 : -9223372036854775808 ≤ v) (h1 : v ≤ 9223372036854775807) (h : At zs n q (intBits v)) : TI zs n q v ((q + intLen v : Nat) : Int) 0 := by
  have hq := h.1
  rw [intBits_length] at hq
  have hil : intLen v = clsMarks (cls v) + clsWidth (cls v) := rfl
  obtain ⟨hm, hw⟩ := at_app.1 h
  rw [lowBits_length] at hw
  obtain ⟨m1, m2, m3, m4⟩ := marks_ones (cls v) (cls_le v)
  have hc : CAt zs n q (cls v) 0 := by
    refine .inl ⟨rfl, cls_le v, fun j hj => ?_, fun hk => ?_⟩
    · have hjm : j < clsMarks (cls v) := by
        by_cases hk : cls v < 4
        · have := m3 hk; omega
        · have := m4 (by have := cls_le v; omega); have := cls_le v; omega
      exact ⟨by omega, by rw [hm.2 j (by rw [lowBits_length]; exact hjm)]; exact m1 j hj⟩
    · have := m3 hk
      exact ⟨by omega, by rw [hm.2 (cls v) (by rw [lowBits_length]; omega)]; exact m2 hk⟩
  have hwin := at_win hw
  rw [lowBits_length] at hwin
  have hs := sgn_back v h0 h1
  refine .inr ⟨⟨hcan, by omega, by omega⟩, cls v, 0, by rw [Int.toNat_natCast, Int.toNat_natCast]; exact hc, .inr ⟨rfl, .inr ⟨?_, .inr ⟨?_, ?_, ?_, rfl⟩⟩⟩⟩
  · rw [Int.toNat_natCast, Int.toNat_natCast]; omega
  · rw [Int.toNat_natCast, hwin, numOf_lowBits, hs]
  · rw [Int.toNat_natCast, hwin, numOf_lowBits, hs]
  · rw [Int.toNat_natCast]; omega

theorem pow_lt_le {a b x : Nat} (h1 : 2 ^ a ≤ x) (h2 : x < 2 ^ b) : a < b := by
  by_cases h : a < b
  · exact h
  · have := Nat.pow_le_pow_right (n := 2) (by omega) (show b ≤ a by omega)
    omega

/-- A number of so many bits, the first and the last of them set, behind noughts. -/
theorem zz_make (t c lo : Nat) (hc : 1 ≤ c) (hs : lo + c ≤ 64) (h1 : 2 ^ (c - 1) ≤ t) (h2 : t < 2 ^ c) (ho : t % 2 = 1) :
    t * 2 ^ lo < 18446744073709551616 ∧ t * 2 ^ lo ≠ 0 ∧ hiZ (t * 2 ^ lo) = 64 - lo - c ∧ loZ (t * 2 ^ lo) = lo ∧ widZ (t * 2 ^ lo) = c ∧ t * 2 ^ lo / 2 ^ lo = t := by
  have hp := Nat.two_pow_pos lo
  have hx1 : t * 2 ^ lo < 2 ^ (c + lo) := by rw [Nat.pow_add]; exact Nat.mul_lt_mul_of_pos_right h2 hp
  have hx2 : 2 ^ (c - 1 + lo) ≤ t * 2 ^ lo := by rw [Nat.pow_add]; exact Nat.mul_le_mul_right _ h1
  have hx64 : t * 2 ^ lo < 18446744073709551616 := Nat.lt_of_lt_of_le hx1 (Nat.pow_le_pow_right (n := 2) (by omega) (show c + lo ≤ 64 by omega))
  have hne : t * 2 ^ lo ≠ 0 := by
    have := Nat.two_pow_pos (c - 1 + lo); omega
  have h' : t * 2 ^ lo < 2 ^ 64 := hx64
  obtain ⟨b1, b2, b3, b4⟩ := bitLenAux_spec 64 (t * 2 ^ lo) (by omega) h'
  obtain ⟨m, hm, hk⟩ := Lib.ctzFrom_spec 64 (t * 2 ^ lo) (by omega) h'
  have ect : Lib.ctzFrom 64 (t * 2 ^ lo) = loZ (t * 2 ^ lo) := by unfold loZ Lib.ctz; rw [if_neg hne]
  have hbl : Lib.bitLen (t * 2 ^ lo) = c + lo := by
    show Lib.bitLenAux 64 (t * 2 ^ lo) = c + lo
    have e1 := pow_lt_le b3 hx1
    have e2 := pow_lt_le hx2 b4
    omega
  have hlo : loZ (t * 2 ^ lo) = lo := by
    rw [ect] at hm
    generalize loZ (t * 2 ^ lo) = k at hm
    by_cases hlt : k < lo
    · exfalso
      obtain ⟨d, rfl⟩ : ∃ d, lo = k + (d + 1) := ⟨lo - k - 1, by omega⟩
      rw [Nat.pow_add, Nat.pow_succ, show t * (2 ^ k * (2 ^ d * 2)) = 2 ^ k * (2 * (t * 2 ^ d)) from by rw [Nat.mul_left_comm, Nat.mul_comm (2 ^ d) 2, Nat.mul_left_comm t 2]] at hm
      have := Nat.eq_of_mul_eq_mul_left (Nat.two_pow_pos k) hm
      omega
    · by_cases hgt : lo < k
      · exfalso
        obtain ⟨d, rfl⟩ : ∃ d, k = lo + (d + 1) := ⟨k - lo - 1, by omega⟩
        rw [Nat.pow_add, Nat.pow_succ, Nat.mul_comm t, Nat.mul_assoc, show 2 ^ d * 2 * (2 * m + 1) = 2 * (2 ^ d * (2 * m + 1)) from by rw [Nat.mul_comm (2 ^ d) 2, Nat.mul_assoc]] at hm
        have := Nat.eq_of_mul_eq_mul_left hp hm
        omega
      · omega
  have hhi : hiZ (t * 2 ^ lo) = 64 - lo - c := by unfold hiZ; rw [hbl]; omega
  exact ⟨hx64, hne, hhi, hlo, by unfold widZ; rw [hhi, hlo]; omega, Nat.mul_div_cancel _ hp⟩

end Go.Proofs.YtfgfkifdokeefaaDoor.Cd
