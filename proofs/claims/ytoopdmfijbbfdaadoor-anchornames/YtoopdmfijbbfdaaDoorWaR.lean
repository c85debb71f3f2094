/- dryrotref17.Digits and strconv.Itoa: a number's digits; wal.Name and the document's own. -/
import Derived.Test.YtoopdmfijbbfdaaDoorWaA
import Derived.Test.YtoopdmfijbbfdaaDoorWaLaid
import Derived.Lib.AppendIntMem
namespace Go.Proofs.YtoopdmfijbbfdaaDoor
open Go.RowKit Go.Maps
set_option linter.unusedVariables false

theorem dec_small {u : Nat} (h : u < 10) : Lib.decDigits u = [UInt8.ofNat (48 + u)] := Lib.decDigits_one h

theorem dec_big {u : Nat} (h : ¬ u < 10) : Lib.decDigits u = Lib.decDigits (u / 10) ++ [UInt8.ofNat (48 + u % 10)] := by
  rw [Lib.decDigits, dif_neg h]

theorem dec_len : ∀ (k u : Nat), u < 10 ^ (k + 1) → (Lib.decDigits u).length ≤ k + 1
  | 0, u, h => by rw [dec_small (by simpa using h)]; simp
  | k + 1, u, h => by
    by_cases h0 : u < 10
    · rw [dec_small h0]; simp
    · rw [dec_big h0, List.length_append]
      have : u / 10 < 10 ^ (k + 1) := by rw [Nat.div_lt_iff_lt_mul (by omega)]; rw [Nat.pow_succ] at h; exact h
      have := dec_len k (u / 10) this
      simp
      omega

def tenB : ByteArray := ⟨#[48, 49, 50, 51, 52, 53, 54, 55, 56, 57]⟩

theorem ten_at : ∀ k, k < 10 → tenB.extract k (k + 1) = ⟨#[UInt8.ofNat (48 + k)]⟩ := by decide +kernel

set_option maxHeartbeats 2000000 in
theorem digits_any (w : World) (n : Int) (hn : n ≤ 9223372036854775807) :
    Calls Tryd.prog 36 #[.int .i64 n] w fun e w' => e = .returned (.string ⟨(Lib.decDigits n.toNat).toArray⟩) ∧ w' = w := by
  obtain ⟨T, hT⟩ : ∃ T, T = Lib.decDigits n.toNat := ⟨_, rfl⟩
  have hTl : T.length ≤ 20 := by rw [hT]; exact dec_len 19 _ (by omega)
  have HT := hidn hT
  have hten : (⟨#[48, 49, 50, 51, 52, 53, 54, 55, 56, 57]⟩ : ByteArray) = tenB := rfl
  have htsz : tenB.size = 10 := rfl
  rw [← hT]
  clear hT
  go_enter Tryd.func36, Tryd.ntmps36
  rw [hten]
  go_wp2_with fail
  go_loopw [0, 3] (fun nv sv wr => ∃ (m : Int) (s : ByteArray), nv = .int .i64 m ∧ m ≤ 9223372036854775807 ∧ sv = .string s ∧ s.size ≤ 20 ∧ Hid (T = Lib.decDigits m.toNat ++ s.data.toList) ∧ wr = w) (fun nv _ _ => (intOf nv).toNat)
  case atStart => exact ⟨n, ⟨#[]⟩, rfl, hn, rfl, by decide, hidn (by rw [HT.out]; simp), rfl⟩
  case round =>
    obtain ⟨m, s, rfl, hm, rfl, hs, HD, rfl⟩ := hrel
    by_cases h10 : 10 ≤ m
    · obtain ⟨u, rfl⟩ : ∃ u : Nat, m = (u : Int) := ⟨m.toNat, by omega⟩
      have h1 : decide ((10 : Int) ≤ (u : Int)) = true := by simpa using h10
      obtain ⟨q, hq⟩ : ∃ q : Nat, q = u / 10 := ⟨_, rfl⟩
      obtain ⟨r, hr⟩ : ∃ r : Nat, r = u % 10 := ⟨_, rfl⟩
      have e1 : (u : Int).tmod 10 = (r : Int) := by rw [Int.tmod_eq_emod_of_nonneg (by omega)]; omega
      have e2 : (u : Int).tdiv 10 = (q : Int) := by rw [Int.tdiv_eq_ediv_of_nonneg (by omega)]; omega
      have hr10 : r < 10 := by omega
      obtain ⟨r1, hr1⟩ : ∃ r1, r1 = r + 1 := ⟨_, rfl⟩
      have e3 : IntKind.i64.wrap ((r : Int) + 1) = (r1 : Int) := by rw [IntKind.wrap_i64]; omega
      have e4 : (r : Int) + 1 = (r1 : Int) := by omega
      have e5 : (r : Int) ≤ (r1 : Int) := by omega
      have e6 : (r1 : Int) ≤ 10 := by omega
      have e7 : r ≤ r1 := by omega
      have e8 : r1 ≤ 10 := by omega
      have e9 : tenB.extract r r1 = ⟨#[UInt8.ofNat (48 + r)]⟩ := by rw [hr1]; exact ten_at r hr10
      have e10 : IntKind.i64.wrap (r : Int) = (r : Int) := by rw [IntKind.wrap_i64]; omega
      have e11 : IntKind.i64.wrap (q : Int) = (q : Int) := by rw [IntKind.wrap_i64]; omega
      obtain ⟨d, hd⟩ : ∃ d : ByteArray, d = ⟨#[UInt8.ofNat (48 + r)]⟩ := ⟨_, rfl⟩
      rw [← hd] at e9
      have hds : d.size = 1 := by rw [hd]; rfl
      have HD2 : Hid (T = Lib.decDigits ((q : Int)).toNat ++ (d ++ s).data.toList) := hidn (by
        have h9 := HD.out
        rw [Int.toNat_natCast, dec_big (by omega), ← hq, ← hr, List.append_assoc] at h9
        rw [h9, Int.toNat_natCast, hd]
        simp [ByteArray.data_append])
      have hds2 : (d ++ s).size ≤ 20 := by
        have h9 := congrArg List.length HD2.out
        rw [List.length_append] at h9
        show (d ++ s).data.size ≤ 20
        rw [← Array.length_toList]
        omega
      have hds3 : d.size + s.size ≤ 20 := by rw [← ByteArray.size_append]; exact hds2
      have HQ : Hid (q < u) := hidn (by omega)
      have hqb : (q : Int) ≤ 9223372036854775807 := by omega
      clear hq hr hr1 hd HD
      go_wp2
      go_roundw
      case rel => exact ⟨(q : Int), d ++ s, rfl, hqb, rfl, hds2, HD2, by first | rfl | trivial⟩
      case measure => simp [intOf]; exact HQ.out
    · have h1 : decide ((10 : Int) ≤ m) = false := by simpa using h10
      obtain ⟨r, hr⟩ : ∃ r : Nat, r = m.toNat := ⟨_, rfl⟩
      have hr10 : r < 10 := by omega
      have m1 : (if m < 0 then (0 : Int) else m) = (r : Int) := by split <;> omega
      have m2 : max m 0 = (r : Int) := by omega
      have m3 : (if (0 : Int) < m then m else 0) = (r : Int) := by split <;> omega
      obtain ⟨r1, hr1⟩ : ∃ r1, r1 = r + 1 := ⟨_, rfl⟩
      have e3 : IntKind.i64.wrap ((r : Int) + 1) = (r1 : Int) := by rw [IntKind.wrap_i64]; omega
      have e4 : (r : Int) + 1 = (r1 : Int) := by omega
      have e5 : (r : Int) ≤ (r1 : Int) := by omega
      have e6 : (r1 : Int) ≤ 10 := by omega
      have e7 : r ≤ r1 := by omega
      have e8 : r1 ≤ 10 := by omega
      have e9 : tenB.extract r r1 = ⟨#[UInt8.ofNat (48 + r)]⟩ := by rw [hr1]; exact ten_at r hr10
      obtain ⟨d, hd⟩ : ∃ d : ByteArray, d = ⟨#[UInt8.ofNat (48 + r)]⟩ := ⟨_, rfl⟩
      rw [← hd] at e9
      have HD2 : Hid ((⟨T.toArray⟩ : ByteArray) = d ++ s) := hidn (by
        have h9 := HD.out
        rw [← hr, dec_small hr10] at h9
        rw [h9, hd]
        apply ByteArray.ext
        simp [ByteArray.data_append])
      have hds3 : d.size + s.size ≤ 21 := by rw [hd]; show 1 + s.size ≤ 21; omega
      clear hr hr1 hd HD h10
      go_wp2
      go_ret
      rw [HD2.out]
      exact ⟨rfl, rfl⟩

/-- A segment's name, whatever its number. -/
def segD (n : Int) : ByteArray := ⟨#[119]⟩ ++ ⟨(Lib.decDigits n.toNat).toArray⟩

theorem decA_size (n : Int) (hn : n ≤ 9223372036854775807) : (⟨(Lib.decDigits n.toNat).toArray⟩ : ByteArray).size ≤ 20 := by
  show (Lib.decDigits n.toNat).toArray.size ≤ 20
  rw [List.size_toArray]
  exact dec_len 19 _ (by omega)

end Go.Proofs.YtoopdmfijbbfdaaDoor
