/- The walks of bits.signed, bits.classAt and bits.TakeInt. -/
import Derived.Test.YtfgfkifdokeefaaGreatDoorBitsTake
import Derived.Test.YtfgfkifdokeefaaGreatDoorBitsPutInt
namespace Go.Proofs.YtfgfkifdokeefaaGreatDoor.Cd
open Go.RowKit
set_option linter.unusedVariables false

/-- A number's lowest bits as a signed number. -/
def sgn (word width : Nat) : Int := if 0 < width ∧ 2 ^ (width - 1) ≤ word then (word : Int) - 2 ^ width else word

theorem sgn_7 (word : Nat) (h : word < 128) : wrap64 ((word : Int) * 144115188075855872) / 144115188075855872 = sgn word 7 := by
  unfold wrap64 sgn
  by_cases h1 : 64 ≤ word
  · rw [if_pos ⟨by omega, h1⟩]; simp only [Int.reducePow]; omega
  · rw [if_neg (fun hh => h1 hh.2)]; omega

theorem sgn_12 (word : Nat) (h : word < 4096) : wrap64 ((word : Int) * 4503599627370496) / 4503599627370496 = sgn word 12 := by
  unfold wrap64 sgn
  by_cases h1 : 2048 ≤ word
  · rw [if_pos ⟨by omega, h1⟩]; simp only [Int.reducePow]; omega
  · rw [if_neg (fun hh => h1 hh.2)]; omega

theorem sgn_32 (word : Nat) (h : word < 4294967296) : wrap64 ((word : Int) * 4294967296) / 4294967296 = sgn word 32 := by
  unfold wrap64 sgn
  by_cases h1 : 2147483648 ≤ word
  · rw [if_pos ⟨by omega, h1⟩]; simp only [Int.reducePow]; omega
  · rw [if_neg (fun hh => h1 hh.2)]; omega

theorem sgn_64 (word : Nat) (h : word < 18446744073709551616) : wrap64 (word : Int) = sgn word 64 := by
  unfold wrap64 sgn
  by_cases h1 : 9223372036854775808 ≤ word
  · rw [if_pos ⟨by omega, h1⟩]; simp only [Int.reducePow]; omega
  · rw [if_neg (fun hh => h1 hh.2)]; omega

theorem ret_i64 {a b : Int} (h : a = b) : Ending.returned (.int .i64 a) = .returned (.int .i64 b) := by rw [h]

set_option maxHeartbeats 1000000 in
theorem signed_any (word k : Nat) (w : World) (hk : k ≤ 4) (hw : word < 2 ^ clsWidth k) :
    Calls Tryz.prog 291 #[.int .u64 word, .int .i64 (clsWidth k : Nat)] w fun e w' => e = .returned (.int .i64 (sgn word (clsWidth k))) ∧ w' = w := by
  have hk5 : k = 0 ∨ k = 1 ∨ k = 2 ∨ k = 3 ∨ k = 4 := by omega
  rcases hk5 with rfl | rfl | rfl | rfl | rfl
  · rw [show clsWidth 0 = 0 from rfl] at *
    obtain rfl : word = 0 := by omega
    go_enter Tryz.func291, Tryz.ntmps291
    go_wp2
    go_ret
    exact ⟨rfl, rfl⟩
  · rw [show clsWidth 1 = 7 from rfl] at *
    have hw' : word < 128 := hw
    go_enter Tryz.func291, Tryz.ntmps291
    go_wp2
    go_ret
    exact ⟨ret_i64 (sgn_7 word hw'), rfl⟩
  · rw [show clsWidth 2 = 12 from rfl] at *
    have hw' : word < 4096 := hw
    go_enter Tryz.func291, Tryz.ntmps291
    go_wp2
    go_ret
    exact ⟨ret_i64 (sgn_12 word hw'), rfl⟩
  · rw [show clsWidth 3 = 32 from rfl] at *
    have hw' : word < 4294967296 := hw
    go_enter Tryz.func291, Tryz.ntmps291
    go_wp2
    go_ret
    exact ⟨ret_i64 (sgn_32 word hw'), rfl⟩
  · rw [show clsWidth 4 = 64 from rfl] at *
    have hw' : word < 18446744073709551616 := hw
    go_enter Tryz.func291, Tryz.ntmps291
    go_wp2
    go_ret
    exact ⟨ret_i64 (sgn_64 word hw'), rfl⟩

/-- k ones at a place, all of them there. -/
def Ones (zs : List Nat) (n at_ k : Nat) : Prop := ∀ j, j < k → at_ + j < n ∧ bitAt zs (at_ + j) = true

/-- What stands at a place: a class, or too little. -/
def CAt (zs : List Nat) (n at_ : Nat) (k : Nat) (e : Int) : Prop :=
  (e = 0 ∧ k ≤ 4 ∧ Ones zs n at_ k ∧ (k < 4 → at_ + k < n ∧ bitAt zs (at_ + k) = false)) ∨ (e = 3 ∧ k = 0 ∧ ∃ j, j ≤ 3 ∧ Ones zs n at_ j ∧ n ≤ at_ + j)

theorem CAt.unique {zs : List Nat} {n at_ k k' : Nat} {e e' : Int} (h : CAt zs n at_ k e) (h' : CAt zs n at_ k' e') : k = k' ∧ e = e' := by
  rcases h with ⟨rfl, h4, ho, hz⟩ | ⟨rfl, rfl, j, hj, ho, hn⟩ <;> rcases h' with ⟨rfl, h4', ho', hz'⟩ | ⟨rfl, rfl, j', hj', ho', hn'⟩
  · refine ⟨?_, rfl⟩
    rcases Nat.lt_trichotomy k k' with hlt | heq | hgt
    · have h1 := ho' k hlt
      have h2 := hz (by omega)
      rw [h1.2] at h2; cases h2.2
    · exact heq
    · have h1 := ho k' hgt
      have h2 := hz' (by omega)
      rw [h1.2] at h2; cases h2.2
  · exfalso
    by_cases hlt : k < 4
    · have h2 := hz hlt
      by_cases hjk : j' ≤ k
      · omega
      · have := ho' k (by omega)
        rw [this.2] at h2; cases h2.2
    · have := ho j' (by omega)
      omega
  · exfalso
    by_cases hlt : k' < 4
    · have h2 := hz' hlt
      by_cases hjk : j ≤ k'
      · omega
      · have := ho k' (by omega)
        rw [this.2] at h2; cases h2.2
    · have := ho' j (by omega)
      omega
  · exact ⟨rfl, rfl⟩

theorem tE_one {zs : List Nat} {n at_ k : Nat} (hcan : canB zs n = true) (h : at_ + k < n) : tE zs n ((at_ : Int) + k) 1 = 0 ∧ tV zs n ((at_ : Int) + k) 1 = (bitAt zs (at_ + k)).toNat := by
  have e1 : tE zs n ((at_ : Int) + k) 1 = 0 := by
    unfold tE
    rw [if_neg (fun hh => hh ⟨hcan, ⟨by omega, by omega⟩, by omega, by omega⟩), if_neg (by omega)]
  refine ⟨e1, ?_⟩
  unfold tV
  rw [if_pos e1, show ((at_ : Int) + k).toNat = at_ + k from by omega, show (1 : Int).toNat = 1 from rfl]
  simp [win, numOf]

theorem tE_end {zs : List Nat} {n at_ k : Nat} (hcan : canB zs n = true) (h : at_ + k = n) : tE zs n ((at_ : Int) + k) 1 = 3 ∧ tV zs n ((at_ : Int) + k) 1 = 0 := by
  have e1 : tE zs n ((at_ : Int) + k) 1 = 3 := by
    unfold tE
    rw [if_neg (fun hh => hh ⟨hcan, ⟨by omega, by omega⟩, by omega, by omega⟩), if_pos (by omega)]
  exact ⟨e1, by unfold tV; rw [e1]; rfl⟩

set_option maxHeartbeats 2000000 in
theorem classAt_any (a : Option Addr) (len cap : Nat) (n at_ : Nat) (zs : List Nat) (w : World) (hB : Bs w a len zs) (hn : n ≤ 1099511627776) (hm : len ≤ 137438953472) (hcan : canB zs n = true) (hat : at_ ≤ n) :
    Calls Tryz.prog 290 #[.agg #[.slice a len cap, .int .i64 n], .int .i64 at_] w fun e w' =>
      ∃ (k : Nat) (er : Int), e = .returned (.tuple #[.int .i64 k, .int .i64 er]) ∧ CAt zs n at_ k er ∧ Below w.heap.size w w' := by
  have h0 : Below w.heap.size w (w.alloc (.cells #[.slice a len cap, .int .i64 n] 282)) := (Below.refl w.heap.size w).alloc (Nat.le_refl _) _
  have HC : Hid _ := hcan
  clear hcan
  go_enter Tryz.func290, Tryz.ntmps290
  go_wp2
  go_loopw [9] (fun iv wr => ∃ k : Nat, k ≤ 4 ∧ iv = .int .i64 k ∧ Ones zs n at_ k ∧ Below (w.heap.size + 1) (w.alloc (.cells #[.slice a len cap, .int .i64 n] 282)) wr) (fun iv _ => 4 - (intOf iv).toNat)
  case atStart => exact ⟨0, by omega, rfl, fun j hj => by omega, Below.refl _ _⟩
  case round =>
    obtain ⟨k, hk, rfl, hones, hbel⟩ := hrel
    have HO : Hid _ := hones
    clear hones
    have hbw : Below w.heap.size w wr := h0.trans (hbel.mono (by omega))
    by_cases hlt : k < 4
    · have hkn : at_ + k ≤ n := by
        by_cases h : k = 0
        · omega
        · have := HO.out (k - 1) (by omega); omega
      have c0 : wr.cell? ⟨w.heap.size, 0, none⟩ = some (.slice a len cap) := (hbel.cell (by simp)).trans (by simp)
      have c1 : wr.cell? ⟨w.heap.size, 1, none⟩ = some (.int .i64 n) := (hbel.cell (by simp)).trans (by simp)
      have hsz := hbel.size
      simp only [World.size_alloc] at hsz
      go_wp2_with fail
      refine (take_all a len cap n ((at_ : Int) + k) 1 zs _ (hB.below hbw) (by omega) hm).mono ?_
      rintro e w2 ⟨rfl, hb2⟩
      have hbel2 := hbel.trans (hb2.mono (by omega))
      have hbw2 := hbw.trans (hb2.mono hbw.size)
      by_cases hlast : at_ + k = n
      · obtain ⟨e1, e2⟩ := tE_end HC.out hlast
        rw [e1, e2]
        have HL : Hid _ := hlast
        clear e1 e2 hlast
        go_wp2
        go_ret2
        exact ⟨0, 3, rfl, .inr ⟨rfl, rfl, k, by omega, HO.out, by have := HL.out; omega⟩, hbw2⟩
      · obtain ⟨e1, e2⟩ := tE_one (k := k) HC.out (show at_ + k < n by omega)
        rw [e1, e2]
        clear e1 e2
        have hkl : Hid (at_ + k < n) := show at_ + k < n by omega
        clear hlast
        cases hbv : bitAt zs (at_ + k) with
        | true =>
          have HV : Hid _ := hbv
          clear hbv
          go_wp2
          go_roundw
          case rel =>
            refine ⟨k + 1, by omega, by go_num, fun j hj => ?_, hbel2⟩
            by_cases hjk : j = k
            · subst hjk; exact ⟨hkl.out, HV.out⟩
            · exact HO.out j (by omega)
          case measure => simp [intOf]; omega
        | false =>
          have HV : Hid _ := hbv
          clear hbv
          go_wp2
          go_ret2
          exact ⟨k, 0, rfl, .inl ⟨rfl, hk, HO.out, fun _ => ⟨hkl.out, HV.out⟩⟩, hbw2⟩
    · obtain rfl : k = 4 := by omega
      go_wp2
      go_ret2
      exact ⟨4, 0, rfl, .inl ⟨rfl, by omega, HO.out, fun h => by omega⟩, hbw⟩

end Go.Proofs.YtfgfkifdokeefaaGreatDoor.Cd
