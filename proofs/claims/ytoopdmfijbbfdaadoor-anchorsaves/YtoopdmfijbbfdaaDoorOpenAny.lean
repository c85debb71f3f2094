/- extent.Open, its contract: what any bytes hold; and what the bytes of a frame hold. -/
import Derived.Test.YtoopdmfijbbfdaaDoorOpenWalk
namespace Go.Proofs.YtoopdmfijbbfdaaDoor
open Go.RowKit
set_option linter.unusedVariables false

/-- What bytes hold as an extent of a file and a number. -/
def openB (zs nm : List Nat) (i : Int) : Option (List Nat × Nat) :=
  if zs.length = 128 ∧ getB 0 ((zs.drop 9).take 8) ≤ 4611686018427387904 ∧ zs.getD 17 0 ≤ 106 ∧ 0 ≤ i ∧ i ≤ 2147483647 ∧
    zs = frameB nm i.toNat (getB 0 ((zs.drop 9).take 8)) ((zs.drop 18).take (zs.getD 17 0)) then some ((zs.drop 18).take (zs.getD 17 0), getB 0 ((zs.drop 9).take 8)) else none

/-- What Open, and the document's Open, answer. -/
def opened (o : Option (List Nat × Nat)) (base : Nat) (e : Ending) (w' : World) : Prop :=
  match o with
  | some (p, n) => ∃ v, e = .returned (.tuple #[v, .int .i64 (n : Int), .int .i64 0]) ∧ w'.ownsRow base 5 1 v p.length (vb p)
  | none => e = .returned (.tuple #[.slice none 0 0, .int .i64 0, .int .i64 40])

theorem openB_some {zs nm : List Nat} {i : Int} {p : List Nat} {n : Nat} (h : openB zs nm i = some (p, n)) :
    zs = frameB nm i.toNat n p ∧ canB i n p.length = true := by
  unfold openB at h
  split at h
  · rename_i hc
    obtain ⟨h1, h2, h3, h4, h5, h6⟩ := hc
    simp only [Option.some.injEq, Prod.mk.injEq] at h
    obtain ⟨rfl, rfl⟩ := h
    refine ⟨h6, decide_eq_true ⟨h4, h5, by omega, by omega, ?_⟩⟩
    simp only [List.length_take]; omega
  · cases h
theorem openB_frame (nm : List Nat) (i g : Nat) (p : List Nat) (hi : i ≤ 2147483647) (hg : g ≤ 4611686018427387904) (hp : p.length ≤ 106) : openB (frameB nm i g p) nm i = some (p, g) := by
  have e1 := frameB_gen_get nm i g p (by omega)
  have e2 := frameB_len nm i g p
  have e3 := frameB_load nm i g p
  have e4 := frameB_length nm i g p hp
  unfold openB
  rw [e1, e2, e3, e4]
  rw [if_pos ⟨rfl, hg, hp, by omega, by omega, by simp⟩]
theorem openB_other (nm : List Nat) (i j g : Nat) (p : List Nat) (hi : i ≤ 2147483647) (hij : i ≠ j) : openB (frameB nm i g p) nm j = none := by
  unfold openB
  rw [if_neg]
  rintro ⟨_, _, _, _, h5, h6⟩
  exact hij (frameB_index_inj nm i j g _ p _ (by omega) (by omega) (by simpa using h6))
theorem openB_turned (nm : List Nat) (i j g : Nat) (p : List Nat) (hp : p.length ≤ 106) (hz : ∀ x ∈ p, x < 256) (k y : Nat) (hk : k < 128) (hy : y < 256) (hne : y ≠ (frameB nm i g p).getD k 0) :
    openB ((frameB nm i g p).set k y) nm j = none := by
  unfold openB
  rw [if_neg]
  rintro ⟨_, _, h3, _, _, h6⟩
  refine frameB_turned nm nm i _ g _ p _ hp ?_ hz k y hk hy hne h6
  simp only [List.length_take]; omega

theorem wrap_i64_n (n : Nat) (h : n < 18446744073709551616) : IntKind.i64.wrap (n : Int) = if n < 9223372036854775808 then (n : Int) else (n : Int) - 18446744073709551616 := by
  rw [IntKind.wrap_i64]; split <;> omega

theorem open_any (s : ByteArray) (i : Int) (a : Option Addr) (len cap : Nat) (zs : List Nat) (w : World) (hB : Bs w a len zs) (hcap : len ≤ cap) (hT : CrcTab w) (hsm : s.size ≤ maxLen) :
    Calls Tryd.prog 63 #[.slice a len cap, .string s, .int .i64 i] w fun e w' => Below w.heap.size w w' ∧ opened (openB zs (nums s) i) w.heap.size e w' := by
  by_cases hl : len = 128
  · subst hl
    obtain ⟨b, off, rfl, _, _⟩ := hB.pos (by omega)
    have h9 := hB.part 9 8 (by omega)
    have hn : getB 0 ((zs.drop 9).take 8) < 18446744073709551616 := by
      have := getB_lt _ h9.2.2.1
      rw [h9.1] at this
      exact this
    have hw := wrap_i64_n _ hn
    cases hc : canB i (IntKind.i64.wrap ((getB 0 ((zs.drop 9).take 8) : Nat) : Int)) (zs.getD 17 0) with
    | false =>
      refine (open_cannot s i _ b off cap zs _ _ _ w hB hcap (hid rfl) (hid rfl) (hid rfl) rfl hc).mono ?_
      rintro e w' ⟨he, hb⟩
      refine ⟨hb, ?_⟩
      have hc' := of_decide_eq_false hc
      have : openB zs (nums s) i = none := by
        unfold openB
        rw [if_neg]
        rintro ⟨_, h2, h3, h4, h5, _⟩
        rw [if_pos (by omega)] at hw
        exact hc' ⟨h4, h5, by omega, by omega, h3⟩
      rw [this]
      exact he
    | true =>
      obtain ⟨c1, c2, c3, c4, c5⟩ := of_decide_eq_true hc
      have hlt : getB 0 ((zs.drop 9).take 8) < 9223372036854775808 := by
        by_cases h : getB 0 ((zs.drop 9).take 8) < 9223372036854775808
        · exact h
        · rw [if_neg h] at hw; omega
      rw [if_pos hlt] at hw
      rw [hw] at hc c3 c4
      obtain ⟨j, rfl⟩ := Int.eq_ofNat_of_zero_le c1
      refine (open_can s j (getB 0 ((zs.drop 9).take 8)) b off cap zs _ _ _ _ _ _ w hB hcap hT hsm (hid rfl) (hid rfl) (hid rfl) hw hc (hid rfl) (hid rfl) (hid rfl) _ (hid rfl)).mono ?_
      rintro e w' ⟨hb, he⟩
      refine ⟨hb, ?_⟩
      have hl2 : ((zs.drop 18).take (zs.getD 17 0)).length = zs.getD 17 0 := by
        simp only [List.length_take, List.length_drop, hB.1]; omega
      by_cases hz : zs = frameB (nums s) j (getB 0 ((zs.drop 9).take 8)) ((zs.drop 18).take (zs.getD 17 0))
      · rw [if_pos (decide_eq_true hz)] at he
        have : openB zs (nums s) (j : Int) = some ((zs.drop 18).take (zs.getD 17 0), getB 0 ((zs.drop 9).take 8)) := by
          unfold openB
          rw [if_pos ⟨hB.1, by omega, c5, by omega, c2, by simpa using hz⟩]
        rw [this]
        obtain ⟨v, he, hown⟩ := he
        refine ⟨v, he, ?_⟩
        rw [hl2]; exact hown
      · rw [if_neg (by simpa using hz)] at he
        have : openB zs (nums s) (j : Int) = none := by
          unfold openB
          rw [if_neg]
          rintro ⟨_, _, _, _, _, h6⟩
          exact hz (by simpa using h6)
        rw [this]
        exact he
  · refine (open_short s i a len cap w hl).mono ?_
    rintro e w' ⟨he, hb⟩
    refine ⟨hb, ?_⟩
    have : openB zs (nums s) i = none := by
      unfold openB
      rw [if_neg]
      rintro ⟨h1, _⟩
      exact hl (by rw [← hB.1]; exact h1)
    rw [this]
    exact he
end Go.Proofs.YtoopdmfijbbfdaaDoor
