/- The walk of dryrotlaw04.ExtentOpens: it returns true. -/
import Derived.Test.YtnpnldibhcncaabDoorExtLaws
import Derived.Test.YtnpnldibhcncaabDoorRefOpen
namespace Go.Proofs.YtnpnldibhcncaabDoor
open Go.RowKit
set_option linter.unusedVariables false

/-- What both answer, in one form: a slice of the payload's bytes, the generation, the error. -/
theorem opened_bs {o : Option (List Nat × Nat)} {base : Nat} {e : Ending} {w' : World} (h : opened o base e w') (hz : ∀ p n, o = some (p, n) → ∀ x ∈ p, x < 256) (p : List Nat) (g er : Nat)
    (ho : (o = some (p, g) ∧ er = 0) ∨ (o = none ∧ p = [] ∧ g = 0 ∧ er = 40)) : ∃ a c, e = .returned (.tuple #[.slice a p.length c, .int .i64 (g : Int), .int .i64 (er : Int)]) ∧ Bs w' a p.length p := by
  rcases ho with ⟨rfl, rfl⟩ | ⟨rfl, rfl, rfl, rfl⟩
  · obtain ⟨v, he, hown⟩ := h
    obtain ⟨a, c, rfl, hB⟩ := bs_of_own hown (hz p g rfl)
    exact ⟨a, c, he, hB⟩
  · exact ⟨none, 0, h, Bs.nil _⟩

set_option maxHeartbeats 1000000 in
theorem opens_core (s : ByteArray) (i : Int) (a : Option Addr) (len cap : Nat) (zs : List Nat) (w : World) (hB : Bs w a len zs) (hcap : len ≤ cap) (hT : CrcTab w) (hsm : s.size ≤ maxLen) (hr : len ≤ 140737488355328)
    (p : List Nat) (pl g er : Nat) (HPL : Hid (p.length = pl)) (HO : Hid ((openB zs (nums s) i = some (p, g) ∧ er = 0) ∨ (openB zs (nums s) i = none ∧ p = [] ∧ g = 0 ∧ er = 40))) :
    Calls Tryd.prog 4 #[.slice a len cap, .string s, .int .i64 i] w fun e w' => e = .returned (.bool true) ∧ Below w.heap.size w w' := by
  have hz : ∀ p n, openB zs (nums s) i = some (p, n) → ∀ x ∈ p, x < 256 := by
    intro p n h x hx
    unfold openB at h
    split at h
    · simp only [Option.some.injEq, Prod.mk.injEq] at h
      obtain ⟨rfl, _⟩ := h
      exact hB.2.2.1 x (List.mem_of_mem_drop (List.mem_of_mem_take hx))
    · cases h
  have HZ : Hid (∀ p n, openB zs (nums s) i = some (p, n) → ∀ x ∈ p, x < 256) := hz
  clear hz
  go_enter Tryd.func4, Tryd.ntmps4
  go_wp2_with fail
  refine (clone_any a len cap zs _ hB hr).mono ?_
  rintro e w1 ⟨v, rfl, hown, hb1⟩
  have hc1 : ∃ a1 cap1, v = .slice a1 len cap1 ∧ Bs w1 a1 len zs ∧ len ≤ cap1 := by
    obtain ⟨a1, cap1, hv, hB1⟩ := bs_of_own hown hB.2.2.1
    refine ⟨a1, cap1, hv, hB1, ?_⟩
    rcases hown.2 with ⟨_, h0⟩ | ⟨g', cap', cur, hv', _, _, hnc, _⟩
    · omega
    · rw [hv] at hv'; cases hv'; exact hnc
  obtain ⟨a1, cap1, hv, hB1, hcap1⟩ := hc1
  subst hv
  have hB' := hB.below hb1
  have hT1 := hT.below hb1
  clear hown hB
  go_wp2_with fail
  refine (open_any s i a1 len cap1 zs _ hB1 hcap1 hT1 hsm).mono ?_
  rintro e w2 ⟨hb2, he2⟩
  obtain ⟨a2, c2, rfl, hB2⟩ := opened_bs he2 HZ.out p g er HO.out
  rw [HPL.out] at hB2 ⊢
  have hB1' := hB1.below hb2
  have hB'' := hB'.below hb2
  have hT2 := hT1.below hb2
  clear hB1 hB' he2
  go_wp2_with fail
  refine (refOpen_any s i a len cap zs _ hB'' hcap hsm).mono ?_
  rintro e w3 ⟨hb3, he3⟩
  obtain ⟨a3, c3, rfl, hB3⟩ := opened_bs he3 HZ.out p g er HO.out
  rw [HPL.out] at hB3 ⊢
  have hB2' := hB2.below hb3
  have hG1 := hB1'.below hb3
  have hG2 := hB''.below hb3
  have hT3 := hT2.below hb3
  clear hB2 hB1' hB'' he3
  go_wp2_with fail
  refine (equal_any a2 a3 pl c2 pl c3 p p _ hB2' hB3).mono ?_
  rintro e w4 ⟨rfl, rfl⟩
  rw [decide_eq_true (rfl : p = p)]
  go_wp2_with fail
  refine (equal_any a1 a len cap1 len cap zs zs _ hG1 hG2).mono ?_
  rintro e w5 ⟨rfl, rfl⟩
  rw [decide_eq_true (rfl : zs = zs)]
  go_wp2_with fail
  refine (awake4_any _ hT3).mono ?_
  rintro e w6 ⟨rfl, hb6⟩
  go_wp2
  go_ret
  exact ⟨rfl, hb1.trans ((hb2.mono hb1.size).trans ((hb3.mono (Nat.le_trans hb1.size hb2.size)).trans (hb6.mono (Nat.le_trans hb1.size (Nat.le_trans hb2.size hb3.size)))))⟩
theorem opens_walk (s : ByteArray) (i : Int) (a : Option Addr) (len cap : Nat) (zs : List Nat) (w : World) (hB : Bs w a len zs) (hcap : len ≤ cap) (hT : CrcTab w) (hsm : s.size ≤ maxLen) (hr : len ≤ 140737488351232) :
    Calls Tryd.prog 4 #[.slice a len cap, .string s, .int .i64 i] w fun e w' => e = .returned (.bool true) ∧ Below w.heap.size w w' := by
  cases ho : openB zs (nums s) i with
  | none => exact opens_core s i a len cap zs w hB hcap hT hsm (by omega) [] 0 0 40 (hid rfl) (hid (.inr ⟨ho, rfl, rfl, rfl⟩))
  | some x =>
    obtain ⟨p, g⟩ := x
    exact opens_core s i a len cap zs w hB hcap hT hsm (by omega) p _ g 0 (hid rfl) (hid (.inl ⟨ho, rfl⟩))
end Go.Proofs.YtnpnldibhcncaabDoor
