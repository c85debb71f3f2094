/- dryrotplain.SameTexts of two lists of texts that are the same. -/
import Derived.Test.YtplielcjfmomlaaDoorMf
namespace Go.Proofs.YtplielcjfmomlaaDoor
open Go.RowKit Go.Maps
set_option linter.unusedVariables false

/-- A list of texts in memory, wherever it lies. -/
def Tls (w : World) (a : Option Addr) (len : Nat) (rs : List (List Nat)) : Prop :=
  rs.length = len ∧ len ≤ maxLen ∧ (a = none → len = 0) ∧ ∀ x, a = some x → ∀ (j : Nat) (z : List Nat), rs[j]? = some z → ∃ (b : Option Addr) (c : Nat), w.cell? (x.add j) = some (.slice b z.length c) ∧ Bs w b z.length z

theorem Tls.below {w w' : World} {a : Option Addr} {len : Nat} {rs : List (List Nat)} (h : Tls w a len rs) (hb : Below w.heap.size w w') : Tls w' a len rs := by
  obtain ⟨h1, h2, h3, h4⟩ := h
  refine ⟨h1, h2, h3, fun x hx j z hz => ?_⟩
  obtain ⟨b, c, hc, hB⟩ := h4 x hx j z hz
  exact ⟨b, c, (hb.cell (block_lt_of_cell hc)).trans hc, hB.below hb⟩

theorem Tls.at {w : World} {a : Option Addr} {len j : Nat} {rs : List (List Nat)} {z : List Nat} (h : Tls w a len rs) (hz : rs[j]? = some z) :
    ∃ b off b2 c, a = some ⟨b, off, none⟩ ∧ w.cell? ⟨b, off + j, none⟩ = some (.slice b2 z.length c) ∧ Bs w b2 z.length z := by
  obtain ⟨h1, h2, h3, h4⟩ := h
  cases a with
  | none =>
    have := h3 rfl
    have := (List.getElem?_eq_some_iff.1 hz).1
    omega
  | some x =>
    obtain ⟨b, off, spot⟩ := x
    obtain ⟨z0, hz0⟩ : ∃ z0, rs[0]? = some z0 := ⟨_, List.getElem?_eq_getElem (by have := (List.getElem?_eq_some_iff.1 hz).1; omega)⟩
    obtain ⟨_, _, hc0, _⟩ := h4 _ rfl 0 z0 hz0
    have hspot : spot = none := by simpa [Addr.add] using World.cell?_spot hc0
    subst hspot
    obtain ⟨b2, c, hc, hB⟩ := h4 _ rfl j z hz
    rw [add_none] at hc
    exact ⟨b, off, b2, c, rfl, hc, hB⟩

theorem Txs.tls {w : World} {base : Nat} {v : Value} {rs : List (List Nat)} (h : Txs w base v rs) : ∃ a c, v = .slice a rs.length c ∧ Tls w a rs.length rs := by
  obtain ⟨vs, h1, h2⟩ := h
  rcases h1.2 with ⟨hv, h0⟩ | ⟨g, cap, cur, hv, _, hg, hle, hcm, _, hc⟩
  · refine ⟨none, 0, by rw [hv, h0], rfl, by rw [h0]; exact Nat.zero_le _, fun _ => h0, fun x hx => by cases hx⟩
  · refine ⟨some ⟨g, 0, none⟩, cap, hv, rfl, by omega, (fun e => by cases e), fun x hx j z hz => ?_⟩
    cases hx
    obtain ⟨a, c, e, hB, _⟩ := h2 j z hz
    refine ⟨a, c, ?_, hB⟩
    rw [add_none, cell_of_row _ _ _ _ _ _ hg]
    have hj := (List.getElem?_eq_some_iff.1 hz).1
    rw [← hc, List.getElem?_take, if_pos (by omega)] at e
    simpa using e

set_option maxRecDepth 100000 in
set_option maxHeartbeats 2000000 in
theorem equalFunc_same (a a' : Option Addr) (len cap cap' : Nat) (rs : List (List Nat)) (w : World) (h : Tls w a len rs) (h' : Tls w a' len rs) :
    Calls Tryd.prog 42 #[.slice a len cap, .slice a' len cap', .func (.func 40) #[] #[]] w fun e w' => e = .returned (.bool true) ∧ w' = w := by
  have hl := hidn h.1
  have hm := h.2.1
  unfold maxLen at hm
  go_enter Tryd.func42, Tryd.ntmps42
  go_wp2_with fail
  go_loopw [17] (fun iv wr => ∃ k : Nat, k ≤ len ∧ iv = .int .i64 (k : Int) ∧ wr = w) (fun iv _ => len - (intOf iv).toNat)
  case atStart => exact ⟨0, Nat.zero_le _, rfl, rfl⟩
  case round =>
    obtain ⟨k, hk, rfl, rfl⟩ := hrel
    by_cases hlt : k < len
    · have hlt2 : (k : Int) < (len : Int) := by omega
      obtain ⟨z, hz⟩ : ∃ z, rs[k]? = some z := ⟨_, List.getElem?_eq_getElem (by rw [hl.out]; exact hlt)⟩
      obtain ⟨b, off, b2, c2, rfl, hc, hB⟩ := h.at hz
      obtain ⟨b', off', b2', c2', rfl, hc', hB'⟩ := h'.at hz
      have HEQ := hidn (equal_any b2 b2' z.length c2 z.length c2' z z wr hB hB')
      obtain ⟨zl, hzl⟩ : ∃ zl, zl = z.length := ⟨_, rfl⟩
      rw [← hzl] at HEQ hc hc'
      clear hz hB hB' hzl
      go_wp2_with fail
      refine HEQ.out.mono ?_
      clear HEQ
      rintro e w2 ⟨rfl, rfl⟩
      go_wp2
      go_roundw
      case rel => exact ⟨k + 1, hlt, by simp, trivial⟩
      case measure => simp [intOf]; omega
    · have hlt2 : ¬ (k : Int) < (len : Int) := by omega
      go_wp2
      go_ret
      exact ⟨rfl, rfl⟩

set_option maxHeartbeats 1000000 in
theorem sameTexts_same (a a' : Option Addr) (len cap cap' : Nat) (rs : List (List Nat)) (w : World) (h : Tls w a len rs) (h' : Tls w a' len rs) :
    Calls Tryd.prog 21 #[.slice a len cap, .slice a' len cap'] w fun e w' => e = .returned (.bool true) ∧ w' = w := by
  have H := hidn (equalFunc_same a a' len cap cap' rs w h h')
  go_enter Tryd.func21, Tryd.ntmps21
  go_wp2_with fail
  refine H.out.mono ?_
  rintro e w1 ⟨rfl, rfl⟩
  go_wp2
  go_ret
  exact ⟨rfl, rfl⟩
end Go.Proofs.YtplielcjfmomlaaDoor
