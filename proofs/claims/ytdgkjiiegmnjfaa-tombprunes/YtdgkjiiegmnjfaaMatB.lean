/- match: canValue, Can. -/
import Derived.Test.YtdgkjiiegmnjfaaMatA
namespace Go.Proofs.Ytdgkjiiegmnjfaa
open Go.RowKit Go.Joins
set_option linter.unusedVariables false

theorem empty_of_size {v : ByteArray} (h : v.size = 0) : v = ⟨#[]⟩ := by
  cases v with
  | mk d =>
    have : d.size = 0 := h
    have : d = #[] := Array.eq_empty_of_size_eq_zero this
    rw [this]
theorem toList_ne {v : ByteArray} (h : ¬ v.size = 0) : ¬ v.toList = [] := by
  intro e
  apply h
  have h1 : v.toList = v.data.toList := by cases v; exact ByteArray.toList_mk _
  rw [h1] at e
  have h2 : v.data.toList.length = 0 := by rw [e]; rfl
  rw [Array.length_toList] at h2
  exact h2
set_option maxHeartbeats 2000000 in
set_option maxRecDepth 100000 in
theorem canValue_any (m : Mat) (w : World) (hv : m.v.size ≤ maxLen) :
    Calls Try.prog 29 #[.agg #[.int .i64 m.k, .string m.n, .string m.v]] w fun e w' => e = .returned (.bool (valM m.k m.v)) ∧ Below w.heap.size w w' := by
  obtain ⟨k, n, v⟩ := m
  simp only at hv ⊢
  obtain ⟨Z, hZ⟩ : ∃ Z, Z = valM k v := ⟨_, rfl⟩
  rw [← hZ]
  have HZ := hidn hZ
  clear hZ
  by_cases k12 : k = 1 ∨ k = 2
  · have hS : Hid (Z = (decide (v.size = 0) || valueOK v)) := hidn (by rw [HZ.out]; unfold valM; rw [if_pos k12])
    by_cases v0 : v.size = 0
    · have e0 := empty_of_size v0
      subst e0
      have hS2 : Hid (Z = true) := hidn (by rw [hS.out]; rfl)
      rcases k12 with rfl | rfl
      all_goals
        go_enter Try.func29, Try.ntmps29
        go_wp2_with fail
        exact bodyPost_ret (v := .bool true) (by simp [results, Try.results29, go_sem]) rfl ⟨by rw [hS2.out], (Below.refl _ w).alloc (Nat.le_refl _) _⟩
    · have hS2 : Hid (Z = valueOK v) := hidn (by rw [hS.out]; simp [v0])
      have g0 := toList_ne v0
      rcases k12 with rfl | rfl
      all_goals
        go_enter Try.func29, Try.ntmps29
        go_wp2_with fail
        refine (value_any v _ hv).mono ?_
        rintro e w1 ⟨rfl, b1⟩
        rw [← hS2.out]
        go_wp2_with fail
        exact bodyPost_ret (v := .bool Z) (by simp [results, Try.results29, go_sem, g0]) rfl ⟨rfl, below_al b1⟩
  · have k1 : (k == 1) = false := beq_eq_false_iff_ne.2 (fun e => k12 (Or.inl e))
    have k2 : (k == 2) = false := beq_eq_false_iff_ne.2 (fun e => k12 (Or.inr e))
    by_cases k34 : k = 3 ∨ k = 4
    · have hS : Hid (Z = (decide (checkS v = 0) && plainM v)) := hidn (by rw [HZ.out]; unfold valM; rw [if_neg k12, if_pos k34])
      by_cases c0 : checkS v = 0
      · have hS2 : Hid (Z = plainM v) := hidn (by rw [hS.out]; simp [c0])
        have HC := hidn c0
        clear c0 k12
        rcases k34 with rfl | rfl
        all_goals
          go_enter Try.func29, Try.ntmps29
          go_wp2_with fail
          refine (rx_check_any v _ hv).mono ?_
          rintro e w1 ⟨rfl, b1⟩
          rw [HC.out]
          have cv : w1.cell? ⟨w.heap.size, 2, none⟩ = some (.string v) := by
            rw [World.cell?_of_block (b1.block w.heap.size (by simp)), cell_of_row _ _ _ _ _ _ (heap_alloc_new w _)]
            rfl
          go_wp2_with fail
          refine (isPlain_any v _ hv).mono ?_
          rintro e w2 ⟨rfl, b2⟩
          rw [← hS2.out]
          have B2 := below_al (b1.trans (b2.mono b1.size))
          go_wp2_with fail
          exact bodyPost_ret (v := .bool Z) (by simp [results, Try.results29, go_sem]) rfl ⟨rfl, B2⟩
      · have hS2 : Hid (Z = false) := hidn (by rw [hS.out]; simp [c0])
        have c1 : (checkS v == 0) = false := beq_eq_false_iff_ne.2 c0
        clear c0 k12
        rcases k34 with rfl | rfl
        all_goals
          go_enter Try.func29, Try.ntmps29
          go_wp2_with fail
          refine (rx_check_any v _ hv).mono ?_
          rintro e w1 ⟨rfl, b1⟩
          go_wp2_with fail
          exact bodyPost_ret (v := .bool false) (by simp [results, Try.results29, go_sem]) rfl ⟨by rw [hS2.out], below_al b1⟩
    · have k3 : (k == 3) = false := beq_eq_false_iff_ne.2 (fun e => k34 (Or.inl e))
      have k4 : (k == 4) = false := beq_eq_false_iff_ne.2 (fun e => k34 (Or.inr e))
      have hS2 : Hid (Z = false) := hidn (by rw [HZ.out]; unfold valM; rw [if_neg k12, if_neg k34])
      clear k12 k34
      go_enter Try.func29, Try.ntmps29
      go_wp2_with fail
      exact bodyPost_ret (v := .bool false) (by simp [results, Try.results29, go_sem]) rfl ⟨by rw [hS2.out], (Below.refl _ w).alloc (Nat.le_refl _) _⟩

/-- A slice of matchers. -/
def Mss (w : World) (a : Option Addr) (len : Nat) (ms : List Mat) : Prop :=
  ms.length = len ∧ len ≤ maxLen ∧ (a = none → len = 0) ∧ (∀ m ∈ ms, m.n.size ≤ maxLen ∧ m.v.size ≤ maxLen) ∧
    ∀ x, a = some x → ∀ j m, ms[j]? = some m → w.cell? (x.add (j * 3)) = some (.int .i64 m.k) ∧ w.cell? (x.add (j * 3 + 1)) = some (.string m.n) ∧ w.cell? (x.add (j * 3 + 2)) = some (.string m.v)
theorem Mss.below {w w' : World} {a : Option Addr} {len : Nat} {ms : List Mat} (h : Mss w a len ms) (hb : Below w.heap.size w w') : Mss w' a len ms := by
  obtain ⟨h1, h2, h3, h4, h5⟩ := h
  refine ⟨h1, h2, h3, h4, fun x hx j m hm => ?_⟩
  obtain ⟨a1, a2, a3⟩ := h5 x hx j m hm
  exact ⟨(hb.cell (block_lt_of_cell a1)).trans a1, (hb.cell (block_lt_of_cell a2)).trans a2, (hb.cell (block_lt_of_cell a3)).trans a3⟩
theorem Mss.at {w : World} {a : Option Addr} {len j : Nat} {ms : List Mat} {m : Mat} (h : Mss w a len ms) (hm : ms[j]? = some m) :
    ∃ b off, a = some ⟨b, off, none⟩ ∧ w.cell? ⟨b, off + j * 3, none⟩ = some (.int .i64 m.k) ∧ w.cell? ⟨b, off + j * 3 + 1, none⟩ = some (.string m.n) ∧ w.cell? ⟨b, off + j * 3 + 2, none⟩ = some (.string m.v) ∧ m.n.size ≤ maxLen ∧ m.v.size ≤ maxLen := by
  obtain ⟨h1, h2, h3, h4, h5⟩ := h
  have hjl : j < ms.length := (List.getElem?_eq_some_iff.1 hm).1
  cases a with
  | none => have := h3 rfl; omega
  | some x =>
    obtain ⟨b, off, spot⟩ := x
    obtain ⟨m0, hm0⟩ : ∃ m0, ms[0]? = some m0 := ⟨_, List.getElem?_eq_getElem (by omega)⟩
    have h0 := (h5 _ rfl 0 m0 hm0).1
    have hspot : spot = none := by simpa [Addr.add] using World.cell?_spot h0
    subst hspot
    obtain ⟨a1, a2, a3⟩ := h5 _ rfl j m hm
    rw [xadd_none] at a1 a2 a3
    exact ⟨b, off, rfl, a1, by rw [Nat.add_assoc]; exact a2, by rw [Nat.add_assoc]; exact a3, (h4 m (List.mem_of_getElem? hm)).1, (h4 m (List.mem_of_getElem? hm)).2⟩
def canL (ms : List Mat) : Bool := decide (ms.length ≤ 6) && ms.all canM
end Go.Proofs.Ytdgkjiiegmnjfaa
