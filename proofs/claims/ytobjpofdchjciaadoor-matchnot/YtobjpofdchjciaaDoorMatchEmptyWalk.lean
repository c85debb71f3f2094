/- MatchEmpty: the law. -/
import Derived.Test.YtobjpofdchjciaaDoorMatH
namespace Go.Proofs.YtobjpofdchjciaaDoor
open Go.RowKit Go.Joins
set_option linter.unusedVariables false
def LP : List St := [⟨false, false, [], [2]⟩, ⟨false, false, [], []⟩, ⟨false, false, [], [3]⟩, ⟨false, false, [], [5]⟩, ⟨false, false, [], [1]⟩, ⟨false, false, [], [4]⟩]
theorem read_par : readS ⟨#[40, 41]⟩ = some (LP, 0, 1) := by rfl
theorem fits_LP (s : ByteArray) : fitsS LP 0 1 s = decide (s.size = 0) := by
  have h0 : reachF LP 1 (LP.length + 1) 0 (List.replicate LP.length 0, []) = ([1, 1, 1, 1, 1, 1], []) := by rfl
  unfold fitsS
  rw [h0]
  simp only [fitsF]
  by_cases h : 0 < s.size
  · have e : decide (s.size = 0) = false := decide_eq_false (fun e => by rw [e] at h; exact Nat.lt_irrefl 0 h)
    rw [if_pos h, e]
    simp [passF]
  · have e : decide (s.size = 0) = true := decide_eq_true (Nat.eq_zero_of_not_pos h)
    rw [if_neg h, e]
    rfl
theorem match_par (s : ByteArray) : matchS ⟨#[40, 41]⟩ s = (decide (s.size = 0), 0) := by
  unfold matchS
  rw [read_par]
  simp only
  rw [fits_LP]
theorem getL_size (ls : List Lab) (n : ByteArray) (B : Nat) (h : ∀ x ∈ ls, x.2.size ≤ B) : (getL ls n).size ≤ B := by
  induction ls with
  | nil => exact Nat.zero_le _
  | cons x t ih =>
    unfold getL
    split
    · exact h x (by simp)
    · exact ih (fun y hy => h y (by simp [hy]))
theorem empty_eq (G : ByteArray) : (G.toList == (⟨#[]⟩ : ByteArray).toList) = decide (G.size = 0) := by
  have h1 : G.toList = G.data.toList := by cases G; exact ByteArray.toList_mk _
  have h2 : (⟨#[]⟩ : ByteArray).toList = [] := ByteArray.toList_mk _
  rw [h1, h2]
  by_cases h : G.size = 0
  · rw [decide_eq_true h]
    have : G.data.toList = [] := List.eq_nil_of_length_eq_zero (by rw [Array.length_toList]; exact h)
    rw [this]; rfl
  · rw [decide_eq_false h]
    have : G.data.toList ≠ [] := fun e => h (by
      have h3 : G.data.toList.length = 0 := by rw [e]; rfl
      rw [Array.length_toList] at h3
      exact h3)
    simpa using this
set_option maxHeartbeats 2000000 in
set_option maxRecDepth 100000 in
theorem matchEmpty_walk (la : Option Addr) (llen lcap : Nat) (ls : List Lab) (n : ByteArray) (w : World) (ht : SignTab w) (hL : Ls w la llen ls) (hr : llen ≤ 140737488355328) (hsz : ∀ x ∈ ls, x.2.size ≤ 140737488355328) :
    Calls Tryd.prog 5 #[.slice la llen lcap, .string n] w fun e w' => e = .returned (.bool true) ∧ Below w.heap.size w w' := by
  have hG := getL_size ls n _ hsz
  obtain ⟨nb, hnb⟩ : ∃ nb, nb = decide ((getL ls n).size = 0) := ⟨_, rfl⟩
  have hE := empty_eq (getL ls n)
  rw [← hnb] at hE
  have hm := match_par (getL ls n)
  rw [← hnb] at hm
  have o1 : Hid (oneM ⟨1, n, ⟨#[]⟩⟩ ls = nb) := hidn (by rw [← hE]; rfl)
  have o2 : Hid (oneM ⟨2, n, ⟨#[]⟩⟩ ls = !nb) := hidn (by rw [← hE]; rfl)
  have o3 : Hid (oneM ⟨3, n, ⟨#[40, 41]⟩⟩ ls = nb) := hidn (by
    show (decide ((matchS ⟨#[40, 41]⟩ (getL ls n)).2 = 0) && (matchS ⟨#[40, 41]⟩ (getL ls n)).1) = nb
    rw [hm]
    cases nb <;> rfl)
  have HC3 := hidn (fun (w' : World) (hl : Ls w' la llen ls) => one_like ⟨3, n, ⟨#[40, 41]⟩⟩ la llen lcap ls w' hl hr rfl hG (by show (⟨#[40, 41]⟩ : ByteArray).size ≤ maxLen; decide))
  have HN := hidn hnb
  clear hG
  clear hm hnb
  go_enter Tryd.func5, Tryd.ntmps5
  go_wp2_with fail
  refine (refGet_any la llen lcap ls n _ hL hr).mono ?_
  rintro e w1 ⟨rfl, b1⟩
  have hE2 : ((getL ls n).toList == []) = nb := by
    rw [← hE, show (⟨#[]⟩ : ByteArray).toList = [] from ByteArray.toList_mk _]
  generalize getL ls n = G at *
  go_wp2_with fail
  refine (one_is ⟨1, n, ⟨#[]⟩⟩ la llen lcap ls _ (hL.below b1) hr rfl).mono ?_
  rintro e w2 ⟨rfl, b2⟩
  rw [o1.out]
  have B2 := b1.trans (b2.mono b1.size)
  go_wp2_with fail
  refine (one_not ⟨2, n, ⟨#[]⟩⟩ la llen lcap ls _ (hL.below B2) hr rfl).mono ?_
  rintro e w3 ⟨rfl, b3⟩
  rw [o2.out]
  have B3 := B2.trans (b3.mono B2.size)
  go_wp2_with fail
  refine (HC3.out _ (hL.below B3)).mono ?_
  rintro e w4 ⟨rfl, b4⟩
  rw [o3.out]
  have B4 := B3.trans (b4.mono B3.size)
  cases nb with
  | true =>
    go_wp2_with fail
    refine (awake9 _ (ht.below B4)).mono ?_
    rintro e w5 ⟨rfl, b5⟩
    have B5 := B4.trans (b5.mono B4.size)
    go_wp2_with fail
    exact bodyPost_ret (v := .bool true) (by simp [results, Tryd.results5, go_sem]) rfl ⟨rfl, B5⟩
  | false =>
    go_wp2_with fail
    refine (awake9 _ (ht.below B4)).mono ?_
    rintro e w5 ⟨rfl, b5⟩
    have B5 := B4.trans (b5.mono B4.size)
    go_wp2_with fail
    exact bodyPost_ret (v := .bool true) (by simp [results, Tryd.results5, go_sem]) rfl ⟨rfl, B5⟩
end Go.Proofs.YtobjpofdchjciaaDoor
