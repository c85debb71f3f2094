/- The walk of bits.TakeInt. -/
import Derived.Test.YtfgfkifdokeefaaGreatDoorTakeInt
import Derived.Test.YtfgfkifdokeefaaGreatDoorLaw2
namespace Go.Proofs.YtfgfkifdokeefaaGreatDoor.Cd
open Go.RowKit
set_option linter.unusedVariables false

/-- What taking a number answers, whatever it is given. -/
def TI (zs : List Nat) (x at_ : Int) (v to e : Int) : Prop :=
  (¬ (canB zs x = true ∧ 0 ≤ at_ ∧ at_ ≤ x) ∧ v = 0 ∧ to = 0 ∧ e = 1) ∨
  ((canB zs x = true ∧ 0 ≤ at_ ∧ at_ ≤ x) ∧ ∃ k er, CAt zs x.toNat at_.toNat k er ∧
    ((er ≠ 0 ∧ v = 0 ∧ to = 0 ∧ e = er) ∨ (er = 0 ∧
      ((x.toNat < at_.toNat + clsMarks k + clsWidth k ∧ v = 0 ∧ to = 0 ∧ e = 3) ∨
       (at_.toNat + clsMarks k + clsWidth k ≤ x.toNat ∧
         ((cls (sgn (numOf (win zs (at_.toNat + clsMarks k) (clsWidth k))) (clsWidth k)) ≠ k ∧ v = 0 ∧ to = 0 ∧ e = 5) ∨
          (cls (sgn (numOf (win zs (at_.toNat + clsMarks k) (clsWidth k))) (clsWidth k)) = k ∧ v = sgn (numOf (win zs (at_.toNat + clsMarks k) (clsWidth k))) (clsWidth k) ∧ to = ((at_.toNat + clsMarks k + clsWidth k : Nat) : Int) ∧ e = 0)))))))

theorem TI.unique {zs : List Nat} {x at_ v v' to to' e e' : Int} (h : TI zs x at_ v to e) (h' : TI zs x at_ v' to' e') : v = v' ∧ to = to' ∧ e = e' := by
  rcases h with ⟨g, rfl, rfl, rfl⟩ | ⟨g, k, er, hc, h⟩ <;> rcases h' with ⟨g', rfl, rfl, rfl⟩ | ⟨g', k', er', hc', h'⟩
  · exact ⟨rfl, rfl, rfl⟩
  · exact absurd g' g
  · exact absurd g g'
  · obtain ⟨rfl, rfl⟩ := hc.unique hc'
    rcases h with ⟨g1, rfl, rfl, rfl⟩ | ⟨g1, h⟩ <;> rcases h' with ⟨g1', rfl, rfl, rfl⟩ | ⟨g1', h'⟩
    · exact ⟨rfl, rfl, rfl⟩
    · exact absurd g1' g1
    · exact absurd g1 g1'
    · rcases h with ⟨g2, rfl, rfl, rfl⟩ | ⟨g2, h⟩ <;> rcases h' with ⟨g2', rfl, rfl, rfl⟩ | ⟨g2', h'⟩
      · exact ⟨rfl, rfl, rfl⟩
      · omega
      · omega
      · rcases h with ⟨g3, rfl, rfl, rfl⟩ | ⟨g3, rfl, rfl, rfl⟩ <;> rcases h' with ⟨g3', rfl, rfl, rfl⟩ | ⟨g3', rfl, rfl, rfl⟩
        · exact ⟨rfl, rfl, rfl⟩
        · exact absurd g3' g3
        · exact absurd g3 g3'
        · exact ⟨rfl, rfl, rfl⟩

theorem CAt.marks {zs : List Nat} {n at_ k : Nat} (h : CAt zs n at_ k 0) : k ≤ 4 ∧ at_ + clsMarks k ≤ n := by
  rcases h with ⟨_, h4, ho, hz⟩ | ⟨h, _⟩
  · refine ⟨h4, ?_⟩
    have hk5 : k = 0 ∨ k = 1 ∨ k = 2 ∨ k = 3 ∨ k = 4 := by omega
    rcases hk5 with rfl | rfl | rfl | rfl | rfl
    · have := hz (by omega); simp [clsMarks]; omega
    · have := hz (by omega); simp [clsMarks]; omega
    · have := hz (by omega); simp [clsMarks]; omega
    · have := hz (by omega); simp [clsMarks]; omega
    · have := ho 3 (by omega); simp [clsMarks]; omega
  · cases h

theorem sgn_bounds (word k : Nat) (hk : k ≤ 4) (hw : word < 2 ^ clsWidth k) : -9223372036854775808 ≤ sgn word (clsWidth k) ∧ sgn word (clsWidth k) ≤ 9223372036854775807 := by
  have hk5 : k = 0 ∨ k = 1 ∨ k = 2 ∨ k = 3 ∨ k = 4 := by omega
  rcases hk5 with rfl | rfl | rfl | rfl | rfl <;> simp [clsWidth] at hw ⊢ <;> unfold sgn <;> split <;> omega

set_option maxHeartbeats 4000000 in
theorem takeInt_any (a : Option Addr) (len cap : Nat) (x at_ : Int) (zs : List Nat) (w : World) (hB : Bs w a len zs) (hx : x ≤ 9223372036854775807) (hm : len ≤ 137438953472) (hT : BitsTab w) :
    Calls Tryz.prog 269 #[.agg #[.slice a len cap, .int .i64 x], .int .i64 at_] w fun e w' =>
      ∃ v to er : Int, e = .returned (.tuple #[.int .i64 v, .int .i64 to, .int .i64 er]) ∧ TI zs x at_ v to er ∧ Below w.heap.size w w' := by
  have h0 : Below w.heap.size w (w.alloc (.cells #[.slice a len cap, .int .i64 x] 282)) := (Below.refl w.heap.size w).alloc (Nat.le_refl _) _
  have hB2 := hB.below h0
  go_enter Tryz.func269, Tryz.ntmps269
  go_wp2_with fail
  refine (can_any a len cap x zs _ hB2 hx).mono ?_
  rintro e w1 ⟨rfl, hb1⟩
  have c0 : w1.cell? ⟨w.heap.size, 0, none⟩ = some (.slice a len cap) := (hb1.cell (by simp)).trans (by simp)
  have c1 : w1.cell? ⟨w.heap.size, 1, none⟩ = some (.int .i64 x) := (hb1.cell (by simp)).trans (by simp)
  have hbw := h0.trans (hb1.mono (by simp))
  clear hb1 h0 hB2
  cases hcan : canB zs x with
  | false =>
    have HT : Hid (TI zs x at_ 0 0 1) := .inl ⟨(fun h => by rw [hcan] at h; cases h.1), rfl, rfl, rfl⟩
    clear hcan
    go_wp2
    go_ret3
    exact ⟨0, 0, 1, rfl, HT.out, hbw⟩
  | true =>
    have HC : Hid _ := hcan
    clear hcan
    go_wp2_with fail
    refine (isPlace_any a len cap x at_ _).mono ?_
    rintro e w2 ⟨rfl, hb2⟩
    have c0' := (hb2.cell (block_lt_of_cell c0)).trans c0
    have c1' := (hb2.cell (block_lt_of_cell c1)).trans c1
    have hbw2 := hbw.trans (hb2.mono hbw.size)
    clear c0 c1 hb2 hbw
    by_cases hp : 0 ≤ at_ ∧ at_ ≤ x
    · rw [decide_eq_true hp]
      obtain ⟨q, rfl⟩ := Int.eq_ofNat_of_zero_le hp.1
      obtain ⟨n, rfl⟩ := Int.eq_ofNat_of_zero_le (show 0 ≤ x by omega)
      have hn : n ≤ 8 * len := by
        have := ((canB_iff zs n).1 HC.out).2.1
        rw [Int.toNat_natCast, hB.1] at this
        unfold nb at this
        omega
      have HP : Hid _ := hp
      have hqn : q ≤ n := by omega
      clear hp
      go_wp2_with fail
      refine (classAt_any a len cap n q zs _ (hB.below hbw2) (by omega) hm HC.out hqn).mono ?_
      rintro e w3 ⟨k, er, rfl, hcat, hb3⟩
      have c0_3 := (hb3.cell (block_lt_of_cell c0')).trans c0'
      have c1_3 := (hb3.cell (block_lt_of_cell c1')).trans c1'
      have hbw3 := hbw2.trans (hb3.mono hbw2.size)
      have hT3 := hT.below hbw3
      clear c0' c1' hb3 hbw2 hT
      by_cases her : er = 0
      · subst her
        obtain ⟨hk4, hmk⟩ := hcat.marks
        obtain ⟨t0, t1, t2⟩ := hT3 k hk4
        have hMk := clsMarks_le k
        have hWk := clsWidth_le k
        have HCA : Hid (CAt zs n q k 0) := hcat
        have hz3 : w.heap.size < w3.heap.size := block_lt_of_cell c0_3
        have hBx := hB.below (hbw3.alloc hbw3.size (.cells #[.int .u64 (clsMark k : Nat), .int .i64 (clsMarks k : Nat), .int .i64 (clsWidth k : Nat)] 363))
        clear hcat
        go_wp2_with fail
        refine (take_all a len cap n ((q : Int) + (clsMarks k : Nat)) (clsWidth k : Nat) zs _ hBx (by omega) hm).mono ?_
        rintro e w4 ⟨rfl, hb4⟩
        have d1 : w4.cell? ⟨w3.heap.size, 1, none⟩ = some (.int .i64 (clsMarks k : Nat)) := (hb4.cell (by simp)).trans (by simp)
        have d2 : w4.cell? ⟨w3.heap.size, 2, none⟩ = some (.int .i64 (clsWidth k : Nat)) := (hb4.cell (by simp)).trans (by simp)
        have hbw4 : Below w.heap.size w w4 := (hbw3.alloc hbw3.size _).trans (hb4.mono (by rw [World.size_alloc]; omega))
        clear hb4 hBx t0 t1 t2 c0_3 c1_3 hT3
        by_cases hfit : q + clsMarks k + clsWidth k ≤ n
        · have e1 : tE zs n ((q : Int) + (clsMarks k : Nat)) (clsWidth k : Nat) = 0 := by
            unfold tE
            rw [if_neg (fun hh => hh ⟨HC.out, ⟨by omega, by omega⟩, by omega, by omega⟩), if_neg (by omega)]
          have e2 : tV zs n ((q : Int) + (clsMarks k : Nat)) (clsWidth k : Nat) = numOf (win zs (q + clsMarks k) (clsWidth k)) := by
            unfold tV
            rw [if_pos e1, show ((q : Int) + (clsMarks k : Nat)).toNat = q + clsMarks k from by omega, Int.toNat_natCast]
          rw [e1, e2]
          clear e1 e2
          have hwd : numOf (win zs (q + clsMarks k) (clsWidth k)) < 2 ^ clsWidth k := by
            have := numOf_lt (win zs (q + clsMarks k) (clsWidth k))
            rwa [win_length] at this
          obtain ⟨word, hword⟩ : ∃ word, word = numOf (win zs (q + clsMarks k) (clsWidth k)) := ⟨_, rfl⟩
          rw [← hword] at hwd ⊢
          have HW : Hid _ := hword
          clear hword
          go_wp2_with fail
          refine (signed_any word k _ hk4 hwd).mono ?_
          rintro e w4 ⟨rfl, rfl⟩
          obtain ⟨sb0, sb1⟩ := sgn_bounds word k hk4 hwd
          go_wp2_with fail
          refine (leastClass_any _ _).mono ?_
          rintro e w4 ⟨rfl, rfl⟩
          by_cases hcl : cls (sgn word (clsWidth k)) = k
          · have HT : Hid (TI zs n q (sgn word (clsWidth k)) ((q + clsMarks k + clsWidth k : Nat) : Int) 0) :=
              .inr ⟨⟨HC.out, HP.out⟩, k, 0, HCA.out, .inr ⟨rfl, .inr ⟨hfit, .inr ⟨by rw [Int.toNat_natCast, ← HW.out]; exact hcl, by rw [Int.toNat_natCast, ← HW.out], by rw [Int.toNat_natCast], rfl⟩⟩⟩⟩
            have bne : (((cls (sgn word (clsWidth k)) : Nat) : Int) != (k : Int)) = false := by rw [bne_eq_false_iff_eq]; omega
            clear hcl
            generalize cls (sgn word (clsWidth k)) = cc at *
            generalize sgn word (clsWidth k) = sv at *
            go_wp2
            go_quiet (fail)
            go_wp2
            go_ret3
            exact ⟨sv, _, 0, (by rw [show ((q + clsMarks k + clsWidth k : Nat) : Int) = (q : Int) + (clsMarks k : Nat) + (clsWidth k : Nat) from by push_cast; rfl]; rfl), HT.out, below_drewN hbw4 _⟩
          · have HT : Hid (TI zs n q 0 0 5) :=
              .inr ⟨⟨HC.out, HP.out⟩, k, 0, HCA.out, .inr ⟨rfl, .inr ⟨hfit, .inl ⟨by rw [Int.toNat_natCast, ← HW.out]; exact hcl, rfl, rfl, rfl⟩⟩⟩⟩
            have bne : (((cls (sgn word (clsWidth k)) : Nat) : Int) != (k : Int)) = true := by rw [bne_iff_ne]; omega
            clear hcl
            generalize cls (sgn word (clsWidth k)) = cc at *
            generalize sgn word (clsWidth k) = sv at *
            go_wp2
            go_ret3
            exact ⟨0, 0, 5, rfl, HT.out, hbw4⟩
        · have e1 : tE zs n ((q : Int) + (clsMarks k : Nat)) (clsWidth k : Nat) = 3 := by
            unfold tE
            rw [if_neg (fun hh => hh ⟨HC.out, ⟨by omega, by omega⟩, by omega, by omega⟩), if_pos (by omega)]
          have e2 : tV zs n ((q : Int) + (clsMarks k : Nat)) (clsWidth k : Nat) = 0 := by unfold tV; rw [e1]; rfl
          rw [e1, e2]
          have HT : Hid (TI zs n q 0 0 3) :=
            .inr ⟨⟨HC.out, HP.out⟩, k, 0, HCA.out, .inr ⟨rfl, .inl ⟨by rw [Int.toNat_natCast, Int.toNat_natCast]; omega, rfl, rfl, rfl⟩⟩⟩
          clear e1 e2 hfit
          go_wp2
          go_ret3
          exact ⟨0, 0, 3, rfl, HT.out, hbw4⟩
      · have HT : Hid (TI zs n q 0 0 er) := .inr ⟨⟨HC.out, HP.out⟩, k, er, hcat, .inl ⟨her, rfl, rfl, rfl⟩⟩
        have bne : (er != 0) = true := by rw [bne_iff_ne]; exact her
        clear her hcat hT3
        go_wp2
        go_ret3
        exact ⟨0, 0, er, rfl, HT.out, hbw3⟩
    · rw [decide_eq_false hp]
      have HT : Hid (TI zs x at_ 0 0 1) := .inl ⟨fun h => hp h.2, rfl, rfl, rfl⟩
      clear hp
      go_wp2
      go_ret3
      exact ⟨0, 0, 1, rfl, HT.out, hbw2⟩

end Go.Proofs.YtfgfkifdokeefaaGreatDoor.Cd
