/- The walk of the document's TakeInt. -/
import Derived.Test.YtdpoiodaonhjiabDoorRefInts
namespace Go.Proofs.YtdpoiodaonhjiabDoor
open Go.RowKit
set_option linter.unusedVariables false

theorem rtake_int (v : Value) (n base : Nat) (at_ count : Int) (zs : List Nat) (w : World) (hown : w.ownsRow base 4 1 v n (vt (bitsL zs n))) (h0 : 0 ≤ at_) (hc0 : 0 ≤ count) (hc : count ≤ 64) (hfit : at_ + count ≤ n) :
    Calls Tryd.prog 23 #[v, .int .i64 at_, .int .i64 count] w fun e w' => e = .returned (.int .u64 (numOf (win zs at_.toNat count.toNat) : Nat)) ∧ w' = w := by
  obtain ⟨p, rfl⟩ := Int.eq_ofNat_of_zero_le h0
  obtain ⟨c, rfl⟩ := Int.eq_ofNat_of_zero_le hc0
  rw [Int.toNat_natCast, Int.toNat_natCast, ← bitsL_win zs n p c (by omega)]
  exact rtake_any v n base p c _ w hown (by omega) (by omega)
theorem numOf_cons (b : Bool) (l : List Bool) : numOf (b :: l) = b.toNat * 2 ^ l.length + numOf l := by
  suffices H : ∀ (l : List Bool) (a : Nat), l.foldl (fun n b => n * 2 + b.toNat) a = a * 2 ^ l.length + numOf l by
    have := H l b.toNat
    simpa [numOf] using this
  intro l
  induction l with
  | nil => intro a; simp [numOf]
  | cons c t ih =>
    intro a
    simp only [List.foldl_cons, List.length_cons, numOf]
    rw [ih, ih (0 * 2 + c.toNat), Nat.pow_succ, Nat.add_mul]
    simp only [Nat.zero_mul, Nat.zero_add]
    rw [Nat.mul_comm (2 ^ t.length) 2, ← Nat.mul_assoc]
    omega
theorem win_cons (zs : List Nat) (p m : Nat) : win zs p (m + 1) = bitAt zs p :: win zs (p + 1) m := by
  unfold win
  rw [List.range_succ_eq_map, List.map_cons, List.map_map]
  congr 1
  apply List.map_congr_left
  intro i _
  show bitAt zs (p + (i + 1)) = bitAt zs (p + 1 + i)
  congr 1
  omega
theorem top_bit (zs : List Nat) (p m : Nat) : (bitAt zs p = true → 2 ^ m ≤ numOf (win zs p (m + 1))) ∧ (bitAt zs p = false → numOf (win zs p (m + 1)) < 2 ^ m) := by
  rw [win_cons, numOf_cons, win_length]
  have h := numOf_lt (win zs (p + 1) m)
  rw [win_length] at h
  constructor
  · intro hb; rw [hb]; simp
  · intro hb; rw [hb]; simpa using h
theorem sgn_hi {word width : Nat} (h0 : 0 < width) (h : 2 ^ (width - 1) ≤ word) : sgn word width = (word : Int) - 2 ^ width := by unfold sgn; rw [if_pos ⟨h0, h⟩]
theorem sgn_lo {word width : Nat} (h : ¬ 2 ^ (width - 1) ≤ word) : sgn word width = (word : Int) := by unfold sgn; rw [if_neg (fun hh => h hh.2)]
theorem own_of_below' {w w' : World} {base e n : Nat} {v : Value} {xs : List Value} (h : w.ownsRow base e 1 v n xs) (hb : Below w.heap.size w w') : w'.ownsRow base e 1 v n xs := by
  obtain ⟨hl, h1⟩ := h
  refine ⟨hl, ?_⟩
  rcases h1 with h1 | ⟨g, cap, cur, hv, hg, hh, hnc, hcm, hcs, htk⟩
  · exact .inl h1
  · refine .inr ⟨g, cap, cur, hv, hg, ?_, hnc, hcm, hcs, htk⟩
    rw [hb.block g (by have := (Array.getElem?_eq_some_iff.1 hh).1; exact this)]; exact hh
theorem ti_short {zs : List Nat} {n q k : Nat} (hc : canB zs n = true) (hq : q ≤ n) (hcat : CAt zs n q k 0) (h : n < q + clsMarks k + clsWidth k) : TI zs n q 0 0 3 :=
  .inr ⟨⟨hc, by omega, by omega⟩, k, 0, by rw [Int.toNat_natCast, Int.toNat_natCast]; exact hcat, .inr ⟨rfl, .inl ⟨by rw [Int.toNat_natCast, Int.toNat_natCast]; exact h, rfl, rfl, rfl⟩⟩⟩
theorem ti_form {zs : List Nat} {n q k : Nat} (hc : canB zs n = true) (hq : q ≤ n) (hcat : CAt zs n q k 0) (h : q + clsMarks k + clsWidth k ≤ n) (hcl : cls (sgn (numOf (win zs (q + clsMarks k) (clsWidth k))) (clsWidth k)) ≠ k) : TI zs n q 0 0 5 :=
  .inr ⟨⟨hc, by omega, by omega⟩, k, 0, by rw [Int.toNat_natCast, Int.toNat_natCast]; exact hcat, .inr ⟨rfl, .inr ⟨by rw [Int.toNat_natCast, Int.toNat_natCast]; exact h, .inl ⟨by rw [Int.toNat_natCast]; exact hcl, rfl, rfl, rfl⟩⟩⟩⟩
theorem ti_good {zs : List Nat} {n q k : Nat} (hc : canB zs n = true) (hq : q ≤ n) (hcat : CAt zs n q k 0) (h : q + clsMarks k + clsWidth k ≤ n) {v to : Int} (hcl : cls (sgn (numOf (win zs (q + clsMarks k) (clsWidth k))) (clsWidth k)) = k)
    (hv : v = sgn (numOf (win zs (q + clsMarks k) (clsWidth k))) (clsWidth k)) (hto : to = ((q + clsMarks k + clsWidth k : Nat) : Int)) : TI zs n q v to 0 :=
  .inr ⟨⟨hc, by omega, by omega⟩, k, 0, by rw [Int.toNat_natCast, Int.toNat_natCast]; exact hcat, .inr ⟨rfl, .inr ⟨by rw [Int.toNat_natCast, Int.toNat_natCast]; exact h, .inr ⟨by rw [Int.toNat_natCast]; exact hcl, by rw [Int.toNat_natCast]; exact hv, by rw [Int.toNat_natCast]; exact hto, rfl⟩⟩⟩⟩

set_option maxHeartbeats 16000000 in
theorem refTakeInt_any (a : Option Addr) (len cap : Nat) (x at_ : Int) (zs : List Nat) (w : World) (hB : Bs w a len zs) (hx : x ≤ 9223372036854775807) (hm : len ≤ 137438953472) :
    Calls Tryd.prog 14 #[.agg #[.slice a len cap, .int .i64 x], .int .i64 at_] w fun e w' =>
      ∃ v to er : Int, e = .returned (.tuple #[.int .i64 v, .int .i64 to, .int .i64 er]) ∧ TI zs x at_ v to er ∧ Below w.heap.size w w' := by
  have h0 : Below w.heap.size w (w.alloc (.cells #[.slice a len cap, .int .i64 x] 24)) := (Below.refl w.heap.size w).alloc (Nat.le_refl _) _
  have hB2 := hB.below h0
  have hsm := fun h => can_small' (zs := zs) (x := x) (len := len) h hB.1
  go_enter Tryd.func14, Tryd.ntmps14
  go_wp2_with fail
  refine (list_any a len cap x zs _ hB2 hm hx).mono ?_
  rintro e w1 ⟨v, rfl, hown, hnil, hb1⟩
  have hbw := h0.trans (hb1.mono (by simp))
  clear hb1 h0 hB2
  cases hcan : canB zs x with
  | false =>
    have HT : Hid (TI zs x at_ 0 0 1) := .inl ⟨(fun h => by rw [hcan] at h; cases h.1), rfl, rfl, rfl⟩
    have hv := hnil hcan
    subst hv
    clear hown hnil hsm hcan
    go_wp2
    go_ret3
    exact ⟨0, 0, 1, rfl, HT.out, hbw⟩
  | true =>
    replace hown := hown hcan
    have hx2 := hsm hcan
    obtain ⟨n, rfl⟩ := Int.eq_ofNat_of_zero_le hx2.1
    rw [Int.toNat_natCast] at hown hx2
    obtain ⟨av, cv, hv⟩ := own_shape' hown
    subst hv
    have HC : Hid (canB zs n = true) := hcan
    have HOW : Hid _ := hown
    have hcell : ∀ p, p < n → ∃ g, av = some ⟨g, 0, none⟩ ∧ g < w1.heap.size ∧ w1.cell? ⟨g, p, none⟩ = some (.bool (bitAt zs p)) := by
      intro p hp
      have h' := hown
      rcases hown.2 with ⟨_, hh⟩ | ⟨g, cap', cur, hv, hg, hh, _⟩
      · omega
      · simp at hv
        obtain ⟨rfl, rfl⟩ := hv
        refine ⟨g, rfl, (Array.getElem?_eq_some_iff.1 hh).1, ?_⟩
        rw [h'.cellAt p (by omega), vt_getD _ _ (by rw [bitsL_length]; exact hp), bitsL_getD zs n p hp]
    clear hnil hsm hcan hown
    by_cases c3 : at_ < 0
    · have b3 : decide (at_ < 0) = true := decide_eq_true c3
      have HT : Hid (TI zs n at_ 0 0 1) := .inl ⟨(fun h => by omega), rfl, rfl, rfl⟩
      go_wp2
      go_ret3
      exact ⟨0, 0, 1, rfl, HT.out, hbw⟩
    · have b3 : decide (at_ < 0) = false := decide_eq_false c3
      by_cases c4 : (n : Int) < at_
      · have b4 : decide ((n : Int) < at_) = true := decide_eq_true c4
        have HT : Hid (TI zs n at_ 0 0 1) := .inl ⟨(fun h => by omega), rfl, rfl, rfl⟩
        go_wp2
        go_ret3
        exact ⟨0, 0, 1, rfl, HT.out, hbw⟩
      · obtain ⟨q, rfl⟩ := Int.eq_ofNat_of_zero_le (show 0 ≤ at_ by omega)
        have b4 : decide ((n : Int) < (q : Int)) = false := decide_eq_false c4
        have hqn : q ≤ n := by omega
        go_wp2
        go_loop [9, 1] (fun kv pv => ∃ k p : Nat, k ≤ 4 ∧ kv = .int .i64 k ∧ pv = .int .i64 p ∧ p ≤ n ∧ Hid (p = q + k) ∧ Hid (Ones zs n q k)) (fun kv _ => 4 - (intOf kv).toNat)
        case atStart => exact ⟨0, q, by omega, rfl, rfl, hqn, rfl, fun j hj => by omega⟩
        case round =>
          obtain ⟨k, p, hk, rfl, rfl, hpn, hp, hones⟩ := hrel
          by_cases hk4 : k < 4
          · have d4 : decide ((k : Int) < 4) = true := decide_eq_true (by omega)
            by_cases hend : p = n
            · have d5 : decide ((p : Int) < (n : Int)) = false := decide_eq_false (by omega)
              have HT : Hid (TI zs n q 0 0 3) := .inr ⟨⟨HC.out, by omega, by omega⟩, 0, 3, by rw [Int.toNat_natCast, Int.toNat_natCast]; exact .inr ⟨rfl, rfl, k, by omega, hones.out, by have := hp.out; omega⟩, .inl ⟨by decide, rfl, rfl, rfl⟩⟩
              have hnp : n ≤ p := by omega
              clear hend
              go_wp2
              go_ret3
              exact ⟨0, 0, 3, rfl, HT.out, hbw⟩
            · have d5 : decide ((p : Int) < (n : Int)) = true := decide_eq_true (by omega)
              have hpn' : p < n := by omega
              obtain ⟨g, rfl, hgl, hc⟩ := hcell p hpn'
              cases hbv : bitAt zs p with
              | true =>
                rw [hbv] at hc
                have HV : Hid (bitAt zs p = true) := hbv
                clear hbv hend
                go_wp2
                go_round
                case rel =>
                  refine ⟨k + 1, p + 1, by omega, by go_num, by go_num, by omega, ?_, ?_⟩
                  · show p + 1 = q + (k + 1)
                    have := hp.out; omega
                  · intro j hj
                    have := hp.out
                    by_cases hjk : j = k
                    · subst hjk; rw [← this]; exact ⟨hpn', HV.out⟩
                    · exact hones.out j (by omega)
                case measure => simp [intOf]; omega
              | false =>
                rw [hbv] at hc
                have HCA : Hid (CAt zs n q k 0) := .inl ⟨rfl, by omega, hones.out, fun _ => by have := hp.out; rw [← this]; exact ⟨hpn', hbv⟩⟩
                clear hbv hend hones
                have hk5 : k = 0 ∨ k = 1 ∨ k = 2 ∨ k = 3 := by omega
                rcases hk5 with rfl | rfl | rfl | rfl
                · have hpq : Hid ((p + 1) = q + clsMarks 0) := by show _ = _; have := hp.out; show (p + 1) = q + 1; omega
                  by_cases hfit : (p + 1) + 0 ≤ n
                  · have HF : Hid (q + clsMarks 0 + clsWidth 0 ≤ n) := by show _ ≤ _; have := hpq.out; show q + clsMarks 0 + 0 ≤ n; omega
                    go_wp2_with fail
                    refine (rtake_int _ n _ ((p : Int) + 1) 0 zs _ (own_of_below' HOW.out ((Below.refl _ _).alloc (Nat.le_refl _) _)) (by omega) (by omega) (by omega) (by omega)).mono ?_
                    rintro e w2 ⟨rfl, rfl⟩
                    obtain ⟨word, hword⟩ : ∃ word, word = numOf (win zs (p + 1) 0) := ⟨_, rfl⟩
                    rw [show (((p : Int) + 1)).toNat = (p + 1) from by omega, show ((0 : Int)).toNat = 0 from rfl, ← hword]
                    have hlt : word < 1 := by have := numOf_lt (win zs (p + 1) 0); rw [win_length, ← hword] at this; exact this
                    have HWD : Hid (word = numOf (win zs (q + clsMarks 0) (clsWidth 0))) := by show _ = _; rw [← hpq.out]; exact hword
                    clear hword
                    have hval : Hid ((word : Int) = sgn (numOf (win zs (q + clsMarks 0) (clsWidth 0))) (clsWidth 0)) := by
                      show _ = _
                      rw [← HWD.out]
                      obtain rfl : word = 0 := by omega
                      rfl
                    go_wp2_with fail
                    refine (class_any _ _).mono ?_
                    rintro e w3 ⟨rfl, rfl⟩
                    rw [show ((word : Int)) = sgn (numOf (win zs (q + clsMarks 0) (clsWidth 0))) (clsWidth 0) from hval.out]
                    by_cases hcl : cls (sgn (numOf (win zs (q + clsMarks 0) (clsWidth 0))) (clsWidth 0)) = 0
                    · have HT' : Hid (TI zs n q (sgn (numOf (win zs (q + clsMarks 0) (clsWidth 0))) (clsWidth 0)) ((p : Int) + 1) 0) := ti_good HC.out hqn HCA.out HF.out hcl rfl (by have := hpq.out; show ((p : Int) + 1) = ((q + clsMarks 0 + 0 : Nat) : Int); omega)
                      have bn : (((cls (sgn (numOf (win zs (q + clsMarks 0) (clsWidth 0))) (clsWidth 0)) : Nat) : Int) != 0) = false := by rw [bne_eq_false_iff_eq, hcl]; rfl
                      clear hcl
                      generalize cls (sgn (numOf (win zs (q + clsMarks 0) (clsWidth 0))) (clsWidth 0)) = cc at *
                      generalize sgn (numOf (win zs (q + clsMarks 0) (clsWidth 0))) (clsWidth 0) = sv at *
                      go_wp2
                      go_ret3
                      exact ⟨sv, _, 0, rfl, HT'.out, hbw.alloc hbw.size _⟩
                    · have HT : Hid (TI zs n q 0 0 5) := ti_form HC.out hqn HCA.out HF.out hcl
                      have bn : (((cls (sgn (numOf (win zs (q + clsMarks 0) (clsWidth 0))) (clsWidth 0)) : Nat) : Int) != 0) = true := by rw [bne_iff_ne]; omega
                      clear hcl
                      generalize cls (sgn (numOf (win zs (q + clsMarks 0) (clsWidth 0))) (clsWidth 0)) = cc at *
                      generalize sgn (numOf (win zs (q + clsMarks 0) (clsWidth 0))) (clsWidth 0) = sv at *
                      go_wp2
                      go_ret3
                      exact ⟨0, 0, 5, rfl, HT.out, hbw.alloc hbw.size _⟩
                  · omega
                · have hpq : Hid ((p + 1) = q + clsMarks 1) := by show _ = _; have := hp.out; show (p + 1) = q + 2; omega
                  by_cases hfit : (p + 1) + 7 ≤ n
                  · have HF : Hid (q + clsMarks 1 + clsWidth 1 ≤ n) := by show _ ≤ _; have := hpq.out; show q + clsMarks 1 + 7 ≤ n; omega
                    go_wp2_with fail
                    refine (rtake_int _ n _ ((p : Int) + 1) 7 zs _ (own_of_below' HOW.out ((Below.refl _ _).alloc (Nat.le_refl _) _)) (by omega) (by omega) (by omega) (by omega)).mono ?_
                    rintro e w2 ⟨rfl, rfl⟩
                    obtain ⟨word, hword⟩ : ∃ word, word = numOf (win zs (p + 1) 7) := ⟨_, rfl⟩
                    rw [show (((p : Int) + 1)).toNat = (p + 1) from by omega, show ((7 : Int)).toNat = 7 from rfl, ← hword]
                    have hlt : word < 128 := by have := numOf_lt (win zs (p + 1) 7); rw [win_length, ← hword] at this; exact this
                    have HWD : Hid (word = numOf (win zs (q + clsMarks 1) (clsWidth 1))) := by show _ = _; rw [← hpq.out]; exact hword
                    obtain ⟨hi1, hi0⟩ := top_bit zs (p + 1) 6
                    rw [show 6 + 1 = 7 from rfl, ← hword] at hi1 hi0
                    clear hword
                    obtain ⟨g2, hg2, hgl2, hc2⟩ := hcell (p + 1) (by omega)
                    cases hg2
                    cases hb2 : bitAt zs (p + 1) with
                    | true =>
                      have hge : Hid (64 ≤ word) := hi1 hb2
                      rw [hb2] at hc2
                      clear hi1 hi0 hb2
                      have hval : Hid ((word : Int) - 128 = sgn (numOf (win zs (q + clsMarks 1) (clsWidth 1))) (clsWidth 1)) := by
                        show _ = _
                        rw [← HWD.out]
                        exact (sgn_hi (width := 7) (by omega) hge.out).symm
                      go_wp2_with fail
                      refine (class_any _ _).mono ?_
                      rintro e w3 ⟨rfl, rfl⟩
                      rw [show ((word : Int) - 128) = sgn (numOf (win zs (q + clsMarks 1) (clsWidth 1))) (clsWidth 1) from hval.out]
                      by_cases hcl : cls (sgn (numOf (win zs (q + clsMarks 1) (clsWidth 1))) (clsWidth 1)) = 1
                      · have HT' : Hid (TI zs n q (sgn (numOf (win zs (q + clsMarks 1) (clsWidth 1))) (clsWidth 1)) (((p : Int) + 1) + 7) 0) := ti_good HC.out hqn HCA.out HF.out hcl rfl (by have := hpq.out; show (((p : Int) + 1) + 7) = ((q + clsMarks 1 + 7 : Nat) : Int); omega)
                        have bn : (((cls (sgn (numOf (win zs (q + clsMarks 1) (clsWidth 1))) (clsWidth 1)) : Nat) : Int) != 1) = false := by rw [bne_eq_false_iff_eq, hcl]; rfl
                        clear hcl
                        generalize cls (sgn (numOf (win zs (q + clsMarks 1) (clsWidth 1))) (clsWidth 1)) = cc at *
                        generalize sgn (numOf (win zs (q + clsMarks 1) (clsWidth 1))) (clsWidth 1) = sv at *
                        go_wp2
                        go_ret3
                        exact ⟨sv, _, 0, rfl, HT'.out, hbw.alloc hbw.size _⟩
                      · have HT : Hid (TI zs n q 0 0 5) := ti_form HC.out hqn HCA.out HF.out hcl
                        have bn : (((cls (sgn (numOf (win zs (q + clsMarks 1) (clsWidth 1))) (clsWidth 1)) : Nat) : Int) != 1) = true := by rw [bne_iff_ne]; omega
                        clear hcl
                        generalize cls (sgn (numOf (win zs (q + clsMarks 1) (clsWidth 1))) (clsWidth 1)) = cc at *
                        generalize sgn (numOf (win zs (q + clsMarks 1) (clsWidth 1))) (clsWidth 1) = sv at *
                        go_wp2
                        go_ret3
                        exact ⟨0, 0, 5, rfl, HT.out, hbw.alloc hbw.size _⟩
                    | false =>
                      have hge : Hid (¬ 64 ≤ word) := show ¬ _ by have := hi0 hb2; show ¬ 64 ≤ word; omega
                      rw [hb2] at hc2
                      clear hi1 hi0 hb2
                      have hval : Hid ((word : Int) = sgn (numOf (win zs (q + clsMarks 1) (clsWidth 1))) (clsWidth 1)) := by
                        show _ = _
                        rw [← HWD.out]
                        exact (sgn_lo (width := 7) hge.out).symm
                      go_wp2_with fail
                      refine (class_any _ _).mono ?_
                      rintro e w3 ⟨rfl, rfl⟩
                      rw [show ((word : Int)) = sgn (numOf (win zs (q + clsMarks 1) (clsWidth 1))) (clsWidth 1) from hval.out]
                      by_cases hcl : cls (sgn (numOf (win zs (q + clsMarks 1) (clsWidth 1))) (clsWidth 1)) = 1
                      · have HT' : Hid (TI zs n q (sgn (numOf (win zs (q + clsMarks 1) (clsWidth 1))) (clsWidth 1)) (((p : Int) + 1) + 7) 0) := ti_good HC.out hqn HCA.out HF.out hcl rfl (by have := hpq.out; show (((p : Int) + 1) + 7) = ((q + clsMarks 1 + 7 : Nat) : Int); omega)
                        have bn : (((cls (sgn (numOf (win zs (q + clsMarks 1) (clsWidth 1))) (clsWidth 1)) : Nat) : Int) != 1) = false := by rw [bne_eq_false_iff_eq, hcl]; rfl
                        clear hcl
                        generalize cls (sgn (numOf (win zs (q + clsMarks 1) (clsWidth 1))) (clsWidth 1)) = cc at *
                        generalize sgn (numOf (win zs (q + clsMarks 1) (clsWidth 1))) (clsWidth 1) = sv at *
                        go_wp2
                        go_ret3
                        exact ⟨sv, _, 0, rfl, HT'.out, hbw.alloc hbw.size _⟩
                      · have HT : Hid (TI zs n q 0 0 5) := ti_form HC.out hqn HCA.out HF.out hcl
                        have bn : (((cls (sgn (numOf (win zs (q + clsMarks 1) (clsWidth 1))) (clsWidth 1)) : Nat) : Int) != 1) = true := by rw [bne_iff_ne]; omega
                        clear hcl
                        generalize cls (sgn (numOf (win zs (q + clsMarks 1) (clsWidth 1))) (clsWidth 1)) = cc at *
                        generalize sgn (numOf (win zs (q + clsMarks 1) (clsWidth 1))) (clsWidth 1) = sv at *
                        go_wp2
                        go_ret3
                        exact ⟨0, 0, 5, rfl, HT.out, hbw.alloc hbw.size _⟩
                  · have HT : Hid (TI zs n q 0 0 3) := ti_short HC.out hqn HCA.out (by have := hpq.out; show n < q + clsMarks 1 + 7; omega)
                    go_wp2
                    go_ret3
                    exact ⟨0, 0, 3, rfl, HT.out, hbw.alloc hbw.size _⟩
                · have hpq : Hid ((p + 1) = q + clsMarks 2) := by show _ = _; have := hp.out; show (p + 1) = q + 3; omega
                  by_cases hfit : (p + 1) + 12 ≤ n
                  · have HF : Hid (q + clsMarks 2 + clsWidth 2 ≤ n) := by show _ ≤ _; have := hpq.out; show q + clsMarks 2 + 12 ≤ n; omega
                    go_wp2_with fail
                    refine (rtake_int _ n _ ((p : Int) + 1) 12 zs _ (own_of_below' HOW.out ((Below.refl _ _).alloc (Nat.le_refl _) _)) (by omega) (by omega) (by omega) (by omega)).mono ?_
                    rintro e w2 ⟨rfl, rfl⟩
                    obtain ⟨word, hword⟩ : ∃ word, word = numOf (win zs (p + 1) 12) := ⟨_, rfl⟩
                    rw [show (((p : Int) + 1)).toNat = (p + 1) from by omega, show ((12 : Int)).toNat = 12 from rfl, ← hword]
                    have hlt : word < 4096 := by have := numOf_lt (win zs (p + 1) 12); rw [win_length, ← hword] at this; exact this
                    have HWD : Hid (word = numOf (win zs (q + clsMarks 2) (clsWidth 2))) := by show _ = _; rw [← hpq.out]; exact hword
                    obtain ⟨hi1, hi0⟩ := top_bit zs (p + 1) 11
                    rw [show 11 + 1 = 12 from rfl, ← hword] at hi1 hi0
                    clear hword
                    obtain ⟨g2, hg2, hgl2, hc2⟩ := hcell (p + 1) (by omega)
                    cases hg2
                    cases hb2 : bitAt zs (p + 1) with
                    | true =>
                      have hge : Hid (2048 ≤ word) := hi1 hb2
                      rw [hb2] at hc2
                      clear hi1 hi0 hb2
                      have hval : Hid ((word : Int) - 4096 = sgn (numOf (win zs (q + clsMarks 2) (clsWidth 2))) (clsWidth 2)) := by
                        show _ = _
                        rw [← HWD.out]
                        exact (sgn_hi (width := 12) (by omega) hge.out).symm
                      go_wp2_with fail
                      refine (class_any _ _).mono ?_
                      rintro e w3 ⟨rfl, rfl⟩
                      rw [show ((word : Int) - 4096) = sgn (numOf (win zs (q + clsMarks 2) (clsWidth 2))) (clsWidth 2) from hval.out]
                      by_cases hcl : cls (sgn (numOf (win zs (q + clsMarks 2) (clsWidth 2))) (clsWidth 2)) = 2
                      · have HT' : Hid (TI zs n q (sgn (numOf (win zs (q + clsMarks 2) (clsWidth 2))) (clsWidth 2)) (((p : Int) + 1) + 12) 0) := ti_good HC.out hqn HCA.out HF.out hcl rfl (by have := hpq.out; show (((p : Int) + 1) + 12) = ((q + clsMarks 2 + 12 : Nat) : Int); omega)
                        have bn : (((cls (sgn (numOf (win zs (q + clsMarks 2) (clsWidth 2))) (clsWidth 2)) : Nat) : Int) != 2) = false := by rw [bne_eq_false_iff_eq, hcl]; rfl
                        clear hcl
                        generalize cls (sgn (numOf (win zs (q + clsMarks 2) (clsWidth 2))) (clsWidth 2)) = cc at *
                        generalize sgn (numOf (win zs (q + clsMarks 2) (clsWidth 2))) (clsWidth 2) = sv at *
                        go_wp2
                        go_ret3
                        exact ⟨sv, _, 0, rfl, HT'.out, hbw.alloc hbw.size _⟩
                      · have HT : Hid (TI zs n q 0 0 5) := ti_form HC.out hqn HCA.out HF.out hcl
                        have bn : (((cls (sgn (numOf (win zs (q + clsMarks 2) (clsWidth 2))) (clsWidth 2)) : Nat) : Int) != 2) = true := by rw [bne_iff_ne]; omega
                        clear hcl
                        generalize cls (sgn (numOf (win zs (q + clsMarks 2) (clsWidth 2))) (clsWidth 2)) = cc at *
                        generalize sgn (numOf (win zs (q + clsMarks 2) (clsWidth 2))) (clsWidth 2) = sv at *
                        go_wp2
                        go_ret3
                        exact ⟨0, 0, 5, rfl, HT.out, hbw.alloc hbw.size _⟩
                    | false =>
                      have hge : Hid (¬ 2048 ≤ word) := show ¬ _ by have := hi0 hb2; show ¬ 2048 ≤ word; omega
                      rw [hb2] at hc2
                      clear hi1 hi0 hb2
                      have hval : Hid ((word : Int) = sgn (numOf (win zs (q + clsMarks 2) (clsWidth 2))) (clsWidth 2)) := by
                        show _ = _
                        rw [← HWD.out]
                        exact (sgn_lo (width := 12) hge.out).symm
                      go_wp2_with fail
                      refine (class_any _ _).mono ?_
                      rintro e w3 ⟨rfl, rfl⟩
                      rw [show ((word : Int)) = sgn (numOf (win zs (q + clsMarks 2) (clsWidth 2))) (clsWidth 2) from hval.out]
                      by_cases hcl : cls (sgn (numOf (win zs (q + clsMarks 2) (clsWidth 2))) (clsWidth 2)) = 2
                      · have HT' : Hid (TI zs n q (sgn (numOf (win zs (q + clsMarks 2) (clsWidth 2))) (clsWidth 2)) (((p : Int) + 1) + 12) 0) := ti_good HC.out hqn HCA.out HF.out hcl rfl (by have := hpq.out; show (((p : Int) + 1) + 12) = ((q + clsMarks 2 + 12 : Nat) : Int); omega)
                        have bn : (((cls (sgn (numOf (win zs (q + clsMarks 2) (clsWidth 2))) (clsWidth 2)) : Nat) : Int) != 2) = false := by rw [bne_eq_false_iff_eq, hcl]; rfl
                        clear hcl
                        generalize cls (sgn (numOf (win zs (q + clsMarks 2) (clsWidth 2))) (clsWidth 2)) = cc at *
                        generalize sgn (numOf (win zs (q + clsMarks 2) (clsWidth 2))) (clsWidth 2) = sv at *
                        go_wp2
                        go_ret3
                        exact ⟨sv, _, 0, rfl, HT'.out, hbw.alloc hbw.size _⟩
                      · have HT : Hid (TI zs n q 0 0 5) := ti_form HC.out hqn HCA.out HF.out hcl
                        have bn : (((cls (sgn (numOf (win zs (q + clsMarks 2) (clsWidth 2))) (clsWidth 2)) : Nat) : Int) != 2) = true := by rw [bne_iff_ne]; omega
                        clear hcl
                        generalize cls (sgn (numOf (win zs (q + clsMarks 2) (clsWidth 2))) (clsWidth 2)) = cc at *
                        generalize sgn (numOf (win zs (q + clsMarks 2) (clsWidth 2))) (clsWidth 2) = sv at *
                        go_wp2
                        go_ret3
                        exact ⟨0, 0, 5, rfl, HT.out, hbw.alloc hbw.size _⟩
                  · have HT : Hid (TI zs n q 0 0 3) := ti_short HC.out hqn HCA.out (by have := hpq.out; show n < q + clsMarks 2 + 12; omega)
                    go_wp2
                    go_ret3
                    exact ⟨0, 0, 3, rfl, HT.out, hbw.alloc hbw.size _⟩
                · have hpq : Hid ((p + 1) = q + clsMarks 3) := by show _ = _; have := hp.out; show (p + 1) = q + 4; omega
                  by_cases hfit : (p + 1) + 32 ≤ n
                  · have HF : Hid (q + clsMarks 3 + clsWidth 3 ≤ n) := by show _ ≤ _; have := hpq.out; show q + clsMarks 3 + 32 ≤ n; omega
                    go_wp2_with fail
                    refine (rtake_int _ n _ ((p : Int) + 1) 32 zs _ (own_of_below' HOW.out ((Below.refl _ _).alloc (Nat.le_refl _) _)) (by omega) (by omega) (by omega) (by omega)).mono ?_
                    rintro e w2 ⟨rfl, rfl⟩
                    obtain ⟨word, hword⟩ : ∃ word, word = numOf (win zs (p + 1) 32) := ⟨_, rfl⟩
                    rw [show (((p : Int) + 1)).toNat = (p + 1) from by omega, show ((32 : Int)).toNat = 32 from rfl, ← hword]
                    have hlt : word < 4294967296 := by have := numOf_lt (win zs (p + 1) 32); rw [win_length, ← hword] at this; exact this
                    have HWD : Hid (word = numOf (win zs (q + clsMarks 3) (clsWidth 3))) := by show _ = _; rw [← hpq.out]; exact hword
                    obtain ⟨hi1, hi0⟩ := top_bit zs (p + 1) 31
                    rw [show 31 + 1 = 32 from rfl, ← hword] at hi1 hi0
                    clear hword
                    obtain ⟨g2, hg2, hgl2, hc2⟩ := hcell (p + 1) (by omega)
                    cases hg2
                    cases hb2 : bitAt zs (p + 1) with
                    | true =>
                      have hge : Hid (2147483648 ≤ word) := hi1 hb2
                      rw [hb2] at hc2
                      clear hi1 hi0 hb2
                      have hval : Hid ((word : Int) - 4294967296 = sgn (numOf (win zs (q + clsMarks 3) (clsWidth 3))) (clsWidth 3)) := by
                        show _ = _
                        rw [← HWD.out]
                        exact (sgn_hi (width := 32) (by omega) hge.out).symm
                      go_wp2_with fail
                      refine (class_any _ _).mono ?_
                      rintro e w3 ⟨rfl, rfl⟩
                      rw [show ((word : Int) - 4294967296) = sgn (numOf (win zs (q + clsMarks 3) (clsWidth 3))) (clsWidth 3) from hval.out]
                      by_cases hcl : cls (sgn (numOf (win zs (q + clsMarks 3) (clsWidth 3))) (clsWidth 3)) = 3
                      · have HT' : Hid (TI zs n q (sgn (numOf (win zs (q + clsMarks 3) (clsWidth 3))) (clsWidth 3)) (((p : Int) + 1) + 32) 0) := ti_good HC.out hqn HCA.out HF.out hcl rfl (by have := hpq.out; show (((p : Int) + 1) + 32) = ((q + clsMarks 3 + 32 : Nat) : Int); omega)
                        have bn : (((cls (sgn (numOf (win zs (q + clsMarks 3) (clsWidth 3))) (clsWidth 3)) : Nat) : Int) != 3) = false := by rw [bne_eq_false_iff_eq, hcl]; rfl
                        clear hcl
                        generalize cls (sgn (numOf (win zs (q + clsMarks 3) (clsWidth 3))) (clsWidth 3)) = cc at *
                        generalize sgn (numOf (win zs (q + clsMarks 3) (clsWidth 3))) (clsWidth 3) = sv at *
                        go_wp2
                        go_ret3
                        exact ⟨sv, _, 0, rfl, HT'.out, hbw.alloc hbw.size _⟩
                      · have HT : Hid (TI zs n q 0 0 5) := ti_form HC.out hqn HCA.out HF.out hcl
                        have bn : (((cls (sgn (numOf (win zs (q + clsMarks 3) (clsWidth 3))) (clsWidth 3)) : Nat) : Int) != 3) = true := by rw [bne_iff_ne]; omega
                        clear hcl
                        generalize cls (sgn (numOf (win zs (q + clsMarks 3) (clsWidth 3))) (clsWidth 3)) = cc at *
                        generalize sgn (numOf (win zs (q + clsMarks 3) (clsWidth 3))) (clsWidth 3) = sv at *
                        go_wp2
                        go_ret3
                        exact ⟨0, 0, 5, rfl, HT.out, hbw.alloc hbw.size _⟩
                    | false =>
                      have hge : Hid (¬ 2147483648 ≤ word) := show ¬ _ by have := hi0 hb2; show ¬ 2147483648 ≤ word; omega
                      rw [hb2] at hc2
                      clear hi1 hi0 hb2
                      have hval : Hid ((word : Int) = sgn (numOf (win zs (q + clsMarks 3) (clsWidth 3))) (clsWidth 3)) := by
                        show _ = _
                        rw [← HWD.out]
                        exact (sgn_lo (width := 32) hge.out).symm
                      go_wp2_with fail
                      refine (class_any _ _).mono ?_
                      rintro e w3 ⟨rfl, rfl⟩
                      rw [show ((word : Int)) = sgn (numOf (win zs (q + clsMarks 3) (clsWidth 3))) (clsWidth 3) from hval.out]
                      by_cases hcl : cls (sgn (numOf (win zs (q + clsMarks 3) (clsWidth 3))) (clsWidth 3)) = 3
                      · have HT' : Hid (TI zs n q (sgn (numOf (win zs (q + clsMarks 3) (clsWidth 3))) (clsWidth 3)) (((p : Int) + 1) + 32) 0) := ti_good HC.out hqn HCA.out HF.out hcl rfl (by have := hpq.out; show (((p : Int) + 1) + 32) = ((q + clsMarks 3 + 32 : Nat) : Int); omega)
                        have bn : (((cls (sgn (numOf (win zs (q + clsMarks 3) (clsWidth 3))) (clsWidth 3)) : Nat) : Int) != 3) = false := by rw [bne_eq_false_iff_eq, hcl]; rfl
                        clear hcl
                        generalize cls (sgn (numOf (win zs (q + clsMarks 3) (clsWidth 3))) (clsWidth 3)) = cc at *
                        generalize sgn (numOf (win zs (q + clsMarks 3) (clsWidth 3))) (clsWidth 3) = sv at *
                        go_wp2
                        go_ret3
                        exact ⟨sv, _, 0, rfl, HT'.out, hbw.alloc hbw.size _⟩
                      · have HT : Hid (TI zs n q 0 0 5) := ti_form HC.out hqn HCA.out HF.out hcl
                        have bn : (((cls (sgn (numOf (win zs (q + clsMarks 3) (clsWidth 3))) (clsWidth 3)) : Nat) : Int) != 3) = true := by rw [bne_iff_ne]; omega
                        clear hcl
                        generalize cls (sgn (numOf (win zs (q + clsMarks 3) (clsWidth 3))) (clsWidth 3)) = cc at *
                        generalize sgn (numOf (win zs (q + clsMarks 3) (clsWidth 3))) (clsWidth 3) = sv at *
                        go_wp2
                        go_ret3
                        exact ⟨0, 0, 5, rfl, HT.out, hbw.alloc hbw.size _⟩
                  · have HT : Hid (TI zs n q 0 0 3) := ti_short HC.out hqn HCA.out (by have := hpq.out; show n < q + clsMarks 3 + 32; omega)
                    go_wp2
                    go_ret3
                    exact ⟨0, 0, 3, rfl, HT.out, hbw.alloc hbw.size _⟩
          · obtain rfl : k = 4 := by omega
            have HCA : Hid (CAt zs n q 4 0) := .inl ⟨rfl, by omega, hones.out, fun h => by omega⟩
            clear hones
            have hpq : Hid (p = q + clsMarks 4) := by show _ = _; have := hp.out; show p = q + 4; omega
            by_cases hfit : p + 64 ≤ n
            · have HF : Hid (q + clsMarks 4 + clsWidth 4 ≤ n) := by show _ ≤ _; have := hpq.out; show q + clsMarks 4 + 64 ≤ n; omega
              go_wp2_with fail
              refine (rtake_int _ n _ (p : Int) 64 zs _ (own_of_below' HOW.out ((Below.refl _ _).alloc (Nat.le_refl _) _)) (by omega) (by omega) (by omega) (by omega)).mono ?_
              rintro e w2 ⟨rfl, rfl⟩
              obtain ⟨word, hword⟩ : ∃ word, word = numOf (win zs p 64) := ⟨_, rfl⟩
              rw [show ((p : Int)).toNat = p from by omega, show ((64 : Int)).toNat = 64 from rfl, ← hword]
              have hlt : word < 18446744073709551616 := by have := numOf_lt (win zs p 64); rw [win_length, ← hword] at this; exact this
              have HWD : Hid (word = numOf (win zs (q + clsMarks 4) (clsWidth 4))) := by show _ = _; rw [← hpq.out]; exact hword
              clear hword
              have hval : Hid (wrap64 (word : Int) = sgn (numOf (win zs (q + clsMarks 4) (clsWidth 4))) (clsWidth 4)) := by
                show _ = _
                rw [← HWD.out]
                exact sgn_64 word hlt
              go_wp2_with fail
              refine (class_any _ _).mono ?_
              rintro e w3 ⟨rfl, rfl⟩
              rw [show (wrap64 (word : Int)) = sgn (numOf (win zs (q + clsMarks 4) (clsWidth 4))) (clsWidth 4) from hval.out]
              by_cases hcl : cls (sgn (numOf (win zs (q + clsMarks 4) (clsWidth 4))) (clsWidth 4)) = 4
              · have HT' : Hid (TI zs n q (sgn (numOf (win zs (q + clsMarks 4) (clsWidth 4))) (clsWidth 4)) ((p : Int) + 64) 0) := ti_good HC.out hqn HCA.out HF.out hcl rfl (by have := hpq.out; show ((p : Int) + 64) = ((q + clsMarks 4 + 64 : Nat) : Int); omega)
                have bn : (((cls (sgn (numOf (win zs (q + clsMarks 4) (clsWidth 4))) (clsWidth 4)) : Nat) : Int) != 4) = false := by rw [bne_eq_false_iff_eq, hcl]; rfl
                clear hcl
                generalize cls (sgn (numOf (win zs (q + clsMarks 4) (clsWidth 4))) (clsWidth 4)) = cc at *
                generalize sgn (numOf (win zs (q + clsMarks 4) (clsWidth 4))) (clsWidth 4) = sv at *
                go_wp2
                go_ret3
                exact ⟨sv, _, 0, rfl, HT'.out, hbw.alloc hbw.size _⟩
              · have HT : Hid (TI zs n q 0 0 5) := ti_form HC.out hqn HCA.out HF.out hcl
                have bn : (((cls (sgn (numOf (win zs (q + clsMarks 4) (clsWidth 4))) (clsWidth 4)) : Nat) : Int) != 4) = true := by rw [bne_iff_ne]; omega
                clear hcl
                generalize cls (sgn (numOf (win zs (q + clsMarks 4) (clsWidth 4))) (clsWidth 4)) = cc at *
                generalize sgn (numOf (win zs (q + clsMarks 4) (clsWidth 4))) (clsWidth 4) = sv at *
                go_wp2
                go_ret3
                exact ⟨0, 0, 5, rfl, HT.out, hbw.alloc hbw.size _⟩
            · have HT : Hid (TI zs n q 0 0 3) := ti_short HC.out hqn HCA.out (by have := hpq.out; show n < q + clsMarks 4 + 64; omega)
              go_wp2
              go_ret3
              exact ⟨0, 0, 3, rfl, HT.out, hbw.alloc hbw.size _⟩
end Go.Proofs.YtdpoiodaonhjiabDoor
