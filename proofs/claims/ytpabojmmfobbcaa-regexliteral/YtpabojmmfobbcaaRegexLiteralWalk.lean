/- RegexLiteral: the law's walk. -/
import Derived.Test.YtpabojmmfobbcaaRxChain4
import Derived.Test.YtpabojmmfobbcaaRxAny
namespace Go.Proofs.Ytpabojmmfobbcaa
open Go.RowKit Go.Joins
set_option linter.unusedVariables false
set_option linter.unusedSimpArgs false
set_option maxHeartbeats 2000000 in
theorem rx_short_any (s : ByteArray) (w : World) (hs : s.size ≤ maxLen) :
    Calls Try.prog 5 #[.string s] w fun e w' => (∃ r : ByteArray, e = .returned (.string r) ∧ r.size ≤ 60) ∧ Below w.heap.size w w' := by
  unfold maxLen at hs
  by_cases h : s.size ≤ 60
  · have g3 : (s.size : Int) ≤ 60 := by omega
    go_enter Try.func5, Try.ntmps5
    go_wp2
    exact bodyPost_ret (v := .string (s.extract 0 (min (s.size : Int) 60).toNat)) (by simp [results, Try.results5, go_sem]) rfl ⟨⟨_, rfl, by rw [ByteArray.size_extract]; omega⟩, Below.refl _ _⟩
  · have g3 : ¬ (s.size : Int) ≤ 60 := by omega
    have g4 : (60 : Int) ≤ (s.size : Int) := by omega
    go_enter Try.func5, Try.ntmps5
    go_wp2
    exact bodyPost_ret (v := .string (s.extract 0 (min (s.size : Int) 60).toNat)) (by simp [results, Try.results5, go_sem]) rfl ⟨⟨_, rfl, by rw [ByteArray.size_extract]; omega⟩, Below.refl _ _⟩
theorem match_quoteC (s t : ByteArray) (w : World) (hs : s.size ≤ 15) (ht : t.size ≤ 60) (h : 65533 ∉ runesL s (s.size + 1) 0) (q : ByteArray) (hq : q = quoteS s) :
    Calls Try.prog 11 #[.string q, .string t] w fun e w' => e = .returned (.tuple #[.bool (decide (t = s)), .int .i64 0]) ∧ Below w.heap.size w w' := by
  subst hq
  have hm := match_any (quoteS s) t w (by have := quoteS_size s hs; unfold maxLen; omega) (by omega)
  rw [match_quote s t hs h] at hm
  exact hm
theorem rl_eq (o s : ByteArray) : (o.toList == s.toList) = decide (o = s) := by
  rw [Bool.eq_iff_iff, beq_iff_eq, decide_eq_true_eq]
  constructor
  · intro h
    obtain ⟨a⟩ := o
    obtain ⟨b⟩ := s
    rw [ByteArray.toList_mk, ByteArray.toList_mk] at h
    rw [Array.toList_inj.1 h]
  · rintro rfl; rfl
theorem rl_short {o : Oper} {a : Act} {w : World} {ts : Array TypeId} {x0 : Nat} {v0 : Value} (ho : o.op = Op.call { callee := Callee.value (Operand.func 5), args := #[.tmp x0], argTypes := ts }) (hx0 : a.eval (.tmp x0) = v0) : (execOp a.eval o).run Try.prog w = .ok (.enter 5 #[v0]) w := by
  simp [go_sem, execOp, ho, resolve, invoke]
  simpa [Act.eval] using hx0
theorem rl_fit (w : World) : Calls Try.prog 11 #[.string ⟨#[97, 40, 98, 124, 99, 41, 42, 91, 120, 45, 122, 93, 63]⟩, .string ⟨#[97, 98, 99, 98, 121]⟩] w fun e w' => e = .returned (.tuple #[.bool true, .int .i64 0]) ∧ Below w.heap.size w w' := by
  have h := match_any ⟨#[97, 40, 98, 124, 99, 41, 42, 91, 120, 45, 122, 93, 63]⟩ ⟨#[97, 98, 99, 98, 121]⟩ w (by decide) (by decide)
  have e : matchS ⟨#[97, 40, 98, 124, 99, 41, 42, 91, 120, 45, 122, 93, 63]⟩ ⟨#[97, 98, 99, 98, 121]⟩ = (true, 0) := by kernel_rfl
  rw [e] at h
  exact h
set_option maxHeartbeats 2000000 in
set_option maxRecDepth 100000 in
theorem rl_awake (w : World) : Calls Try.prog 9 #[] w fun e w' => e = .returned (.bool true) ∧ Below w.heap.size w w' := by
  go_enter Try.func9, Try.ntmps9
  go_wp2_with fail
  refine (rl_fit _).mono ?_
  rintro e w1 ⟨rfl, b1⟩
  go_wp2_with fail
  exact bodyPost_ret (v := .bool true) (by simp [results, Try.results9, go_sem]) rfl ⟨rfl, b1⟩
set_option maxHeartbeats 4000000 in
set_option maxRecDepth 100000 in
theorem regexLiteral_walk (s0 o0 : ByteArray) (w : World) (hs0 : s0.size ≤ maxLen) (ho0 : o0.size ≤ maxLen) :
    Calls Try.prog 3 #[.string s0, .string o0] w fun e w' => e = .returned (.bool true) ∧ Below w.heap.size w w' := by
  have hs1 := hs0
  unfold maxLen at hs1
  obtain ⟨m, hm⟩ : ∃ m, m = min s0.size 15 := ⟨_, rfl⟩
  have hmn : min (s0.size : Int) 15 = (m : Int) := by omega
  have hmn2 : (if (15 : Int) < (s0.size : Int) then (15 : Int) else (s0.size : Int)) = (m : Int) := by split <;> omega
  have hml : (m : Int) ≤ (s0.size : Int) := by omega
  have hm15 : m ≤ 15 := by omega
  obtain ⟨s, hse⟩ : ∃ s, s = s0.extract 0 m := ⟨_, rfl⟩
  have hs : s.size ≤ 15 := by rw [hse, ByteArray.size_extract]; omega
  have HSE := hidn hse
  have HM := hidn hm
  clear hse hm
  go_enter Try.func3, Try.ntmps3
  go_wp2_with fail
  refine wp_region_noPanic ?_
  refine wp_region_held_drew (S := fun _ => True) (by kernel_rfl) (trivial) (fun hHeld => ?_)
  refine drawn_take (i := 0) (v := .string s0) (some 12) rfl rfl (by kernel_rfl) (by kernel_rfl) (by kernel_rfl) (fun _ _ _ h => h) (Or.inl ⟨by kernel_rfl, fun wq hw => by go_simp⟩) hHeld ?_
  simp only [Act.put, List.setIfInBounds_toArray, List.set_cons_succ, List.set_cons_zero]
  refine drawn_take (i := 1) (v := .string s0) (some 13) rfl rfl (by kernel_rfl) (by kernel_rfl) (by kernel_rfl) (fun _ _ _ h => h) (Or.inl ⟨by kernel_rfl, fun wq hw => by go_simp⟩) hHeld ?_
  simp only [Act.put, List.setIfInBounds_toArray, List.set_cons_succ, List.set_cons_zero]
  refine drawn_take (i := 2) (v := .int .i64 (s0.size : Int)) (some 14) rfl rfl (by kernel_rfl) (by kernel_rfl) (by kernel_rfl) (fun _ _ _ h => h) (Or.inl ⟨by kernel_rfl, fun wq hw => by go_simp⟩) hHeld ?_
  simp only [Act.put, List.setIfInBounds_toArray, List.set_cons_succ, List.set_cons_zero]
  refine drawn_take (i := 3) (v := .int .i64 (m : Int)) (some 15) rfl rfl (by kernel_rfl) (by kernel_rfl) (by kernel_rfl) (fun _ _ _ h => h) (Or.inl ⟨by kernel_rfl, fun wq hw => by go_simp⟩) hHeld ?_
  simp only [Act.put, List.setIfInBounds_toArray, List.set_cons_succ, List.set_cons_zero]
  refine drawn_take (i := 4) (v := .string s) (some 16) rfl rfl (by kernel_rfl) (by kernel_rfl) (by kernel_rfl) (fun _ _ _ h => h) (Or.inl ⟨by kernel_rfl, fun wq hw => by rw [HSE.out]; go_simp⟩) hHeld ?_
  simp only [Act.put, List.setIfInBounds_toArray, List.set_cons_succ, List.set_cons_zero]
  refine drawn_take (i := 5) (v := .string o0) (some 17) rfl rfl (by kernel_rfl) (by kernel_rfl) (by kernel_rfl) (fun _ _ _ h => h) (Or.inl ⟨by kernel_rfl, fun wq hw => by go_simp⟩) hHeld ?_
  simp only [Act.put, List.setIfInBounds_toArray, List.set_cons_succ, List.set_cons_zero]
  have bd : Below w.heap.size w w.drew := (Below.refl _ _).drew
  have hwd : w.drew.heap.size = w.heap.size := rfl
  refine wpAnyH_ready (rs := [6]) (by kernel_rfl) (by simp) ?_
  refine rdy_call (i := 6) rfl rfl (some 18) rfl 5 #[.string o0] (rl_short (x0 := 17) (ts := #[9]) (by kernel_rfl) (by kernel_rfl)) (fun r w' => (∃ t : ByteArray, r = .string t ∧ t.size ≤ 60) ∧ Below w.drew.heap.size w.drew w') ((rx_short_any o0 _ ho0).mono fun e w' h => by obtain ⟨⟨t, rfl, ht⟩, hb⟩ := h; exact ⟨_, rfl, ⟨t, rfl, ht⟩, hb⟩) (fun r w9 hR => ?_) rdy_nil
  obtain ⟨⟨o, rfl, ho⟩, b1⟩ := hR
  refine ⟨trivial, fun hHeld => ?_⟩
  simp only [Act.put, List.setIfInBounds_toArray, List.set_cons_succ, List.set_cons_zero]
  have B1 : Below w.heap.size w w9 := bd.trans (b1.mono bd.size)
  refine drawn_take (i := 7) (v := .string s) (some 0) rfl rfl (by kernel_rfl) (by kernel_rfl) (by kernel_rfl) (fun _ _ _ h => h) (Or.inl ⟨by kernel_rfl, fun wq hw => by go_simp⟩) hHeld ?_
  simp only [Act.put, List.setIfInBounds_toArray, List.set_cons_succ, List.set_cons_zero]
  refine drawn_take (i := 8) (v := .string o) (some 1) rfl rfl (by kernel_rfl) (by kernel_rfl) (by kernel_rfl) (fun _ _ _ h => h) (Or.inl ⟨by kernel_rfl, fun wq hw => by go_simp⟩) hHeld ?_
  simp only [Act.put, List.setIfInBounds_toArray, List.set_cons_succ, List.set_cons_zero]
  refine wpAnyH_done (by kernel_rfl) ?_ _
  refine NoPanic.normal ?_
  clear hHeld
  clear b1 bd hwd hmn hmn2 hml HSE HM hs0 ho0 hs1
  go_wp2_with fail
  refine (quoted_any s _ hs).mono ?_
  rintro e w2 ⟨rfl, b2⟩
  have B2 := B1.trans (b2.mono B1.size)
  clear b2 B1
  have hq60 := quoteS_size s hs
  by_cases hbad : 65533 ∈ runesL s (s.size + 1) 0
  · have HC : Hid (checkS (quoteS s) = 5) := hidn (by rw [check_quote s hs, if_pos hbad])
    have HH := hidn (has_quote s hbad)
    clear hbad
    obtain ⟨q, hq⟩ : ∃ q, q = quoteS s := ⟨_, rfl⟩
    rw [← hq] at HC HH hq60 ⊢
    clear hq
    go_wp2_with fail
    refine (rx_check_any q _ (by unfold maxLen; omega)).mono ?_
    rintro e w3 ⟨rfl, b3⟩
    rw [HC.out]
    have B3 := B2.trans (b3.mono B2.size)
    clear b3 B2
    go_wp2_with fail
    refine (refCheck_bad q _ hq60 HH).mono ?_
    rintro e w4 ⟨rfl, b4⟩
    have B4 := B3.trans (b4.mono B3.size)
    clear b4 B3
    go_wp2_with fail
    refine (rl_awake _).mono ?_
    rintro e w5 ⟨rfl, b5⟩
    have B5 := B4.trans (b5.mono B4.size)
    clear b5 B4
    go_wp2_with fail
    exact bodyPost_ret (v := .bool true) (by simp [results, Try.results3, go_sem]) rfl ⟨rfl, B5⟩
  · have HC : Hid (checkS (quoteS s) = 0) := hidn (by rw [check_quote s hs, if_neg hbad])
    have HS : Hid (scanS (quoteS s) = some (sigs (runesL s (s.size + 1) 0))) := hidn (by rw [scanS_quote s hs, if_neg hbad])
    have HE : Hid (∀ g ∈ sigs (runesL s (s.size + 1) 0), g.esc = true) := hidn (by
      intro g hg
      unfold sigs at hg
      rw [List.mem_map] at hg
      obtain ⟨_, _, rfl⟩ := hg
      rfl)
    have HLQ := hidn (lit_quote s hbad)
    have HB := hidn hbad
    clear hbad
    obtain ⟨q, hq⟩ : ∃ q, q = quoteS s := ⟨_, rfl⟩
    have HQ := hidn hq
    rw [← hq] at HC HS hq60 ⊢
    clear hq
    go_wp2_with fail
    refine (rx_check_any q _ (by unfold maxLen; omega)).mono ?_
    rintro e w3 ⟨rfl, b3⟩
    rw [HC.out]
    have B3 := B2.trans (b3.mono B2.size)
    clear b3 B2
    go_wp2_with fail
    refine (literal_esc q _ _ (by unfold maxLen; omega) HS HE).mono ?_
    rintro e w4 ⟨rfl, b4⟩
    rw [HLQ.out]
    have B4 := B3.trans (b4.mono B3.size)
    clear b4 B3
    go_wp2_with fail
    refine (match_quoteC s s _ hs (by omega) HB.out q HQ.out).mono ?_
    rintro e w5 ⟨rfl, b5⟩
    rw [decide_eq_true rfl]
    have B5 := B4.trans (b5.mono B4.size)
    clear b5 B4
    go_wp2_with fail
    have hcmp := rl_eq o s
    obtain ⟨d, hd⟩ : ∃ d, d = decide (o = s) := ⟨_, rfl⟩
    rw [← hd] at hcmp
    have HD := hidn hd
    clear hd
    refine (match_quoteC s o _ hs ho HB.out q HQ.out).mono ?_
    rintro e w6 ⟨rfl, b6⟩
    rw [← HD.out]
    have B6 := B5.trans (b6.mono B5.size)
    clear b6 B5
    clear HE HLQ HS HB HQ HC
    go_wp2_with fail
    exact bodyPost_ret (v := .bool true) (by simp [results, Try.results3, go_sem]) rfl ⟨rfl, B6⟩
end Go.Proofs.Ytpabojmmfobbcaa
