/- CodecEven: the law. -/
import Derived.Test.YtljkidbdlhllcaaDoorCodE
import Derived.OpenShut
namespace Go.Proofs.YtljkidbdlhllcaaDoor
open Go.RowKit Go.Joins Go.ChangeShapes Go.WideShapes Go.ChangeAt
set_option linter.unusedVariables false
set_option linter.unusedSimpArgs false
set_option linter.unusedSectionVars false

theorem Tryd.infoSam : (Tryd.prog.info? 26).map (fun i => (i.zero, i.size, i.bytes)) = some (some (.agg #[.int .i64 0, .int .u64 0]), 2, 16) := by kernel_rfl
/-- Samples as cells. -/
def vsm : List Sam → List Value
  | [] => []
  | s :: t => [.int .i64 s.t, .int .u64 (s.v : Int)] ++ vsm t
theorem vsm_app (l m : List Sam) : vsm (l ++ m) = vsm l ++ vsm m := by
  induction l with
  | nil => rfl
  | cons s t ih => simp [vsm, ih]
theorem vsm_len (l : List Sam) : (vsm l).length = l.length * 2 := by
  induction l with
  | nil => rfl
  | cons s t ih => simp [vsm, ih]; omega
theorem vsm_get (l : List Sam) : ∀ j, j < l.length → (vsm l)[j * 2]? = some (.int .i64 (samD l j).t) ∧ (vsm l)[j * 2 + 1]? = some (.int .u64 ((samD l j).v : Int)) := by
  induction l with
  | nil => intro j hj; simp at hj
  | cons s t ih =>
    intro j hj
    cases j with
    | zero => exact ⟨rfl, rfl⟩
    | succ j =>
      have := ih j (by simpa using hj)
      have e1 : (vsm (s :: t))[(j + 1) * 2]? = (vsm t)[j * 2]? := by
        rw [show (j + 1) * 2 = j * 2 + 2 from by omega]; rfl
      have e2 : (vsm (s :: t))[(j + 1) * 2 + 1]? = (vsm t)[j * 2 + 1]? := by
        rw [show (j + 1) * 2 + 1 = j * 2 + 1 + 2 from by omega]; rfl
      rw [e1, e2]
      exact this
theorem sm_of_own {w : World} {base n : Nat} {v : Value} {l : List Sam} (h : w.ownsRow base 26 2 v n (vsm l)) (hz : ∀ i, SamOK (samD l i)) :
    ∃ a cap, v = .slice a n cap ∧ n ≤ cap ∧ Sm w a n l := by
  have h' := h
  obtain ⟨hl, h1⟩ := h
  have hn : l.length = n := by rw [vsm_len] at hl; omega
  rcases h1 with ⟨rfl, rfl⟩ | ⟨g, cap, cur, rfl, hg, hh, hnc, hcm, hcs, htk⟩
  · obtain rfl : l = [] := List.length_eq_zero_iff.1 hn
    exact ⟨none, 0, rfl, Nat.le_refl _, Sm.nil w⟩
  · refine ⟨_, cap, rfl, hnc, hn, by omega, hz, (fun h => by simp at h), fun x hx j hj => ?_⟩
    cases hx
    obtain ⟨g1, g2⟩ := vsm_get l j (by omega)
    have c1 := h'.cellAt (j * 2) (by omega)
    have c2 := h'.cellAt (j * 2 + 1) (by omega)
    rw [g1] at c1
    rw [g2] at c2
    rw [add_none, add_none, Nat.zero_add, Nat.zero_add]
    exact ⟨c1, c2⟩
theorem one_vsm (l : List Sam) : ∀ u ∈ vsm l, u.oneCell' = true := by
  induction l with
  | nil => intro u hu; simp [vsm] at hu
  | cons s t ih =>
    intro u hu
    simp only [vsm, List.mem_append, List.mem_cons, List.not_mem_nil, or_false] at hu
    rcases hu with (rfl | rfl) | hu
    · rfl
    · rfl
    · exact ih u hu
theorem Sm.take {w : World} {a : Option Addr} {len : Nat} {l : List Sam} (h : Sm w a len l) (m : Nat) (hm : m ≤ len) : Sm w a m (l.take m) := by
  obtain ⟨h1, h2, h3, h4, h5⟩ := h
  have hd : ∀ i, i < m → samD (l.take m) i = samD l i := by
    intro i hi
    simp [samD, List.getD_eq_getElem?_getD, hi]
  refine ⟨by rw [List.length_take]; omega, by omega, fun i => ?_, fun h => by have := h4 h; omega, fun x hx j hj => ?_⟩
  · by_cases hi : i < m
    · rw [hd i hi]; exact h3 i
    · have : samD (l.take m) i = ⟨0, 0⟩ := by
        unfold samD
        rw [List.getD_eq_getElem?_getD, List.getElem?_eq_none (by rw [List.length_take]; omega)]
        rfl
      rw [this]; exact samOK_zero
  · rw [hd j hj]; exact h5 x hx j (by omega)
/-- Samples that stand evenly. -/
def evenL (F ST : Int) (v : Nat) : Nat → List Sam
  | 0 => []
  | k + 1 => evenL F ST v k ++ [⟨F + (k : Int) * ST, v⟩]
theorem evenL_len (F ST : Int) (v : Nat) : ∀ k, (evenL F ST v k).length = k := by
  intro k
  induction k with
  | zero => rfl
  | succ k ih => simp [evenL, ih]
theorem evenL_get (F ST : Int) (v : Nat) : ∀ n j, j < n → samD (evenL F ST v n) j = ⟨F + (j : Int) * ST, v⟩ := by
  intro n
  induction n with
  | zero => intro j hj; omega
  | succ n ih =>
    intro j hj
    by_cases hjn : j < n
    · rw [← ih j hjn]
      simp [samD, evenL, List.getD_eq_getElem?_getD, List.getElem?_append_left (show j < (evenL F ST v n).length by rw [evenL_len]; exact hjn)]
    · obtain rfl : j = n := by omega
      simp [samD, evenL, List.getD_eq_getElem?_getD, List.getElem?_append_right (show (evenL F ST v j).length ≤ j by rw [evenL_len]; exact Nat.le_refl _), evenL_len]
theorem evenL_take (F ST : Int) (v n m : Nat) (h : m ≤ n) : (evenL F ST v n).take m = evenL F ST v m := by
  induction n with
  | zero => obtain rfl : m = 0 := by omega
            rfl
  | succ n ih =>
    by_cases hm : m ≤ n
    · rw [evenL, List.take_append_of_le_length (by rw [evenL_len]; exact hm)]; exact ih hm
    · obtain rfl : m = n + 1 := by omega
      rw [List.take_of_length_le (by rw [evenL_len]; exact Nat.le_refl _)]
theorem mul_bound (j ST : Int) (h0 : 0 ≤ j) (h1 : j ≤ 62) (s0 : 1 ≤ ST) (s1 : ST ≤ 1073741824) : 0 ≤ j * ST ∧ j * ST ≤ 66571993088 := by
  constructor
  · exact Int.mul_nonneg h0 (by omega)
  · have : j * ST ≤ 62 * 1073741824 := Int.mul_le_mul h1 s1 (by omega) (by omega)
    omega
theorem wrap64_id (x : Int) (h0 : -9223372036854775808 ≤ x) (h1 : x ≤ 9223372036854775807) : wrap64 x = x := by unfold wrap64; omega
section
variable {F ST : Int} {v n : Nat} (hn : n ≤ 62) (s0 : 1 ≤ ST) (s1 : ST ≤ 1073741824) (f0 : -549755813888 ≤ F) (f1 : F ≤ 549755813887) (hv : v < 18446744073709551616)
include hn s0 s1 f0 f1 hv
theorem even_ok (i : Nat) : SamOK (samD (evenL F ST v n) i) := by
  by_cases hi : i < n
  · rw [evenL_get F ST v n i hi]
    have := mul_bound i ST (by omega) (by omega) s0 s1
    exact ⟨by simp only; omega, by simp only; omega, hv⟩
  · have : samD (evenL F ST v n) i = ⟨0, 0⟩ := by
      simp [samD, List.getD_eq_getElem?_getD, List.getElem?_eq_none (show (evenL F ST v n).length ≤ i by rw [evenL_len]; omega)]
    rw [this]; exact samOK_zero
theorem even_can : canS (evenL F ST v n) = true := by
  refine (canS_iff _).2 ⟨by rw [evenL_len]; omega, fun k hk => ?_⟩
  rw [evenL_len] at hk
  rw [evenL_get F ST v n k (by omega), evenL_get F ST v n (k + 1) hk]
  show F + (k : Int) * ST < F + ((k + 1 : Nat) : Int) * ST
  have : ((k + 1 : Nat) : Int) * ST = (k : Int) * ST + ST := by push_cast; rw [Int.add_mul, Int.one_mul]
  omega
theorem even_step (k : Nat) (hk : k + 1 < n) : stepS (evenL F ST v n) (k + 1) = ST := by
  show wrap64 ((samD (evenL F ST v n) (k + 1)).t - (samD (evenL F ST v n) k).t) = ST
  rw [evenL_get F ST v n k (by omega), evenL_get F ST v n (k + 1) hk]
  show wrap64 (F + ((k + 1 : Nat) : Int) * ST - (F + (k : Int) * ST)) = ST
  have : ((k + 1 : Nat) : Int) * ST = (k : Int) * ST + ST := by push_cast; rw [Int.add_mul, Int.one_mul]
  rw [wrap64_id _ (by omega) (by omega)]
  omega
theorem even_bits (k : Nat) (hk : k + 2 ≤ n) : (encTo (evenL F ST v n) (k + 2)).length = 145 + intLen ST + 2 * k := by
  induction k with
  | zero =>
    have e1 := even_step hn s0 s1 f0 f1 hv 0 (by omega)
    have hx : (samD (evenL F ST v n) 1).v ^^^ (samD (evenL F ST v n) 0).v = 0 := by
      rw [evenL_get F ST v n 0 (by omega), evenL_get F ST v n 1 (by omega)]; exact Nat.xor_self v
    have e2 : encOne (evenL F ST v n) 1 = intBits (wrap64 (stepS (evenL F ST v n) 1 - 0)) ++ turned ((samD (evenL F ST v n) 1).v ^^^ (samD (evenL F ST v n) 0).v) := rfl
    rw [show (0 : Nat) + 2 = 1 + 1 from rfl, encTo_succ, show (1 : Nat) = 0 + 1 from rfl, encTo_succ, List.length_append, List.length_append, e2, e1, hx, Int.sub_zero, wrap64_id _ (by omega) (by omega), List.length_append, intBits_length]
    simp [encTo, encOne, lowBits_length, turned]
    omega
  | succ k ih =>
    have e0 := even_step hn s0 s1 f0 f1 hv k (by omega)
    have e1 := even_step hn s0 s1 f0 f1 hv (k + 1) (by omega)
    have hx : (samD (evenL F ST v n) (k + 2)).v ^^^ (samD (evenL F ST v n) (k + 1)).v = 0 := by
      rw [evenL_get F ST v n (k + 1) (by omega), evenL_get F ST v n (k + 2) (by omega)]; exact Nat.xor_self v
    have e2 : encOne (evenL F ST v n) (k + 2) = intBits (wrap64 (stepS (evenL F ST v n) (k + 2) - stepS (evenL F ST v n) (k + 1))) ++ turned ((samD (evenL F ST v n) (k + 2)).v ^^^ (samD (evenL F ST v n) (k + 1)).v) := rfl
    rw [show k + 1 + 2 = (k + 2) + 1 from rfl, encTo_succ, List.length_append, ih (by omega), e2, e0, e1, hx, Int.sub_self, wrap64_id _ (by omega) (by omega), List.length_append, intBits_length]
    simp [intLen, cls, clsMarks, clsWidth, turned, lowBits_length]
    omega
end

set_option maxHeartbeats 4000000 in
set_option maxRecDepth 100000 in
theorem codecEven_walk (first step n : Int) (v : Nat) (w : World) (hv : v < 18446744073709551616) (hT : BitsTab w) (hD : DbTab w) :
    Calls Tryd.prog 6 #[.int .i64 first, .int .i64 step, .int .u64 (v : Int), .int .i64 n] w fun e w' => e = .returned (.bool true) ∧ Below w.heap.size w w' := by
  obtain ⟨i0, hi, hz0, hz1, hz2⟩ := info_parts Tryd.infoSam
  obtain ⟨F, hF, f0, f1⟩ : ∃ F : Int, wrap64 (wrap64 ((IntKind.u64.wrap first).tmod 1099511627776) - 549755813888) = F ∧ -549755813888 ≤ F ∧ F ≤ 549755813887 := by
    refine ⟨_, rfl, ?_⟩
    rw [IntKind.wrap_u64, Int.tmod_eq_emod_of_nonneg (by omega)]
    unfold wrap64; omega
  obtain ⟨ST, hST, s0, s1⟩ : ∃ ST : Int, wrap64 (1 + wrap64 ((IntKind.u64.wrap step).tmod 1073741824)) = ST ∧ 1 ≤ ST ∧ ST ≤ 1073741824 := by
    refine ⟨_, rfl, ?_⟩
    rw [IntKind.wrap_u64, Int.tmod_eq_emod_of_nonneg (by omega)]
    unfold wrap64; omega
  obtain ⟨M, hM, m0, m1⟩ : ∃ M : Nat, wrap64 (3 + wrap64 ((IntKind.u64.wrap n).tmod 60)) = (M : Int) ∧ 3 ≤ M ∧ M ≤ 62 := by
    rw [IntKind.wrap_u64, Int.tmod_eq_emod_of_nonneg (by omega)]
    refine ⟨(3 + n % 18446744073709551616 % 60).toNat, ?_, by omega, by omega⟩
    unfold wrap64; omega
  have HF := hidn hF
  have HST := hidn hST
  have HM := hidn hM
  clear hF hST hM
  go_enter Tryd.func6, Tryd.ntmps6
  go_wp2_with fail
  rw [HF.out, HST.out, HM.out]
  go_loopw [9, 33] (fun lv iv wr => ∃ (k : Nat) (vv : Value), k ≤ M ∧ iv = .int .i64 (k : Int) ∧ lv = vv ∧ wr.ownsRow w.heap.size 26 2 vv k (vsm (evenL F ST v k)) ∧ Below w.heap.size w wr) (fun _ iv _ => M - (intOf iv).toNat)
  case atStart => exact ⟨0, _, Nat.zero_le _, rfl, rfl, World.ownsRow_nil _ _ _ _, Below.refl _ _⟩
  case round =>
    obtain ⟨k, vv, hk, rfl, rfl, hown, hbl⟩ := hrel
    have hsz := hbl.size
    by_cases hlt : k < M
    · obtain ⟨q0, q1⟩ := mul_bound k ST (by omega) (by omega) s0 s1
      obtain ⟨pr, hpr⟩ : ∃ pr, pr = (k : Int) * ST := ⟨_, rfl⟩
      have hpr' : wrap64 ((k : Int) * ST) = pr := by rw [wrap64_id _ (by omega) (by omega), hpr]
      rw [← hpr] at q0 q1
      have hki : (k : Int) < (M : Int) := by omega
      have HN : Hid (vsm (evenL F ST v (k + 1)) = vsm (evenL F ST v k) ++ [.int .i64 (F + pr), .int .u64 (v : Int)]) := hidn (by
        rw [hpr, evenL, vsm_app]; rfl)
      clear hpr
      go_wp2_with (at_builtin; refine wpList_append_own _ rfl _ _ 22 rfl w.heap.size 26 i0 (.agg #[.int .i64 0, .int .u64 0]) 2 16 Tryd.underlying22 hi hz0 hz1 hz2 rfl (by decide) _ _ _ rfl (hown.alloc _) ⟨wr.heap.size, 0, none⟩ 1 1 [.int .i64 (F + pr), .int .u64 (v : Int)] rfl rfl ?c1 ?c2 ?c3 ?c4 ?c5 ?_)
      case c1 =>
        intro j u hj
        match j, hj with
        | 0, hj => simp at hj; subst hj; simp [Addr.add]
        | 1, hj => simp at hj; subst hj; simp [Addr.add]
      case c2 => intro u hu; simp at hu; rcases hu with rfl | rfl <;> rfl
      case c3 => unfold maxLen; omega
      case c4 => omega
      case c5 => simp; omega
      intro v1 w1 hown1 hgrow1 _
      rw [← HN.out] at hown1
      have hbl1 : Below w.heap.size w w1 := (hbl.alloc hsz _).grown hgrow1 (by simp; omega) (fun k hk => (hown.lt k hk).1)
      have HO := hidn hown1
      clear hown1 hgrow1 hown
      go_wp2_with fail
      exact ⟨⟨k + 1, _, by omega, by go_num, rfl, HO.out, hbl1⟩, by simp [intOf]; omega⟩
    · obtain rfl : k = M := by omega
      have hki : ¬ (k : Int) < (k : Int) := by omega
      obtain ⟨a, cap, hvv, hnc, hSm⟩ := sm_of_own hown (fun i => even_ok (by omega) s0 s1 f0 f1 hv i)
      subst hvv
      have hcm : cap ≤ maxLen := by
        rcases hown.2 with ⟨h1, _⟩ | ⟨g, c, cur, h1, _, _, _, hcm, _⟩
        · cases h1; exact Nat.zero_le _
        · cases h1; exact hcm
      unfold maxLen at hcm
      have hS2 := hSm.take 2 (by omega)
      rw [evenL_take F ST v k 2 (by omega)] at hS2
      have hc2 := hidn (even_can (n := 2) (by omega) s0 s1 f0 f1 hv)
      have hcM := hidn (even_can (n := k) (by omega) s0 s1 f0 f1 hv)
      have hl2 := hidn (even_bits (n := 2) (by omega) s0 s1 f0 f1 hv 0 (by omega))
      have hlM := hidn (even_bits (n := k) (by omega) s0 s1 f0 f1 hv (k - 2) (by omega))
      clear hown
      go_wp2_with fail
      refine (senc_yes a 2 cap _ _ hS2 hc2.out (hT.below hbl) (hD.below hbl)).mono ?_
      rintro e w2 ⟨v2, z2, rfl, pk2, own2, b2⟩
      have B2 := hbl.trans (b2.mono hsz)
      obtain ⟨a2, c2, rfl⟩ := own_slice own2
      have e2 : z2.length = nb (145 + intLen ST) := by
        rw [pk2.1]; unfold encS; rw [evenL_len]; exact congrArg nb hl2.out
      obtain ⟨A2, hA2⟩ : ∃ A2, A2 = z2.length := ⟨_, rfl⟩
      rw [← hA2] at e2 ⊢
      have hSM := hSm.below b2
      have HE2 := hidn e2
      clear pk2 own2 b2 hA2 hS2 hSm e2
      go_wp2_with fail
      refine (senc_yes a k cap _ _ hSM hcM.out (hT.below B2) (hD.below B2)).mono ?_
      rintro e w3 ⟨v3, z3, rfl, pk3, own3, b3⟩
      have B3 := B2.trans (b3.mono B2.size)
      obtain ⟨a3, c3, rfl⟩ := own_slice own3
      have e3 : z3.length = nb (145 + intLen ST + 2 * (k - 2)) := by
        rw [pk3.1]; unfold encS; rw [evenL_len]
        have := hlM.out
        rw [show k - 2 + 2 = k from by omega] at this
        rw [this]
      obtain ⟨A3, hA3⟩ : ∃ A3, A3 = z3.length := ⟨_, rfl⟩
      rw [← hA3] at e3 ⊢
      clear pk3 own3 b3 hA3 hSM
      have e2 := HE2.out
      have hil : intLen ST ≤ 68 := by have h1 := clsMarks_le (cls ST); have h2 := clsWidth_le (cls ST); unfold intLen; omega
      have q1 : 18 ≤ A2 := by rw [e2]; unfold nb; omega
      have q2 : A2 ≤ A3 := by rw [e2, e3]; unfold nb; omega
      have q3 : A3 ≤ 1000 := by rw [e3]; unfold nb; omega
      have q4 : 8 * (A3 - A2) ≤ 2 * (k - 2) + 7 := by rw [e2, e3]; unfold nb; omega
      have q5 : 2 * (k - 2) ≤ 8 * (A3 - A2) + 7 := by rw [e2, e3]; unfold nb; omega
      have t1 : decide ((A2 : Int) < 18) = false := by simp; omega
      have t2 : decide ((A3 : Int) < (A2 : Int)) = false := by simp; omega
      have t3 : decide (8 * ((A3 : Int) - (A2 : Int)) ≤ 2 * ((k : Int) - 2) + 7) = true := by simp; omega
      have t4 : decide (2 * ((k : Int) - 2) - 7 ≤ 8 * ((A3 : Int) - (A2 : Int))) = true := by simp; omega
      clear e2 e3 hil HE2
      go_wp2_with fail
      exact bodyPost_ret (v := .bool true) (by simp [results, Tryd.results6, go_sem]) rfl ⟨rfl, B3⟩
theorem codecEven_law (first step v n : Int) (w : World) (hv : (Lit.int .u64 v).wf = true) (hT : BitsTab w ∧ DbTab w) :
    Calls Tryd.prog 6 #[.int .i64 first, .int .i64 step, .int .u64 v, .int .i64 n] w fun e w' => e = .returned (.bool true) ∧ Below w.heap.size w w' := by
  have hb := bounds_u64 hv
  obtain ⟨m, rfl⟩ := Int.eq_ofNat_of_zero_le hb.1
  exact codecEven_walk first step n m w (by omega) hT.1 hT.2
end Go.Proofs.YtljkidbdlhllcaaDoor
