/- DiskLives: the law's walk. -/
import Derived.Test.YtpiohhljcjobfaaTwF
namespace Go.Proofs.Ytpiohhljcjobfaa
open Go.RowKit Go.Maps
set_option linter.unusedVariables false

set_option maxHeartbeats 1000000 in
theorem new_no (w : World) (r : Int) (h : r < 0 ∨ 100000 < r) :
    Calls Try.prog 7 #[.int .i64 r] w fun e w' => e = .returned (.tuple #[.pointer none, .int .i64 1]) ∧ w' = w := by
  by_cases h0 : r < 0
  · have h1 : decide (r < 0) = true := decide_eq_true h0
    go_enter Try.func7, Try.ntmps7
    go_wp2
    go_ret2
    exact ⟨rfl, rfl⟩
  · have h1 : decide (r < 0) = false := decide_eq_false h0
    have h2 : 100000 < r := by omega
    have h3 : decide (100000 < r) = true := decide_eq_true h2
    go_enter Try.func7, Try.ntmps7
    go_wp2
    go_ret2
    exact ⟨rfl, rfl⟩

set_option maxHeartbeats 8000000 in
set_option maxRecDepth 100000 in
theorem diskLives_walk (r : Int) (la : Option Addr) (ll lc : Nat) (sts : List StK) (w : World) (hM : StsK w la ll sts) :
    Calls Try.prog 3 #[.int .i64 r, .slice la ll lc] w fun e w' => e = .returned (.bool true) ∧ Below w.heap.size w w' := by
  have hpn := fun (wx : World) (p : Option Addr) => run_eql_pointer_nil (P := Try.prog) wx 23 p (by kernel_rfl)
  have hpy := fun (wx : World) (p : Option Addr) => run_eql_pointer_nil (P := Try.prog) wx 27 p (by kernel_rfl)
  have HM := hidn hM
  have hml := hM.2.1
  unfold maxLen at hml
  have HLn := hidn hM.1
  clear hM
  by_cases hr : r < 0 ∨ 100000 < r
  · have HN1 := hidn (new_no w r hr)
    have HN2 := fun wx => hidn (newY_no wx r hr)
    clear hr
    go_enter Try.func3, Try.ntmps3
    go_wp2_with fail
    refine HN1.out.mono ?_
    rintro e w1 ⟨rfl, rfl⟩
    go_wp2_with fail
    refine (HN2 _).out.mono ?_
    rintro e w2 ⟨rfl, rfl⟩
    go_wp2_with fail
    refine (awake3_any _).mono ?_
    rintro e w3 ⟨rfl, hb3⟩
    have HB := hidn hb3
    clear hb3
    go_wp2
    go_ret
    exact ⟨rfl, HB.out⟩
  · obtain ⟨n, rfl⟩ : ∃ n : Nat, r = (n : Int) := ⟨r.toNat, by omega⟩
    have hn : n ≤ 100000 := by omega
    clear hr
    go_enter Try.func3, Try.ntmps3
    go_wp2_with fail
    refine (new_any _ n hn).mono ?_
    rintro e w1 ⟨rfl, hD1, hb1, hs1⟩
    have HD1 := hidn hD1
    have HB1 := hidn hb1
    have HS1 := hidn hs1
    clear hD1 hb1 hs1
    go_wp2_with fail
    refine (newY_yes _ n hn).mono ?_
    rintro e w2 ⟨rfl, hY2, hb2, hs2⟩
    have HT := hidn (two_new hn HD1.out HB1.out HS1.out hY2 hb2 hs2)
    clear hY2 hb2 hs2 HD1 HB1 HS1
    obtain ⟨d, hd⟩ : ∃ d, d = w.heap.size + 1 := ⟨_, rfl⟩
    obtain ⟨y, hy⟩ : ∃ y, y = w1.heap.size := ⟨_, rfl⟩
    rw [← hd, ← hy] at HT
    rw [← hd, ← hy]
    have HI0 : Hid (∃ st, Two w w2 d (min 0 60) y (n : Int) st) := hidn ⟨_, HT.out⟩
    clear hd hy HT
    go_wp2_with fail
    go_loopw [36] (fun iv wr => ∃ k : Nat, k ≤ ll ∧ iv = .int .i64 (k : Int) ∧ Hid (∃ st, Two w wr d (min k 60) y (n : Int) st)) (fun iv _ => ll - (intOf iv).toNat)
    case atStart => exact ⟨0, Nat.zero_le _, rfl, HI0⟩
    case round =>
      obtain ⟨j, hj, rfl, HI⟩ := hrel
      by_cases hlt : j < ll
      · have hlt2 : (j : Int) < (ll : Int) := by omega
        obtain ⟨s, hs⟩ : ∃ s, sts[j]? = some s := ⟨_, List.getElem?_eq_getElem (by rw [HLn.out]; exact hlt)⟩
        have hB : Below w.heap.size w wr := by obtain ⟨st, hT⟩ := HI.out; exact hT.1
        obtain ⟨mb, mo, rfl, c0, c1, c2, c3, c4, c5, c6, c7⟩ := HM.out.sts.at2 hB (HM.out.step hs)
        have HOK := hidn (HM.out.2.2.2.1 s (List.mem_of_getElem? hs))
        obtain ⟨m, hm⟩ : ∃ m : Nat, s.s.m6 = (m : Int) := ⟨s.s.m6.toNat, by have := HOK.out.2.2.2.1; omega⟩
        have HMM := hidn hm
        rw [hm] at c6
        clear hs hB hm
        have HTS : Hid (∃ st, Two w (wr.alloc (.cells #[.int .i64 s.s.op, .int .i64 s.s.i, .int .i64 s.s.at2, .int .i64 s.s.n3, .string s.s.nm, .slice s.s.ba s.s.bl s.s.bc, .int .u8 (m : Int), .slice s.s.ka s.s.kl s.s.kc] 34)) d (min j 60) y (n : Int) st) := hidn (by
          obtain ⟨st, hT⟩ := HI.out
          exact ⟨st, hT.below ((Below.refl _ _).alloc (Nat.le_refl _) _)⟩)
        by_cases h60 : j < 60
        · have h60i : (j : Int) < 60 := by omega
          go_wp2_with fail
          obtain ⟨st, hT⟩ := HTS.out
          refine (do_step w _ d (min j 60) y (n : Int) st hT (by omega) s HOK.out m HMM.out).mono ?_
          rintro e w3 ⟨rfl, st', hT'⟩
          have HI2 : Hid (Two w w3 d (min (j + 1) 60) y (n : Int) st') := hidn (hT'.mono (by omega))
          clear hT hT' c0 c1 c2 c3 c4 c5 c6 c7 HI HTS
          go_wp2_with fail
          refine (same_any w _ d (min (j + 1) 60) y (n : Int) st' HI2.out (by omega)).mono ?_
          rintro e w4 ⟨rfl, hb4⟩
          have HI3 : Hid (∃ st, Two w w4 d (min (j + 1) 60) y (n : Int) st) := hidn ⟨st', HI2.out.below hb4⟩
          clear hb4 HI2
          go_wp2
          go_roundw
          case rel => exact ⟨j + 1, hlt, by simp, HI3⟩
          case measure => simp [intOf]; omega
        · have h60i : ¬ (j : Int) < 60 := by omega
          have HI2 : Hid (∃ st, Two w (wr.alloc (.cells #[.int .i64 s.s.op, .int .i64 s.s.i, .int .i64 s.s.at2, .int .i64 s.s.n3, .string s.s.nm, .slice s.s.ba s.s.bl s.s.bc, .int .u8 (m : Int), .slice s.s.ka s.s.kl s.s.kc] 34)) d (min (j + 1) 60) y (n : Int) st) := hidn (by
            obtain ⟨st, hT⟩ := HTS.out
            exact ⟨st, hT.mono (by omega)⟩)
          clear HI HTS
          go_wp2
          go_roundw
          case rel => exact ⟨j + 1, hlt, by simp, HI2⟩
          case measure => simp [intOf]; omega
      · have hlt2 : ¬ (j : Int) < (ll : Int) := by omega
        have HB : Hid (Below w.heap.size w wr) := hidn (by obtain ⟨st, hT⟩ := HI.out; exact hT.1)
        clear HI
        go_wp2_with fail
        refine (awake3_any _).mono ?_
        rintro e w3 ⟨rfl, hb3⟩
        have HB3 := hidn (HB.out.trans (hb3.mono HB.out.size))
        clear hb3
        go_wp2
        go_ret
        exact ⟨rfl, HB3.out⟩
end Go.Proofs.Ytpiohhljcjobfaa
