/- MergeSamples: the last sample of each step. -/
import Derived.Test.YthmknpdhgfmogabMsE
import Derived.Test.YthmknpdhgfmogabMgK
namespace Go.Proofs.Ythmknpdhgfmogab
open Go.RowKit Go.Joins
set_option linter.unusedVariables false

theorem smp_one {frm to step : Int} {n m : Nat} (hs : 1 ≤ step) (h1 : frm + n * step ≤ to) (h2 : to - (frm + n * step) < step) (k1 : frm + m * step ≤ to) (k2 : to - (frm + m * step) < step) : n = m := by
  have key : ∀ a b : Nat, a < b → frm + (b : Int) * step ≤ to → to - (frm + (a : Int) * step) < step → False := fun a b hab hb ha => by
    have h9 : ((a : Int) + 1) * step ≤ (b : Int) * step := Int.mul_le_mul_of_nonneg_right (by omega) (by omega)
    rw [Int.add_mul] at h9
    omega
  rcases Nat.lt_trichotomy n m with h | h | h
  · exact (key n m h k1 h2).elim
  · exact h
  · exact (key m n h h1 k2).elim

theorem smp_many {frm to step : Int} {n : Nat} (hs : 1 ≤ step) (hn : n ≤ 199) (hm : 200 * step ≤ to - frm) (h2 : to - (frm + n * step) < step) : False := by
  have h9 : ((n : Int) + 1) * step ≤ 200 * step := Int.mul_le_mul_of_nonneg_right (by omega) (by omega)
  rw [Int.add_mul] at h9
  omega

/-- What both sides tell: one slice of samples, one number. -/
def SmpQ (l : List Sam) (err : Int) (w : World) (e : Ending) (w' : World) : Prop :=
  Below w.heap.size w w' ∧ ∃ (a : Option Addr) (c : Nat), e = .returned (.tuple #[.slice a l.length c, .int .i64 err]) ∧ Sm w' a l.length l

theorem smp_tot (l : List Sam) (frm to step back : Int) : ∃ (out : List Sam) (err : Int), (∀ w e w', SmpP l frm to step back w e w' → SmpQ out err w e w') := by
  cases hb : badS l frm to step back
  · have hs : 1 ≤ step := by
      unfold badS at hb
      simp at hb
      omega
    by_cases hm : 200 * step ≤ to - frm
    · refine ⟨[], 290, fun w e w' h => ⟨h.1, ?_⟩⟩
      rcases h.2 with ⟨h1, _⟩ | ⟨_, _, rfl⟩ | ⟨_, n, a, c, hn, h1, h2, _⟩
      · rw [hb] at h1; cases h1
      · exact ⟨none, 0, rfl, Sm.nil _⟩
      · exact (smp_many hs hn hm h2).elim
    · by_cases hx : ∃ n : Nat, frm + n * step ≤ to ∧ to - (frm + n * step) < step
      · obtain ⟨m, k1, k2⟩ := hx
        refine ⟨smp l frm step back (m + 1), 0, fun w e w' h => ⟨h.1, ?_⟩⟩
        rcases h.2 with ⟨h1, _⟩ | ⟨_, h1, _⟩ | ⟨_, n, a, c, hn, h1, h2, rfl, hsm⟩
        · rw [hb] at h1; cases h1
        · exact absurd h1 hm
        · obtain rfl := smp_one hs h1 h2 k1 k2
          exact ⟨a, c, rfl, hsm⟩
      · refine ⟨[], 0, fun w e w' h => ⟨h.1, ?_⟩⟩
        rcases h.2 with ⟨h1, _⟩ | ⟨_, h1, _⟩ | ⟨_, n, a, c, hn, h1, h2, _⟩
        · rw [hb] at h1; cases h1
        · exact absurd h1 hm
        · exact absurd ⟨n, h1, h2⟩ hx
  · refine ⟨[], 1, fun w e w' h => ⟨h.1, ?_⟩⟩
    rcases h.2 with ⟨_, rfl⟩ | ⟨h1, _⟩ | ⟨h1, _⟩
    · exact ⟨none, 0, rfl, Sm.nil _⟩
    · rw [hb] at h1; cases h1
    · rw [hb] at h1; cases h1

set_option maxHeartbeats 4000000 in
set_option maxRecDepth 100000 in
theorem mergeSamples_walk (a : Option Addr) (len cap : Nat) (l : List Sam) (frm to step back : Int) (w : World) (h : Sm w a len l) (hlc : len ≤ cap) (hf : -9223372036854775808 ≤ frm ∧ frm ≤ 9223372036854775807) (ht : -9223372036854775808 ≤ to ∧ to ≤ 9223372036854775807) (hs : -9223372036854775808 ≤ step ∧ step ≤ 9223372036854775807) (hb : -9223372036854775808 ≤ back ∧ back ≤ 9223372036854775807) :
    Calls Try.prog 7 #[.slice a len cap, .int .i64 frm, .int .i64 to, .int .i64 step, .int .i64 back] w fun e w' => e = .returned (.bool true) ∧ Below w.heap.size w w' := by
  obtain ⟨m, hm⟩ : ∃ m, m = min len 60 := ⟨_, rfl⟩
  have m1 : min (len : Int) 60 = (m : Int) := by omega
  have m2 : (if (60 : Int) < (len : Int) then (60 : Int) else (len : Int)) = (m : Int) := by split <;> omega
  have m3 : (if 60 < len then (60 : Int) else (len : Int)) = (m : Int) := by split <;> omega
  have m4 : (m : Int) ≤ (cap : Int) := by omega
  have m5 : m ≤ cap := by omega
  have hm60 : m ≤ 60 := by omega
  obtain ⟨out, err, htot⟩ := smp_tot (l.take m) frm to step back
  have hsm := h.take m (by omega)
  have HT := hidn htot
  have HS := hidn hsm
  have HP := hidn (fun wx (hx : Sm wx a m (l.take m)) => sample_any a m cap (l.take m) frm to step back wx hx (by omega) hf.1 ht.2 hs.2 hb.2)
  have HR := hidn (fun wx (hx : Sm wx a m (l.take m)) => refSample_any a m cap (l.take m) frm to step back wx hx (by omega) hf.1 ht.2 hs.2 hb.2)
  clear htot hsm h hm
  go_enter Try.func7, Try.ntmps7
  go_wp2_with fail
  refine (HP.out _ HS.out).mono ?_
  intro e w1 hq
  obtain ⟨b1, a1, c1, rfl, hs1⟩ := HT.out _ _ _ hq
  have HB1 := hidn b1
  have HS1 := hidn hs1
  have HP2 := hidn (HR.out w1 (HS.out.below b1))
  clear hq b1 hs1 HP
  go_wp2_with fail
  refine HP2.out.mono ?_
  intro e w2 hq
  obtain ⟨b2, a2, c2, rfl, hs2⟩ := HT.out _ _ _ hq
  have HB2 := hidn (HB1.out.trans (b2.mono HB1.out.size))
  have HE := hidn (seq_any a1 a2 out.length c1 out.length c2 out out w2 (HS1.out.below b2) hs2)
  rw [dcd_true rfl] at HE
  clear hq b2 hs2 HP2
  go_wp2_with fail
  refine HE.out.mono ?_
  rintro e w3 ⟨rfl, b3⟩
  have HB3 := hidn (HB2.out.trans (b3.mono HB2.out.size))
  have HA := hidn (awake26 w3)
  clear b3
  go_wp2_with fail
  refine HA.out.mono ?_
  rintro e w4 ⟨rfl, b4⟩
  have HB4 := hidn (HB3.out.trans (b4.mono HB3.out.size))
  clear b4
  go_wp2_with fail
  go_ret
  exact ⟨rfl, HB4.out⟩
end Go.Proofs.Ythmknpdhgfmogab
