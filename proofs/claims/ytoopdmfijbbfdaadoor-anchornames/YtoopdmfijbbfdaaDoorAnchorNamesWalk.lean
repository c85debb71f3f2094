/- AnchorNames: the law's walk. -/
import Derived.Test.YtoopdmfijbbfdaaDoorAnG
import Derived.Test.YtoopdmfijbbfdaaDoorWaR
namespace Go.Proofs.YtoopdmfijbbfdaaDoor
open Go.RowKit Go.Maps
set_option linter.unusedVariables false

def nmM (n : Int) : ByteArray := ⟨#[109]⟩ ++ ⟨(Lib.decDigits n.toNat).toArray⟩
def nmT (n : Int) : ByteArray := ⟨#[116]⟩ ++ ⟨(Lib.decDigits n.toNat).toArray⟩

set_option maxHeartbeats 1000000 in
theorem names_any (w : World) (n : Int) (hn : n ≤ 9223372036854775807) (htab : Pow10 w) :
    Calls Tryd.prog 16 #[.int .i64 n] w fun e w' => e = .returned (.tuple #[.string (nmM n), .string (nmT n)]) ∧ Below w.heap.size w w' := by
  obtain ⟨k, hk⟩ : ∃ k : Nat, k = n.toNat := ⟨_, rfl⟩
  have m1 : (if n < 0 then (0 : Int) else n) = (k : Int) := by split <;> omega
  have m2 : max n 0 = (k : Int) := by omega
  have m3 : (if (0 : Int) < n then n else 0) = (k : Int) := by split <;> omega
  have hI := Tryd.strconv_Itoa (k : Int) (by omega) (by omega) w htab
  have hit : Lib.itoa (k : Int) = Lib.decDigits n.toNat := by unfold Lib.itoa; rw [if_neg (by omega), Int.toNat_natCast, hk]
  rw [hit] at hI
  have hsz := decA_size n hn
  have HM : Hid (nmM n = ⟨#[109]⟩ ++ ⟨(Lib.decDigits n.toNat).toArray⟩) := hidn rfl
  have HT : Hid (nmT n = ⟨#[116]⟩ ++ ⟨(Lib.decDigits n.toNat).toArray⟩) := hidn rfl
  generalize (⟨(Lib.decDigits n.toNat).toArray⟩ : ByteArray) = ds at *
  clear hk hit
  go_enter Tryd.func16, Tryd.ntmps16
  go_wp2_with fail
  refine hI.mono ?_
  rintro e w1 ⟨rfl, q, os, rfl⟩
  have hb := Lib.below_grow w.heap.size w (Nat.le_refl _) q os
  go_wp2
  go_ret2
  rw [HM.out, HT.out]
  exact ⟨rfl, hb⟩

set_option maxHeartbeats 1000000 in
theorem refNames_any (w : World) (n : Int) (hn : n ≤ 9223372036854775807) :
    Calls Tryd.prog 17 #[.int .i64 n] w fun e w' => e = .returned (.tuple #[.string (nmM n), .string (nmT n)]) ∧ w' = w := by
  have hD := digits_any w n hn
  have hsz := decA_size n hn
  have HM : Hid (nmM n = ⟨#[109]⟩ ++ ⟨(Lib.decDigits n.toNat).toArray⟩) := hidn rfl
  have HT : Hid (nmT n = ⟨#[116]⟩ ++ ⟨(Lib.decDigits n.toNat).toArray⟩) := hidn rfl
  generalize (⟨(Lib.decDigits n.toNat).toArray⟩ : ByteArray) = ds at *
  have HD := hidn hD
  clear hD
  go_enter Tryd.func17, Tryd.ntmps17
  go_wp2_with fail
  refine HD.out.mono ?_
  rintro e w1 ⟨rfl, h1⟩
  subst h1
  go_wp2_with fail
  refine HD.out.mono ?_
  rintro e w2 ⟨rfl, h2⟩
  subst h2
  go_wp2
  go_ret2
  rw [HM.out, HT.out]
  exact ⟨rfl, rfl⟩

set_option maxHeartbeats 1000000 in
theorem refFresh_any (w : World) :
    Calls Tryd.prog 19 #[] w fun e w' => e = .returned (.agg #[.int .i64 0, .int .i64 1, .int .i64 0, .int .i64 1, .int .i64 0, .int .i64 (-9223372036854775808), .int .i64 (-9223372036854775808), .int .i64 0, .int .i64 1, .int .i64 0]) ∧ Below w.heap.size w w' := by
  go_enter Tryd.func19, Tryd.ntmps19
  go_wp2
  exact bodyPost_ret (v := .agg #[.int .i64 0, .int .i64 1, .int .i64 0, .int .i64 1, .int .i64 0, .int .i64 (-9223372036854775808), .int .i64 (-9223372036854775808), .int .i64 0, .int .i64 1, .int .i64 0]) (results_cell_row rfl _ _ w.heap.size 23 _ (0, 0) _ rfl (heap_alloc_new _ _) Tryd.underlying23 rfl (by kernel_rfl)) rfl ⟨rfl, below1 _ _⟩

theorem nmM_size (n : Int) (hn : n ≤ 9223372036854775807) : (nmM n).size ≤ 30 := by
  have := decA_size n hn
  unfold nmM
  rw [ByteArray.size_append]
  have : (⟨#[109]⟩ : ByteArray).size = 1 := rfl
  omega
theorem nmT_size (n : Int) (hn : n ≤ 9223372036854775807) : (nmT n).size ≤ 30 := by
  have := decA_size n hn
  unfold nmT
  rw [ByteArray.size_append]
  have : (⟨#[116]⟩ : ByteArray).size = 1 := rfl
  omega

set_option maxHeartbeats 2000000 in
theorem anchorNames_walk (n : Int) (hwf : (Lit.int .i64 n).wf = true) (w : World) (hT : CrcTab w) (hP : Pow10 w) :
    Calls Tryd.prog 5 #[.int .i64 n] w fun e w' => e = .returned (.bool true) ∧ Below w.heap.size w w' := by
  have hn : n ≤ 9223372036854775807 := by
    have h8 : (decide (IntKind.i64.min ≤ n) && decide (n ≤ IntKind.i64.max)) = true := hwf
    rw [show IntKind.i64.max = 9223372036854775807 from rfl] at h8
    simp at h8
    exact h8.2
  have HN := hidn (names_any w n hn hP)
  have HR := hidn (fun wx => refNames_any wx n hn)
  have hsm := nmM_size n hn
  have hst := nmT_size n hn
  have HT := hidn hT
  generalize nmM n = sm at *
  generalize nmT n = st at *
  clear hT hP hwf
  go_enter Tryd.func5, Tryd.ntmps5
  go_wp2_with fail
  refine HN.out.mono ?_
  clear HN
  rintro e w1 ⟨rfl, hb1⟩
  go_wp2_with fail
  refine (HR.out _).mono ?_
  clear HR
  rintro e w2 ⟨rfl, h2⟩
  subst h2
  go_wp2_with fail
  refine (fresh_any _).mono ?_
  rintro e w3 ⟨rfl, hb3⟩
  have hb13 := hb1.trans (hb3.mono hb1.size)
  go_wp2_with fail
  refine (refFresh_any _).mono ?_
  rintro e w4 ⟨rfl, hb4⟩
  have hb14 := hb13.trans (hb4.mono hb13.size)
  go_wp2_with fail
  refine (awake17_any _ (HT.out.below hb14)).mono ?_
  rintro e w5 ⟨rfl, hb5⟩
  have hb15 := hb14.trans (hb5.mono hb14.size)
  go_wp2
  go_ret
  exact ⟨rfl, hb15⟩
end Go.Proofs.YtoopdmfijbbfdaaDoor
