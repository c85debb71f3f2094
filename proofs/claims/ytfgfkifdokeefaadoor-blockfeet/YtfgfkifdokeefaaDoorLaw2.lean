/- dryrotlaw02's own short, same and awake; bits.PutInt where the table is laid. -/
import Derived.Test.YtfgfkifdokeefaaDoorBitsPutInt
import Derived.ProofKit
import Derived.OpenShut
namespace Go.Proofs.YtfgfkifdokeefaaDoor.Cd
open Go.RowKit
set_option linter.unusedVariables false

def u64 (n : Int) : Nat := (IntKind.u64.wrap n).toNat
theorem u64_eq (n : Int) : IntKind.u64.wrap n = (u64 n : Int) := by
  unfold u64
  rw [Int.toNat_of_nonneg (by rw [IntKind.wrap_u64]; omega)]
theorem u64_lt (n : Int) : u64 n < 18446744073709551616 := by
  have := u64_eq n
  rw [IntKind.wrap_u64] at this
  omega
/-- A number's bits, its class ahead. -/
def intBits (n : Int) : List Bool := lowBits (clsMark (cls n)) (clsMarks (cls n)) ++ lowBits (u64 n) (clsWidth (cls n))
def intLen (n : Int) : Nat := clsMarks (cls n) + clsWidth (cls n)
theorem intBits_length (n : Int) : (intBits n).length = intLen n := by simp [intBits, intLen, lowBits_length]
theorem clsMark_lt (k : Nat) : clsMark k < 18446744073709551616 := by unfold clsMark; split; omega; split; omega; split; omega; split <;> omega
theorem clsMarks_le (k : Nat) : clsMarks k ≤ 4 := by unfold clsMarks; split; omega; split; omega; split <;> omega
theorem clsWidth_le (k : Nat) : clsWidth k ≤ 64 := by unfold clsWidth; split; omega; split; omega; split; omega; split <;> omega

theorem putInt_ok (a : Option Addr) (len cap : Nat) (x : Nat) (n : Int) (zs : List Nat) (w : World) (hB : Bs w a len zs) (hx : x ≤ 1099511627776) (hcan : canB zs x = true) (hT : BitsTab w) :
    Calls Tryd.prog 53 #[.agg #[.slice a len cap, .int .i64 x], .int .i64 n] w fun e w' =>
      ∃ g ys, e = .returned (.tuple #[.agg #[.slice (some ⟨g, 0, none⟩) ys.length ys.length, .int .i64 ((x + intLen n : Nat) : Int)], .int .i64 0]) ∧ w.heap.size ≤ g ∧
        w'.ownsRow w.heap.size 5 1 (.slice (some ⟨g, 0, none⟩) ys.length ys.length) ys.length (vb ys) ∧ IsPack ys (bitsL zs x ++ intBits n) ∧ Below w.heap.size w w' := by
  obtain ⟨t0, t1, t2⟩ := hT (cls n) (cls_le n)
  exact putInt_core a len cap x n (cls n) _ _ _ (u64 n) zs w hB hx (cls_le n) rfl (clsMark_lt _) (clsMarks_le _) (clsWidth_le _) (u64_eq n) (u64_lt n) t0 t1 t2 hcan

theorem five_bits : intBits 5 = [true, false, false, false, false, false, true, false, true] := by decide
theorem five_len : intLen 5 = 9 := by decide
theorem five_pack : IsPack [130, 128] (bitsL [] 0 ++ intBits 5) := by
  rw [five_bits]
  refine ⟨by decide, by intro x hx; simp at hx; omega, fun i => ?_⟩
  by_cases h : i < 16
  · have key : ∀ i, i < 16 → bitAt [130, 128] i = (bitsL [] 0 ++ [true, false, false, false, false, false, true, false, true]).getD i false := by decide
    exact key i h
  · rw [bitAt_out _ _ (by simp; omega), List.getD_eq_getElem?_getD, List.getElem?_eq_none (by simp [bitsL]; omega)]; rfl
theorem bs_new2 (w : World) (zs : List Nat) (fr : Nat × Nat) (hz : ∀ x ∈ zs, x < 256) (hm : zs.length ≤ maxLen) : Bs (w.alloc (.cells (vb zs).toArray 5 fr)) (some ⟨w.heap.size, 0, none⟩) zs.length zs := by
  refine ⟨rfl, hm, hz, (fun h => by simp at h), fun x hx j hj => ?_⟩
  cases hx
  rw [add_none, World.cell?_alloc_mark, Nat.zero_add]
  simpa using vb_getD zs j hj

theorem putInt_five (w : World) (hT : BitsTab w) :
    Calls Tryd.prog 53 #[.agg #[.slice none 0 0, .int .i64 0], .int .i64 5] w fun e w' =>
      ∃ (ay : Option Addr) (ly cy : Nat), e = .returned (.tuple #[.agg #[.slice ay ly cy, .int .i64 9], .int .i64 0]) ∧ Bs w' ay ly [130, 128] ∧ Below w.heap.size w w' := by
  have h := putInt_ok none 0 0 0 5 [] w (Bs.nil _) (by omega) (by decide) hT
  rw [show ((0 : Nat) : Int) = 0 from rfl, five_len, show ((0 + 9 : Nat) : Int) = 9 from rfl] at h
  refine h.mono ?_
  rintro e w1 ⟨g, ys, rfl, hg, hown, hpk, hb1⟩
  have hys := hpk.unique five_pack
  obtain ⟨ay, cy, hvy, hBy⟩ := bs_of_own hown hpk.2.1
  rw [hvy]
  rw [hys] at hBy
  exact ⟨ay, ys.length, cy, rfl, by rw [hys]; exact hBy, hb1⟩

end Go.Proofs.YtfgfkifdokeefaaDoor.Cd
