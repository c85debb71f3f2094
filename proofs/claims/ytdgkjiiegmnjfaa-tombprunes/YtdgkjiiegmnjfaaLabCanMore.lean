/- dryrotref07's Compare and Get, labels.Get: contracts at any lists. -/
import Derived.Test.YtdgkjiiegmnjfaaLabCmpL
namespace Go.Proofs.Ytdgkjiiegmnjfaa
open Go.RowKit
set_option linter.unusedVariables false

def getL : List Lab → ByteArray → ByteArray
  | [], _ => ⟨#[]⟩
  | x :: t, s => if x.1.toList == s.toList then x.2 else getL t s
theorem getL_step (a : List Lab) (s : ByteArray) (k : Nat) (ha : k < a.length) : getL (a.drop k) s = if (labD a k).1.toList == s.toList then (labD a k).2 else getL (a.drop (k + 1)) s := by
  rw [labD_drop a k ha]; rfl
theorem getL_end (a : List Lab) (s : ByteArray) (k : Nat) (ha : a.length ≤ k) : getL (a.drop k) s = ⟨#[]⟩ := by
  rw [List.drop_of_length_le ha]; rfl

set_option maxHeartbeats 2000000 in
theorem get_any (a : Option Addr) (len cap : Nat) (la : List Lab) (s : ByteArray) (w : World) (h : Ls w a len la) (hr : len ≤ 140737488355328) :
    Calls Try.prog 26 #[.slice a len cap, .string s] w fun e w' => e = .returned (.string (getL la s)) ∧ Below w.heap.size w w' := by
  have e : ∀ n, getL la s = n → (Ending.returned (.string n) = Ending.returned (.string (getL la s))) := fun b h => by rw [h]
  have HE := hidn e
  have hl := hidn h.1
  clear e
  go_enter Try.func26, Try.ntmps26
  go_wp2
  go_loopw [9] (fun i wr => ∃ k : Nat, k ≤ len ∧ i = .int .i64 k ∧ Below w.heap.size w wr ∧ Hid (getL la s = getL (la.drop k) s)) (fun i wr => len - (intOf i).toNat)
  case atStart => exact ⟨0, Nat.zero_le _, rfl, Below.refl _ _, rfl⟩
  case round =>
    obtain ⟨k, hk, rfl, hbl, hn⟩ := hrel
    by_cases hlt : k < len
    · obtain ⟨ba, offa, rfl, hba, hca⟩ := h.pos (by omega)
      obtain ⟨c0, c1⟩ := hca k hlt
      have c0' : wr.cell? ⟨ba, offa + k * 2, none⟩ = some (.string (labD la k).1) := (hbl.cell (p := ⟨ba, offa + k * 2, none⟩) hba).trans c0
      have c1' : wr.cell? ⟨ba, offa + k * 2 + 1, none⟩ = some (.string (labD la k).2) := (hbl.cell (p := ⟨ba, offa + k * 2 + 1, none⟩) hba).trans c1
      have hsw : w.heap.size ≤ wr.heap.size := hbl.size
      have HST := hidn (hn.out.trans (getL_step la s k (by rw [hl.out]; exact hlt)))
      clear c0 c1 hca hn
      generalize hx : labD la k = x at *
      obtain ⟨x1, x2⟩ := x
      clear hx
      dsimp only at c0' c1'
      by_cases hq : (x1.toList == s.toList) = true
      · have HC : Hid (getL la s = x2) := hidn (by rw [HST.out, if_pos hq])
        go_wp2
        go_ret
        exact ⟨HE.out _ HC.out, hbl.alloc hsw _⟩
      · have hq' : (x1.toList == s.toList) = false := by simpa using hq
        have HC : Hid (getL la s = getL (la.drop (k + 1)) s) := hidn (by rw [HST.out, if_neg hq])
        clear hq HST
        go_wp2
        exact ⟨⟨k + 1, by omega, by go_num, hbl.alloc hsw _, HC⟩, by simp [intOf]; omega⟩
    · have HC := hidn (hn.out.trans (getL_end la s k (by rw [hl.out]; omega)))
      clear hn
      go_wp2
      go_ret
      exact ⟨HE.out _ HC.out, hbl⟩

end Go.Proofs.Ytdgkjiiegmnjfaa