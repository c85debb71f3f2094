/- The walk of dryrotlaw04.ExtentFrames: it returns true. -/
import Derived.Test.YtdigblglehchbaaDoorExtLaws
import Derived.Test.YtdigblglehchbaaDoorRefFrame
namespace Go.Proofs.YtdigblglehchbaaDoor
open Go.RowKit
set_option linter.unusedVariables false

theorem refFrame_bs (s : ByteArray) (I G : Int) (i g : Nat) (hI : I = i) (hG : G = g) (a : Option Addr) (len cap : Nat) (p : List Nat) (w : World) (hB : Bs w a len p) (hnil : a = none → cap = 0) (hsm : s.size ≤ maxLen) (hi : i ≤ 2147483647) (hg : g ≤ 4611686018427387904) (hl : len ≤ 106) (fz : List Nat) (HF : Hid (fz = frameB (nums s) i g p)) :
    Calls Tryd.prog 40 #[.string s, .int .i64 I, .int .i64 G, .slice a len cap] w fun e w' => ∃ a' c', e = .returned (.tuple #[.slice a' 128 c', .int .i64 0]) ∧ Bs w' a' 128 fz ∧ Below w.heap.size w w' := by
  refine (refFrame_ok s I G i g hI hG a len cap p w hB hnil hsm hi hg hl).mono ?_
  rintro e w' ⟨v, he, hown, hb⟩
  obtain ⟨a', c', rfl, hB'⟩ := bs_of_own hown (frameB_lt _ _ _ _ (by rw [hB.1]; exact hl) hB.2.2.1)
  rw [← HF.out] at hB'
  exact ⟨a', c', he, hB', hb⟩

end Go.Proofs.YtdigblglehchbaaDoor
