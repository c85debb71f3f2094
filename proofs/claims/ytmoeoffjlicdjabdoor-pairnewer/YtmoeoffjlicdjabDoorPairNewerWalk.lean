/- The walk of dryrotlaw05.PairNewer: it returns true. -/
import Derived.Test.YtmoeoffjlicdjabDoorPairNewer1
import Derived.Test.YtmoeoffjlicdjabDoorPairNewer2
import Derived.Test.YtmoeoffjlicdjabDoorPairNewer3
import Derived.Test.YtmoeoffjlicdjabDoorPairNewer4
namespace Go.Proofs.YtmoeoffjlicdjabDoor
open Go.RowKit
set_option linter.unusedVariables false

theorem pairNewer_walk (a0 a1 : Option Addr) (l0 c0 l1 c1 : Nat) (zs ys : List Nat) (fuse : Int) (w : World) (hB0 : Bs w a0 l0 zs) (hB1 : Bs w a1 l1 ys) (hc0 : l0 ≤ c0) (hm0 : c0 ≤ maxLen) (hc1 : l1 ≤ c1) (hm1 : c1 ≤ maxLen) (hT : CrcTab w) :
    Calls Tryd.prog 5 #[.slice a0 l0 c0, .slice a1 l1 c1, .int .i64 fuse] w fun e w' => e = .returned (.bool true) ∧ Below w.heap.size w w' := by
  obtain ⟨u, hu⟩ : ∃ u, u = IntKind.u64.wrap fuse := ⟨_, rfl⟩
  have h0 : 0 ≤ u := by rw [hu, IntKind.wrap_u64]; omega
  have h5 : u.tmod 5 = u % 5 := Int.tmod_eq_emod_of_nonneg h0
  have h : u.tmod 5 = 0 ∨ u.tmod 5 = 1 ∨ u.tmod 5 = 2 ∨ u.tmod 5 = 3 ∨ u.tmod 5 = 4 := by rw [h5]; omega
  rw [hu] at h
  rcases h with h | h | h | h | h
  · exact newer0 a0 a1 l0 c0 l1 c1 zs ys fuse w hB0 hB1 hc0 hm0 hc1 hm1 hT h
  · exact newer1 a0 a1 l0 c0 l1 c1 zs ys fuse w hB0 hB1 hc0 hm0 hc1 hm1 hT h
  · exact newer2 a0 a1 l0 c0 l1 c1 zs ys fuse w hB0 hB1 hc0 hm0 hc1 hm1 hT h
  · exact newer3 a0 a1 l0 c0 l1 c1 zs ys fuse w hB0 hB1 hc0 hm0 hc1 hm1 hT h
  · exact newer4 a0 a1 l0 c0 l1 c1 zs ys fuse w hB0 hB1 hc0 hm0 hc1 hm1 hT h
end Go.Proofs.YtmoeoffjlicdjabDoor
