/- A list of steps that came in, with what a crash keeps. -/
import Derived.Test.YtpiohhljcjobfaaStepsDef
import Derived.Test.YtpiohhljcjobfaaDiskFK
namespace Go.Proofs.Ytpiohhljcjobfaa
open Go.RowKit Go.Maps
set_option linter.unusedVariables false
structure StK where
  s : Stp
  ks : List Kp
def StKOk (W : World) (s : StK) : Prop := s.s.nm.size ≤ maxLen ∧ Bs W s.s.ba s.s.bl s.s.zs ∧ Kps W s.s.ka s.s.kl s.ks ∧ (0 ≤ s.s.m6 ∧ s.s.m6 ≤ 255) ∧ (-9223372036854775808 ≤ s.s.n3 ∧ s.s.n3 ≤ 9223372036854775807) ∧ (-9223372036854775808 ≤ s.s.op ∧ s.s.op ≤ 9223372036854775807) ∧ (-9223372036854775808 ≤ s.s.i ∧ s.s.i ≤ 9223372036854775807) ∧ (-9223372036854775808 ≤ s.s.at2 ∧ s.s.at2 ≤ 9223372036854775807)
def StsK (w : World) (a : Option Addr) (len : Nat) (l : List StK) : Prop :=
  l.length = len ∧ len ≤ maxLen ∧ (a = none → len = 0) ∧ (∀ s ∈ l, StKOk w s) ∧ ∀ x, a = some x → ∀ j s, l[j]? = some s → ∀ k v, s.s.cells[k]? = some v → w.cell? (x.add (j * 8 + k)) = some v
theorem StsK.sts {w : World} {a : Option Addr} {len : Nat} {l : List StK} (h : StsK w a len l) : Sts w a len (l.map StK.s) := by
  obtain ⟨h1, h2, h3, h4, h5⟩ := h
  refine ⟨by rw [List.length_map]; exact h1, h2, h3, fun s hs => ?_, fun x hx j s hs k v hv => ?_⟩
  · obtain ⟨t, ht, rfl⟩ := List.mem_map.1 hs
    exact ⟨(h4 t ht).1, (h4 t ht).2.1⟩
  · rw [List.getElem?_map] at hs
    obtain ⟨t, ht, rfl⟩ := Option.map_eq_some_iff.1 hs
    exact h5 x hx j t ht k v hv
end Go.Proofs.Ytpiohhljcjobfaa
