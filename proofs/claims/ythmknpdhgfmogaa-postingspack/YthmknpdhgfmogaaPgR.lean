/- A region that draws its order, in a round of a range over a function: walked as anywhere. -/
import Derived.WalkKit
import Derived.Deep.RegionHeld3
import Derived.RangeFuncCalls
import Derived.OwnWalkIn
namespace Go.Proofs.Ythmknpdhgfmogaa
open Go.RowKit
set_option linter.unusedVariables false

/-- A post that is reached by the normal way alone. -/
def OnlyN (Q : Exit → Act → World → Prop) : Exit → Act → World → Prop
  | .normal, a, w => Q .normal a w
  | _, _, _ => False

theorem onlyN_out {Q : Exit → Act → World → Prop} : ¬ LetsOut (OnlyN Q) := fun ⟨_, _, h⟩ => h

theorem uponIn_of_upon {n l : Nat} {P : Program} {o : Oper} {a : Act} {Q : Exit → Act → World → Prop} {K K' : Act → World → Prop} (hK : ∀ a w, K a w → K' a w) : ∀ r : Result Next, o.upon P a K (OnlyN Q) r → o.uponIn (Fence.wide.inRound l) n P a K' Q r := by
  intro r h
  match r, h with
  | .ok (.value v) w', h => exact hK _ _ h
  | .ok .skip w', h => exact hK _ _ h
  | .ok (.defer d) w', h => exact hK _ _ h
  | .ok (.enter f args) w', h =>
    refine ⟨fun e => (by cases e), CallsIn.inRound l (callsIn_wide.2 ?_)⟩
    refine Calls.mono (show Calls P f args w' _ from h) ?_
    intro e w2 he
    cases e with
    | returned v => exact hK _ _ he
    | panicked c => exact (show False from he).elim
    | outgrown => exact (onlyN_out he).elim
  | .ok (.row row args) w', h =>
    refine ⟨fun e => (by cases e), fun c cs _ => ?_⟩
    obtain ⟨v, w2, r, s⟩ := (show Rows P row args w' _ from h) c cs
    refine ⟨v, w2, hK _ _ r, ?_⟩
    rw [fenced_inRound]
    exact stepsIn_wide.2 s
  | .ok (.round _ _ _ _ _) w', h => exact (show False from h).elim
  | .halt (.panic v) w', h => exact (show False from h).elim
  | .halt .blocked w', h => exact (show False from h).elim
  | .halt .waiting w', h => exact (show False from h).elim
  | .halt (.unsupported _) w', h => exact (show False from h).elim
  | .halt (.exit _) w', h => exact (show False from h).elim

theorem wpOpIn_of_wpOp {n l : Nat} {P : Program} {ops : Array Oper} (hnd : ∀ (i : Nat) (o : Oper), ops[i]? = some o → ∀ c, o.op ≠ .defer c) {Q : Exit → Act → World → Prop} {K K' : Act → World → Prop} (hK : ∀ a w, K a w → K' a w) {i : Nat} {a : Act} {w : World} (h : wpOp P ops (OnlyN Q) i K a w) : wpOpIn (Fence.wide.inRound l) n P ops Q i K' a w := by
  unfold wpOp at h
  unfold wpOpIn
  cases ho : ops[i]? with
  | none => rw [ho] at h; exact hK _ _ h
  | some o =>
    rw [ho] at h
    simp only at h ⊢
    split
    · rename_i hw
      rw [if_pos hw] at h
      rcases h with h | h
      · refine ⟨fun _ _ => trivial, ?_⟩
        rw [Oper.semAt_eq _ _ _ (hnd i o ho)]
        exact uponIn_of_upon hK _ h
      · exact (onlyN_out h.2).elim
    · rename_i hw
      rw [if_neg hw] at h
      exact ⟨fun _ _ => trivial, hK _ _ h⟩

theorem wpAnyIn_of_wpAny {n l : Nat} {P : Program} {md : Region.Mode} {ops : Array Oper} (hnd : ∀ (i : Nat) (o : Oper), ops[i]? = some o → ∀ c, o.op ≠ .defer c) {Q : Exit → Act → World → Prop} : ∀ (fuel : Nat) (listed : Array Bool) (a : Act) (w : World), wpAny P md ops (OnlyN Q) fuel listed a w → wpAnyIn (Fence.wide.inRound l) n P md ops Q fuel listed a w
  | 0, listed, a, w, h => h
  | fuel + 1, listed, a, w, h => ⟨h.1, fun i hi => wpOpIn_of_wpOp hnd (wpAnyIn_of_wpAny hnd fuel _) (h.2 i hi)⟩

theorem no_defer {ops : Array Oper} (h : (ops.all fun o => match o.op with | .defer _ => false | _ => true) = true) : ∀ (i : Nat) (o : Oper), ops[i]? = some o → ∀ c, o.op ≠ .defer c := by
  intro i o ho c e
  have h1 := Array.all_eq_true.1 h
  obtain ⟨hi, he⟩ := Array.getElem?_eq_some_iff.1 ho
  have h2 := h1 i hi
  rw [he, e] at h2
  cases h2

/-- A region in a round: as outside of one. -/
theorem regionIn_held {n l id : Nat} {P : Program} {ops : Array Oper} {S : World → Prop} {Q : Exit → Act → World → Prop} {a : Act} {w : World} (hm : P.follows .mixedOrders = true) (hnd : (ops.all fun o => match o.op with | .defer _ => false | _ => true) = true) (hS : S w.drew)
    (h : S w.drew → wpAnyH P .any ops (OnlyN Q) S ops.size (Array.replicate ops.size false) a w.drew) : (Code.region id ops true).wpIn (Fence.wide.inRound l) n P Q a w :=
  wpIn_region_any hm (wpAnyIn_of_wpAny (no_defer hnd) _ _ _ _ (wpAny_of_held _ _ _ _ (h hS)))

theorem onlyN_normal {Q : Exit → Act → World → Prop} {a : Act} {w : World} (h : Q .normal a w) : OnlyN Q .normal a w := h
end Go.Proofs.Ythmknpdhgfmogaa
