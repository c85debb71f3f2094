/- Pairs: a file's write of a new extent; half a store; Store on a disk that has neither file. -/
import Derived.Test.YthhnpajaacfapaaDoorPairBase
namespace Go.Proofs.YthhnpajaacfapaaDoor
open Go.RowKit Go.Maps
set_option linter.unusedVariables false

/-- What is known of a disk and its surroundings. -/
structure Sound5 (w : World) (F : Nat → Prop) : Prop where
  tab : CrcTab w
  far : ¬ F 1
  lt : ∀ k, F k → k < w.heap.size
theorem Sound5.gr {w w' : World} {F F' : Nat → Prop} (h : Sound5 w F) (hg : Gr F F' w w') : Sound5 w' F' :=
  ⟨h.tab.kept hg.1 h.far, hg.not h.tab.lt h.far, hg.lt h.lt⟩
theorem Sound5.below {w w' : World} {F : Nat → Prop} (h : Sound5 w F) (hb : Below w.heap.size w w') : Sound5 w' F :=
  ⟨h.tab.below hb, h.far, fun k hk => Nat.lt_of_lt_of_le (h.lt k hk) hb.size⟩
theorem BsF.fresh {w w' : World} {F : Nat → Prop} {b : Nat} {len : Nat} {zs : List Nat} (h : Bs w' (some ⟨b, 0, none⟩) len zs) (hb : w.heap.size ≤ b) (hF : ∀ k, F k → k < w.heap.size) : BsF F w' (some ⟨b, 0, none⟩) len zs :=
  ⟨h, fun x hx _ hf => by cases hx; have := hF _ hf; simp at this; omega⟩

/-- How many extents a text has in one file, and its parts. -/
def extB (len : Nat) : Nat := if len = 0 then 1 else (len - 1) / 106 + 1
def partP (zs : List Nat) (k : Nat) : List Nat := (zs.drop (106 * k)).take (min (106 * k + 106) zs.length - 106 * k)
def fileL (s : ByteArray) (g : Nat) (zs : List Nat) (k : Nat) : List Ext := (List.range k).map fun j => zeroE.wrote (frameB (nums s) j g (partP zs j))
theorem fileL_length (s : ByteArray) (g : Nat) (zs : List Nat) (k : Nat) : (fileL s g zs k).length = k := by simp [fileL]
theorem fileL_succ (s : ByteArray) (g : Nat) (zs : List Nat) (k : Nat) : fileL s g zs (k + 1) = fileL s g zs k ++ [zeroE.wrote (frameB (nums s) k g (partP zs k))] := by simp [fileL, List.range_succ]
theorem burnt_none : burnt (-1) = -1 := rfl

end Go.Proofs.YthhnpajaacfapaaDoor
