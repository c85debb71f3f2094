/- A list of records that came in: what its reading gives. -/
import Derived.Test.YthhnpajaacfapaaDoorRows
import Derived.Test.YthhnpajaacfapaaDoorRecOpen
import Derived.Test.YthhnpajaacfapaaDoorWalBackWalk
import Derived.ProofKit
import Derived.OpenShut
import Derived.Deep.SlicePairs
import Derived.ChangeArms
import Derived.ChangeMaps5
import Derived.Test.YthhnpajaacfapaaDoorMs
namespace Go.Proofs.YthhnpajaacfapaaDoor
open Go.ChangeShapes Go.WideShapes Go.ChangeAt Go.RowKit
set_option linter.unusedVariables false
theorem weightsAll_mem {H : Type} {P : Program} {e : TypeId} {d : DataW H} {n : Nat} : ∀ {l : List (DataW H)}, d ∈ l → n ∈ d.weights P e → n ∈ DataW.weightsAll P e l
  | x :: r, hd, hn => by
    simp only [DataW.weightsAll, List.mem_append]
    rcases List.mem_cons.1 hd with rfl | h
    · exact .inl hn
    · exact .inr (weightsAll_mem h hn)

theorem opens_recsL {H : Type} {enc : TypeId × Value → H} {W : World} {fuel : Nat} {d : DataW H} {p : List MemPlace} {a : Option Addr} {len cap : Nat}
    (hf : DataW.trod enc Tryd.prog W 0 (fun _ => true) true fuel 22 [.slice a len cap] = some (d, p)) :
    ∃ l : List Rc, l.length = len ∧ len ≤ cap ∧ cap ≤ maxLen ∧ (a = none → len = 0 ∧ cap = 0) ∧ (∀ s ∈ l, Bs W s.a s.l s.zs ∧ s.l ≤ s.c) ∧ (∀ x, a = some x → ∀ j s, l[j]? = some s → ∀ k v, (Rc.cells s)[k]? = some v → W.cell? (x.add (j * 4 + k)) = some v) ∧
      ((d = .nil ∧ len = 0) ∨ ∃ elems spare, d = .slice elems spare ∧ elems.length = len) ∧ (len = 0 ∨ ∃ n ∈ d.weights Tryd.prog 22, len * Tryd.prog.bytesOf 31 ≤ n) := by
  rcases Deep.open_slice Tryd.underlying22 hf with ⟨hcs, hx⟩ | ⟨x, l, c, m, n, D, Pl, hcs, _, hl, hm, hmm, hx, hcell⟩
  · simp at hcs
    obtain ⟨rfl, rfl, rfl⟩ := hcs
    simp only [Prod.mk.injEq] at hx
    exact ⟨[], rfl, Nat.le_refl _, by decide, fun _ => ⟨rfl, rfl⟩, (fun s hs => by cases hs), (fun x hx => by cases hx), .inl ⟨hx.1, rfl⟩, .inl rfl⟩
  · simp at hcs
    obtain ⟨rfl, rfl, rfl⟩ := hcs
    have hm' : m = cap := by simpa using hmm
    subst hm'
    simp only [Prod.mk.injEq] at hx
    rw [show Tryd.prog.cellsOf 31 = 4 from by kernel_rfl] at hcell
    have hwts : ∀ i, i < len → ∀ n ∈ (D i).weights Tryd.prog 31, n ∈ d.weights Tryd.prog 22 := by
      intro i hi n hn
      rw [hx.1]
      simp only [DataW.weights, Tryd.underlying22]
      exact List.mem_cons_of_mem _ (List.mem_append.2 (.inl (weightsAll_mem (List.mem_map.2 ⟨i, List.mem_range.2 hi, rfl⟩) hn)))
    have hS : ∀ i, i < len → ∃ s : Rc, (∀ k v, (Rc.cells s)[k]? = some v → W.cell? (x.add (i * 4 + k)) = some v) ∧ (Bs W s.a s.l s.zs ∧ s.l ≤ s.c) := by
      intro i hi
      obtain ⟨cs', h1, h2⟩ := hcell i (by omega)
      obtain ⟨_, hlen, hc⟩ := World.cells?_some h1
      have hwt := hwts i hi
      match cs', hlen, h2, hc with
      | [y0, y1, y2, y3], _, h2, hc =>
        obtain ⟨s, hs, hP⟩ : ∃ s : Rc, Rc.cells s = [y0, y1, y2, y3] ∧ (Bs W s.a s.l s.zs ∧ s.l ≤ s.c) := by
          obtain ⟨n0, n1, n2, a3, l3, c3, f3, d3, p3, ⟨rfl, _⟩, ⟨rfl, _⟩, ⟨rfl, _⟩, ⟨rfl, ht, _⟩⟩ := cells_recv h2
          obtain ⟨zs, hB, _⟩ := opens_bytes ht
          exact ⟨⟨n0, n1, n2, a3, l3, c3, zs⟩, rfl, hB, (opens_room ht).1⟩
        refine ⟨s, fun k v hv => ?_, hP⟩
        rw [hs] at hv
        have hk : k < 4 := (List.getElem?_eq_some_iff.1 hv).1
        rw [← hv, ← hc k hk, Deep.add_add]
    have hinh : Inhabited Rc := ⟨⟨0, 0, 0, none, 0, 0, []⟩⟩
    obtain ⟨f, hfS⟩ := Deep.choose_lt (α := Rc) hS
    refine ⟨(List.range len).map f, by simp, hl, by omega, (fun h => by cases h), ?_, ?_, .inr ⟨_, _, hx.1, by simp⟩, .inr ⟨(len + (m - len)) * Tryd.prog.bytesOf 31, ?_, Nat.mul_le_mul_right _ (by omega)⟩⟩
    · intro s hs
      obtain ⟨i, hi, rfl⟩ := List.mem_map.1 hs
      exact (hfS i (List.mem_range.1 hi)).2
    · intro y hy j s hs k v hv
      cases hy
      rw [List.getElem?_map] at hs
      have hj : j < len := by
        by_cases hj : j < len
        · exact hj
        · rw [List.getElem?_eq_none (by simp; omega)] at hs; cases hs
      rw [List.getElem?_range hj] at hs
      simp only [Option.map_some, Option.some.injEq] at hs
      subst hs
      exact (hfS j hj).1 k v hv
    · rw [hx.1]
      simp [DataW.weights, Tryd.underlying22]
theorem opens_recs {H : Type} {enc : TypeId × Value → H} {W : World} {fuel : Nat} {d : DataW H} {p : List MemPlace} {a : Option Addr} {len cap : Nat}
    (hf : DataW.trod enc Tryd.prog W 0 (fun _ => true) true fuel 22 [.slice a len cap] = some (d, p)) : ∃ l : List Rc, Rls W a len l := by
  obtain ⟨l, h1, h2, h3, h4, h5, h6, _, _⟩ := opens_recsL hf
  exact ⟨l, h1, by omega, fun e => (h4 e).1, h5, h6⟩
end Go.Proofs.YthhnpajaacfapaaDoor

namespace Go.Proofs.YthhnpajaacfapaaDoor
open Go.ChangeShapes Go.WideShapes Go.ChangeAt Go.RowKit
set_option linter.unusedVariables false
section
variable {H : Type} {enc : TypeId × Value → H} {P : Program} {w : World} {base : Nat} {sp : Nat → Bool} {held : Bool}
theorem open_boolv {t : TypeId} {v : Value} {d : DataW H} {ps : List MemPlace} (ht : P.underlying t = some .bool) {r : Reach} {b0 : Nat} (hval : Value.okWide P w r b0 t v) (hd : DataW.Trod enc P w base sp held t v d ps) :
    ∃ b : Bool, v = .bool b ∧ d = .lit (.bool b) ∧ ps = [] := by
  obtain ⟨b, rfl⟩ := okWide_bool ht hval
  obtain ⟨fuel, hf⟩ := hd
  obtain ⟨b', h, hx⟩ := DataW.trod_bool ht hf
  simp [Value.cells] at h
  subst h
  simp only [Prod.mk.injEq] at hx
  exact ⟨b, rfl, hx.1, hx.2⟩
end
end Go.Proofs.YthhnpajaacfapaaDoor

namespace Go.Proofs.YthhnpajaacfapaaDoor
open Go.ChangeShapes Go.WideShapes Go.ChangeAt Go.RowKit
set_option linter.unusedVariables false
theorem opens_intsL {H : Type} {enc : TypeId × Value → H} {W : World} {fuel : Nat} {d : DataW H} {p : List MemPlace} {a : Option Addr} {len cap : Nat}
    (hf : DataW.trod enc Tryd.prog W 0 (fun _ => true) true fuel 23 [.slice a len cap] = some (d, p)) :
    ∃ l : List Int, Ils W a len l ∧ len ≤ cap := by
  rcases Deep.open_slice1 Tryd.underlying23 (by kernel_rfl) hf with ⟨hcs, hx⟩ | ⟨x, l, c, m, n, V, D, Pl, hcs, _, hl, hm, hmm, hx, hcell⟩
  · simp at hcs
    obtain ⟨rfl, rfl, rfl⟩ := hcs
    exact ⟨[], ⟨rfl, by decide, fun _ => rfl, (fun x hx => by cases hx)⟩, Nat.le_refl _⟩
  · simp at hcs
    obtain ⟨rfl, rfl, rfl⟩ := hcs
    have hm' : m = cap := by simpa using hmm
    subst hm'
    have hS : ∀ i, i < len → ∃ b : Int, W.cell? (x.add i) = some (.int .i64 b) := by
      intro i hi
      obtain ⟨h1, h2⟩ := hcell i (by omega)
      obtain ⟨b, e1, _⟩ := DataW.trod_int Tryd.underlying3 h2
      simp only [List.cons.injEq, and_true] at e1
      exact ⟨b, by rw [h1, e1]⟩
    obtain ⟨f, hfS⟩ := Deep.choose_lt (α := Int) hS
    refine ⟨(List.range len).map f, ⟨by simp, by omega, (fun h => by cases h), ?_⟩, hl⟩
    intro y hy j b hb
    cases hy
    rw [List.getElem?_map] at hb
    have hj : j < len := by
      by_cases hj : j < len
      · exact hj
      · rw [List.getElem?_eq_none (by simp; omega)] at hb; cases hb
    rw [List.getElem?_range hj] at hb
    simp only [Option.map_some, Option.some.injEq] at hb
    rw [← hb]
    exact hfS j hj
end Go.Proofs.YthhnpajaacfapaaDoor
