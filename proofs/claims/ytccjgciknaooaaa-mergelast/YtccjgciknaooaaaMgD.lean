/- merge: the heap's swap. -/
import Derived.Test.YtccjgciknaooaaaMgC
import Derived.BigRegion
namespace Go.Proofs.Ytccjgciknaooaaa
open Go.RowKit Go.Joins
set_option linter.unusedVariables false

def Kr (r : Nat) (w w' : World) : Prop := w'.os = w.os ∧ w'.tape = w.tape ∧ w'.output = w.output ∧ w.heap.size ≤ w'.heap.size ∧ ∀ k, k < w.heap.size → k ≠ r → w'.heap[k]? = w.heap[k]?

theorem Kr.refl (r : Nat) (w : World) : Kr r w w := ⟨rfl, rfl, rfl, Nat.le_refl _, fun _ _ _ => rfl⟩

theorem Kr.trans {r : Nat} {a b c : World} (h : Kr r a b) (k : Kr r b c) : Kr r a c :=
  ⟨k.1.trans h.1, k.2.1.trans h.2.1, k.2.2.1.trans h.2.2.1, Nat.le_trans h.2.2.2.1 k.2.2.2.1, fun i hi hn => (k.2.2.2.2 i (Nat.lt_of_lt_of_le hi h.2.2.2.1) hn).trans (h.2.2.2.2 i hi hn)⟩

theorem Kr.setCell {r : Nat} {a w : World} (h : Kr r a w) (o : Nat) (u : Value) : Kr r a (w.setCell ⟨r, o, none⟩ u) :=
  h.trans ⟨rfl, rfl, rfl, by simp [World.setCell], fun k _ hk => Below.heap_setCell _ _ _ _ hk⟩

theorem Kr.drew {r : Nat} {a w : World} (h : Kr r a w) : Kr r a w.drew := h.trans ⟨rfl, rfl, rfl, Nat.le_refl _, fun _ _ _ => rfl⟩

theorem Kr.below {r n : Nat} {w w' : World} (h : Kr r w w') (hn : n ≤ w.heap.size) (hr : n ≤ r) : Below n w w' :=
  ⟨h.1, h.2.1, h.2.2.1, h.2.2.2.1, fun i hi => h.2.2.2.2 i (by omega) (by omega)⟩

theorem own_skip {w w' : World} {base e size n : Nat} {v : Value} {xs : List Value} (h : w.ownsRow base e size v n xs) (hb : Below w.heap.size w w') : w'.ownsRow base e size v n xs := by
  obtain ⟨hl, h1⟩ := h
  refine ⟨hl, ?_⟩
  rcases h1 with h1 | ⟨g, cap, cur, hv, hg, hh, r⟩
  · exact .inl h1
  · exact .inr ⟨g, cap, cur, hv, hg, (hb.block g (Array.getElem?_eq_some_iff.1 hh).1).trans hh, r⟩

theorem own_slice {w : World} {base e size n : Nat} {v : Value} {xs : List Value} (h : w.ownsRow base e size v n xs) : ∃ a c, v = .slice a n c := by
  rcases h.2 with ⟨rfl, rfl⟩ | ⟨g, cap, cur, hv, _⟩
  · exact ⟨none, 0, rfl⟩
  · exact ⟨_, _, hv⟩

theorem own_stay {w w' : World} {base e size n : Nat} {v : Value} {xs : List Value} (h : w.ownsRow base e size v n xs) (hb : ∀ k, v.ownBlock = some k → w'.heap[k]? = w.heap[k]?) : w'.ownsRow base e size v n xs := by
  obtain ⟨hl, h1⟩ := h
  refine ⟨hl, ?_⟩
  rcases h1 with h1 | ⟨g, cap, cur, hv, hg, hh, r⟩
  · exact .inl h1
  · exact .inr ⟨g, cap, cur, hv, hg, (hb g (by rw [hv]; rfl)).trans hh, r⟩

/-- Fewer of a row's elements. -/
theorem own_less {w : World} {base e size g n c : Nat} {xs : List Value} (h : w.ownsRow base e size (.slice (some ⟨g, 0, none⟩) n c) n xs) (m : Nat) (hm : m ≤ n) : w.ownsRow base e size (.slice (some ⟨g, 0, none⟩) m c) m (xs.take (m * size)) := by
  rcases h.2 with ⟨h1, _⟩ | ⟨g', cap, cur, h1, hb, hg, hnc, hcm, hcs, htk⟩
  · cases h1
  · cases h1
    have hle : m * size ≤ n * size := Nat.mul_le_mul_right _ hm
    refine ⟨by rw [List.length_take, h.1]; omega, .inr ⟨g, c, cur, rfl, hb, hg, by omega, hcm, hcs, ?_⟩⟩
    rw [← htk, List.take_take, Nat.min_eq_left hle]

theorem own_blk {w : World} {base e size g n c : Nat} {xs : List Value} (h : w.ownsRow base e size (.slice (some ⟨g, 0, none⟩) n c) n xs) : base ≤ g ∧ n ≤ c ∧ ∃ cur, w.heap[g]? = some (.cells cur e (0, 0)) := by
  rcases h.2 with ⟨h1, _⟩ | ⟨g', cap, cur, h1, hb, hg, hnc, hcm, hcs, htk⟩
  · cases h1
  · cases h1
    exact ⟨hb, hnc, cur, hg⟩

/-- Runs as cells. -/
def rvs : List Run → List Value
  | [] => []
  | r :: t => [.slice r.a r.len r.cap, .int .i64 r.rank, .int .i64 r.place] ++ rvs t

/-- The heap's block. -/
def HpB (W : World) (h : Nat) (v : Value) : Prop := W.heap[h]? = some (.cells #[v, .func (.func 30) #[] #[]] 67 (0, 0))

set_option maxHeartbeats 4000000 in
set_option maxRecDepth 100000 in
theorem swap01 (B h g c : Nat) (a0 a1 : Option Addr) (l0 c0 l1 c1 : Nat) (k0 p0 k1 p1 : Int) (w : World) (hh : HpB w h (.slice (some ⟨g, 0, none⟩) 2 c))
    (ho : w.ownsRow B 70 3 (.slice (some ⟨g, 0, none⟩) 2 c) 2 (rvs [⟨a0, l0, c0, k0, p0⟩, ⟨a1, l1, c1, k1, p1⟩])) :
    Calls Try.prog 39 #[.pointer (some ⟨h, 0, none⟩), .int .i64 0, .int .i64 1] w fun e w' => e = .returned (.tuple #[]) ∧
      w'.ownsRow B 70 3 (.slice (some ⟨g, 0, none⟩) 2 c) 2 (rvs [⟨a1, l1, c1, k1, p1⟩, ⟨a0, l0, c0, k0, p0⟩]) ∧ Kr g w w' := by
  have hc := cell_of_row w h 0 _ _ _ hh
  have e := ho.cells (g := g) rfl
  have e0 := e 0 _ rfl
  have e1 := e 1 _ rfl
  have e2 := e 2 _ rfl
  have e3 := e 3 _ rfl
  have e4 := e 4 _ rfl
  have e5 := e 5 _ rfl
  rw [add_none, Nat.zero_add] at e0 e1 e2 e3 e4 e5
  have hf : ∀ i, w.frozen? ⟨g, i, none⟩ = false := fun i => by
    obtain ⟨cur, hcur⟩ : ∃ cur, w.heap[g]? = some (.cells cur 70 (0, 0)) := by
      rcases ho.2 with ⟨h1, _⟩ | ⟨g', _, cur, h1, _, h2, _⟩
      · cases h1
      · cases h1; exact ⟨cur, h2⟩
    exact unfrozen_of_block hcur i
  have f0 := hf 0
  have f1 := hf 1
  have f2 := hf 2
  have f3 := hf 3
  have f4 := hf 4
  have f5 := hf 5
  have hc2 : w.cell? ⟨h, 0, none⟩ = some (.slice (some ⟨g, 0, none⟩) 2 c) := hc
  have HO := hidn ho
  have hgh : h ≠ g := fun e => by
    subst e
    rcases ho.2 with ⟨h1, _⟩ | ⟨g', _, cur, h1, _, h2, _⟩
    · cases h1
    · cases h1
      rw [show w.heap[h]? = _ from hh] at h2
      cases h2
  clear e hf hc hh ho
  go_enter Try.func39, Try.ntmps39
  go_region
  go_wp2_with fail
  go_end0
  refine ⟨rfl, ?_, ((((((((Kr.refl g w).setCell 0 _).setCell 1 _).setCell 2 _).setCell 3 _).setCell 4 _).setCell 5 _).drew)⟩
  have h6 := (((((((HO.out.stored 0 (.slice a1 l1 c1)).1.stored 1 (.int .i64 k1)).1.stored 2 (.int .i64 p1)).1.stored 3 (.slice a0 l0 c0)).1.stored 4 (.int .i64 k0)).1.stored 5 (.int .i64 p0)).1)
  exact own_skip h6 ((Below.refl _ _).drew)

set_option maxHeartbeats 4000000 in
set_option maxRecDepth 100000 in
theorem swap00 (B h g c : Nat) (a0 : Option Addr) (l0 c0 : Nat) (k0 p0 : Int) (w : World) (hh : HpB w h (.slice (some ⟨g, 0, none⟩) 1 c))
    (ho : w.ownsRow B 70 3 (.slice (some ⟨g, 0, none⟩) 1 c) 1 (rvs [⟨a0, l0, c0, k0, p0⟩])) :
    Calls Try.prog 39 #[.pointer (some ⟨h, 0, none⟩), .int .i64 0, .int .i64 0] w fun e w' => e = .returned (.tuple #[]) ∧
      w'.ownsRow B 70 3 (.slice (some ⟨g, 0, none⟩) 1 c) 1 (rvs [⟨a0, l0, c0, k0, p0⟩]) ∧ Kr g w w' := by
  have hc := cell_of_row w h 0 _ _ _ hh
  have e := ho.cells (g := g) rfl
  have e0 := e 0 _ rfl
  have e1 := e 1 _ rfl
  have e2 := e 2 _ rfl
  rw [add_none, Nat.zero_add] at e0 e1 e2
  obtain ⟨_, _, cur, hcur⟩ := own_blk ho
  have f0 := unfrozen_of_block hcur 0
  have f1 := unfrozen_of_block hcur 1
  have f2 := unfrozen_of_block hcur 2
  have hc2 : w.cell? ⟨h, 0, none⟩ = some (.slice (some ⟨g, 0, none⟩) 1 c) := hc
  have HO := hidn ho
  have hgh : h ≠ g := fun e => by
    subst e
    rw [show w.heap[h]? = _ from hh] at hcur
    cases hcur
  clear e hc hh ho hcur
  go_enter Try.func39, Try.ntmps39
  go_region
  go_wp2_with fail
  go_end0
  refine ⟨rfl, ?_, ((((((((Kr.refl g w).setCell 0 _).setCell 1 _).setCell 2 _).setCell 0 _).setCell 1 _).setCell 2 _).drew)⟩
  have h6 := (((((((HO.out.stored 0 (.slice a0 l0 c0)).1.stored 1 (.int .i64 k0)).1.stored 2 (.int .i64 p0)).1.stored 0 (.slice a0 l0 c0)).1.stored 1 (.int .i64 k0)).1.stored 2 (.int .i64 p0)).1)
  exact own_skip h6 ((Below.refl _ _).drew)

set_option maxHeartbeats 4000000 in
set_option maxRecDepth 100000 in
theorem sink_small (h n c : Nat) (a : Option Addr) (w : World) (hh : HpB w h (.slice a n c)) (hn : n ≤ 1) :
    Calls Try.prog 40 #[.pointer (some ⟨h, 0, none⟩)] w fun e w' => e = .returned (.tuple #[]) ∧ w' = w := by
  have hc2 : w.cell? ⟨h, 0, none⟩ = some (.slice a n c) := cell_of_row w h 0 _ _ _ hh
  have hn2 : ¬ (1 : Int) < (n : Int) := by omega
  clear hh
  go_enter Try.func40, Try.ntmps40
  go_wp2_with fail
  go_loopw [2] (fun av wr => av = .int .i64 0 ∧ Hid (wr = w)) (fun _ _ => 0)
  case atStart => exact ⟨rfl, hidn rfl⟩
  case round =>
    obtain ⟨rfl, HW⟩ := hrel
    have hw := HW.out
    subst hw
    go_wp2_with fail
    obtain ⟨wo, hwo⟩ : ∃ wo, wo = wr := ⟨_, rfl⟩
    subst hwo
    go_loopw [3, 4] (fun fv bv wr => fv = .int .i64 0 ∧ bv = .int .i64 1 ∧ Hid (wr = wo)) (fun _ _ _ => 0)
    case atStart => exact ⟨rfl, rfl, hidn rfl⟩
    case round =>
      obtain ⟨rfl, rfl, HW2⟩ := hrel
      have hw2 := HW2.out
      subst hw2
      go_wp2_with fail
      exact bodyPost_ret (results_none rfl _ _ _) rfl ⟨rfl, rfl⟩
end Go.Proofs.Ytccjgciknaooaaa
