/- The map of heirs. -/
import Derived.Test.YtpbicnpaldfamaaPlK
import Derived.Test.YtpbicnpaldfamaaAppK
import Derived.Maps.OwnSet
import Derived.Maps.Views
import Derived.Maps.Keyed
namespace Go.Proofs.Ytpbicnpaldfamaa
open Go.RowKit Go.Joins Go.Maps
set_option linter.unusedVariables false

/-- A slice's header as a plain datum. -/
def encS (g n c : Nat) : DataW Unit := .agg [.lit (.int .u64 g), .lit (.int .u64 n), .lit (.int .u64 c)]

def hd (v : Value) : Option (DataW Unit × List MemPlace) :=
  match v with
  | .slice none 0 0 => some (.nil, [])
  | .slice (some ⟨g, 0, none⟩) n c => some (encS g n c, [])
  | _ => none

theorem hd_nil : hd (.slice none 0 0) = some (.nil, []) := rfl

theorem hd_mk (g n c : Nat) : hd (.slice (some ⟨g, 0, none⟩) n c) = some (encS g n c, []) := rfl

theorem hd_inv {v : Value} {g n c : Nat} {ps : List MemPlace} (h : hd v = some (encS g n c, ps)) : v = .slice (some ⟨g, 0, none⟩) n c := by
  unfold hd at h
  split at h
  · simp [encS] at h
  · simp [encS] at h
    obtain ⟨⟨h1, h2, h3⟩, _⟩ := h
    obtain rfl := Int.ofNat.inj h1
    obtain rfl := Int.ofNat.inj h2
    obtain rfl := Int.ofNat.inj h3
    rfl
  · cases h

theorem hd_inv_nil {v : Value} {ps : List MemPlace} (h : hd v = some (.nil, ps)) : v = .slice none 0 0 := by
  unfold hd at h
  split at h
  · rfl
  · simp [encS] at h
  · cases h

theorem lawI : Keyed Try.prog 3 := int_keyed Try.underlying3

theorem zeroBl (w : World) : (zeroValue 44).run Try.prog w = .ok (.slice none 0 0) w := by kernel_rfl

/-- The blocks of a parent. -/
def getE (E : List (Int × Int × Int)) (p : Int) : List (Int × Int) := (E.filter (fun e => decide (e.1 = p))).map Prod.snd

def bvs (l : List (Int × Int)) : List Value := (l.map (fun b => [.int .i64 b.1, .int .i64 b.2])).flatten

theorem bvs_snoc (l : List (Int × Int)) (b : Int × Int) : bvs (l ++ [b]) = bvs l ++ [.int .i64 b.1, .int .i64 b.2] := by simp [bvs]

theorem getE_snoc (E : List (Int × Int × Int)) (e : Int × Int × Int) (p : Int) : getE (E ++ [e]) p = getE E p ++ (if e.1 = p then [e.2] else []) := by
  unfold getE
  rw [List.filter_append, List.map_append]
  congr 1
  by_cases h : e.1 = p <;> simp [h]

theorem getE_len (E : List (Int × Int × Int)) (p : Int) : (getE E p).length ≤ E.length := by
  unfold getE
  rw [List.length_map]
  exact List.length_filter_le _ _

def HMp (w : World) (bm N base : Nat) (E : List (Int × Int × Int)) : Prop :=
  ∃ (D : DataW Unit) (G C : Int → Nat), w.ownsMap Try.prog 3 hd bm N D ∧
    (∀ p, getE E p = [] → Maps.has D (.int .i64 p) = false) ∧
    (∀ p, getE E p ≠ [] → (∀ z, D.atKey (.int .i64 p) z = encS (G p) (getE E p).length (C p)) ∧ w.ownsRow base 37 2 (.slice (some ⟨G p, 0, none⟩) (getE E p).length (C p)) (getE E p).length (bvs (getE E p))) ∧
    (∀ p q, getE E p ≠ [] → getE E q ≠ [] → p ≠ q → G p ≠ G q)

theorem mapI_keep {w w' : World} {b n : Nat} {D : DataW Unit} (h : w.ownsMap Try.prog 3 hd b n D) (hb : w'.heap[b]? = w.heap[b]?) : w'.ownsMap Try.prog 3 hd b n D := by
  obtain ⟨es, clock, hbk, F, hs, hD⟩ := h
  exact ⟨es, clock, hb.trans hbk, F, hs, hD⟩

theorem HMp.below {w w' : World} {bm N base : Nat} {E : List (Int × Int × Int)} (h : HMp w bm N base E) (hb : Below w.heap.size w w') : HMp w' bm N base E := by
  obtain ⟨D, G, C, h1, h2, h3, h4⟩ := h
  exact ⟨D, G, C, mapI_keep h1 (hb.block _ h1.lt), h2, fun p hp => ⟨(h3 p hp).1, own_skip (h3 p hp).2 hb⟩, h4⟩

theorem HMp.lt {w : World} {bm N base : Nat} {E : List (Int × Int × Int)} (h : HMp w bm N base E) : bm < w.heap.size := by
  obtain ⟨D, G, C, h1, _⟩ := h
  exact h1.lt

/-- What a look-up tells. -/
theorem HMp.look {w : World} {bm N base : Nat} {E : List (Int × Int × Int)} (h : HMp w bm N base E) (p : Int) (hp : (Lit.int .i64 p).wf = true) :
    ∃ v, (Instr.lookup 33 (.map (some bm)) (.int .i64 p) false).run Try.prog w = .ok v w ∧ w.ownsRow base 37 2 v (getE E p).length (bvs (getE E p)) := by
  obtain ⟨D, G, C, h1, h2, h3, h4⟩ := h
  obtain ⟨v, ps, hrun, hv⟩ := h1.lookup lawI Try.underlying33 (zeroBl w) hd_nil (keyOf_int_mk Try.underlying3 hp)
  refine ⟨v, hrun, ?_⟩
  by_cases he : getE E p = []
  · rw [atKey_of_not_has (h2 _ he)] at hv
    rw [hd_inv_nil hv, he]
    exact World.ownsRow_nil _ _ _ _
  · obtain ⟨a1, a2⟩ := h3 _ he
    rw [a1] at hv
    rw [hd_inv hv]
    exact a2

theorem blInfo : ∃ i0 z, Try.prog.info? 37 = some i0 ∧ i0.zero = some z ∧ i0.size = 2 ∧ i0.bytes = 16 ∧ z.cells.size = 2 := by
  have h : (Try.prog.info? 37).map (fun i => (i.zero, i.size, i.bytes)) = some (some (.agg #[.int .i64 0, .int .i64 0]), 2, 16) := by kernel_rfl
  cases hi : Try.prog.info? 37 with
  | none => rw [hi] at h; cases h
  | some i0 =>
    rw [hi] at h
    simp only [Option.map_some, Option.some.injEq, Prod.mk.injEq] at h
    exact ⟨i0, _, rfl, h.1, h.2.1, h.2.2, rfl⟩

/-- One block more for a parent. -/
theorem HMp.step {w w0 : World} {bm N base : Nat} {E : List (Int × Int × Int)} (h : HMp w bm N base E) (hbm : base ≤ bm) (hbase : base ≤ w.heap.size) (p a b : Int) (hp : (Lit.int .i64 p).wf = true) (hE : E.length + 1 ≤ 100000000) (hN : N < maxLen) (g : Nat) (hg : w.heap[g]? = some (.cells #[.int .i64 a, .int .i64 b] 37 (0, 0))) (hw0 : w0.heap[bm]? = w.heap[bm]?) :
    ∃ v v' w1 w2, (∃ va vc, v = .slice va (getE E p).length vc) ∧ (Instr.lookup 33 (.map (some bm)) (.int .i64 p) false).run Try.prog w0 = .ok v w0 ∧
      (Builtin.append_ #[44, 44] 44 #[v, .slice (some ⟨g, 0, none⟩) 1 1]).run Try.prog w = .ok v' w1 ∧
      (Instr.mapUpdate 33 (.map (some bm)) (.int .i64 p) v').run Try.prog w1 = .ok () w2 ∧ HMp w2 bm (N + 1) base (E ++ [(p, a, b)]) ∧ Below base w w2 ∧ (∀ (k : Nat) (cs : Array Value) (t : TypeId), w.heap[k]? = some (Obj.cells cs t (0, 0)) → t ≠ 37 → w2.heap[k]? = w.heap[k]?) := by
  obtain ⟨i0, z, hi, hz0, hz1, hz2, hzc⟩ := blInfo
  obtain ⟨D, G, C, h1, h2, h3, h4⟩ := h
  obtain ⟨v, ps, hrun, hv8⟩ := (mapI_keep (w' := w0) h1 hw0).lookup lawI Try.underlying33 (zeroBl w0) hd_nil (keyOf_int_mk Try.underlying3 hp)
  have hv : (getE E p = [] ∧ v = .slice none 0 0) ∨ (getE E p ≠ [] ∧ v = .slice (some ⟨G p, 0, none⟩) (getE E p).length (C p)) := by
    by_cases he : getE E p = []
    · rw [atKey_of_not_has (h2 _ he)] at hv8
      exact .inl ⟨he, hd_inv_nil hv8⟩
    · rw [(h3 _ he).1] at hv8
      exact .inr ⟨he, hd_inv hv8⟩
  have hown : w.ownsRow base 37 2 v (getE E p).length (bvs (getE E p)) := by
    rcases hv with ⟨he, rfl⟩ | ⟨he, rfl⟩
    · rw [he]; exact World.ownsRow_nil _ _ _ _
    · exact (h3 _ he).2
  have hob : ∀ k, v.ownBlock = some k → getE E p ≠ [] ∧ k = G p := fun k hk => by
    rcases hv with ⟨he, rfl⟩ | ⟨he, rfl⟩
    · cases hk
    · simp [Value.ownBlock] at hk
      exact ⟨he, hk.symm⟩
  have hGlt : ∀ q, getE E q ≠ [] → G q < w.heap.size := fun q hq => ((h3 q hq).2.lt (G q) rfl).2
  have hlen := getE_len E p
  obtain ⟨g', c', w1, r1, r2, r3, r4⟩ := appN (P := Try.prog) w 44 44 37 i0 z 2 16 Try.underlying44 hi hz0 hz1 hz2 hzc (by decide) v (getE E p).length (bvs (getE E p)) base hown hbase ⟨g, 0, none⟩ 1 1 (by decide) [.int .i64 a, .int .i64 b] rfl (fun j u hj => by rw [ladd_none, cell_of_row _ _ _ _ _ _ hg, Nat.zero_add, ← hj]; simp) (fun u hu => by simp only [List.mem_cons, List.not_mem_nil, or_false] at hu; rcases hu with rfl | rfl <;> rfl) (by unfold maxLen; omega) (by omega)
  have hbmv : v.ownBlock ≠ some bm := by
    intro e
    rcases hown.2 with ⟨rfl, _⟩ | ⟨k, cap, cur, rfl, _, hk, _⟩
    · cases e
    · simp [Value.ownBlock] at e
      subst e
      obtain ⟨es, clock, hbk, _⟩ := h1
      rw [hbk] at hk
      cases hk
  have hgd : ∀ q, getE E q ≠ [] → q ≠ p → g' ≠ G q := fun q hq hqp e => by
    rcases r4 with r4 | r4
    · obtain ⟨he, e2⟩ := hob g' r4
      exact h4 q p hq he hqp (e.symm.trans e2)
    · have := hGlt q hq
      omega
  have m1 := mapI_keep h1 (r3.block bm h1.lt (fun e => hbmv e.symm))
  obtain ⟨w2, hrun2, m2, hg2⟩ := m1.update lawI Try.underlying33 hN (keyOf_int_mk Try.underlying3 hp) (hd_mk g' ((getE E p).length + 1) c')
  have hbm1 : bm < w1.heap.size := m1.lt
  have own2 : ∀ {e size n : Nat} {u : Value} {xs : List Value}, w1.ownsRow base e size u n xs → w2.ownsRow base e size u n xs := fun {e size n u xs} ho => by
    refine ⟨ho.1, ?_⟩
    rcases ho.2 with hn | ⟨k, cap, cur, rfl, hbb, hk, rest⟩
    · exact .inl hn
    · refine .inr ⟨k, cap, cur, rfl, hbb, ?_, rest⟩
      rw [hg2.block k (Array.getElem?_eq_some_iff.1 hk).1 (fun e => by
        simp at e
        subst e
        obtain ⟨es, clock, hbk, _⟩ := m1
        rw [hbk] at hk
        cases hk)]
      exact hk
  have hEq : ∀ q, q ≠ p → getE (E ++ [(p, a, b)]) q = getE E q := fun q hqp => by rw [getE_snoc, if_neg (fun e => hqp e.symm), List.append_nil]
  refine ⟨v, _, w1, w2, own_slice hown, hrun, r1, hrun2, ⟨_, fun q => if q = p then g' else G q, fun q => if q = p then c' else C q, m2, fun q hq => ?_, fun q hq => ?_, fun q s hq hs hne => ?_⟩, ?_⟩
  · rw [getE_snoc] at hq
    have hqp : q ≠ p := fun e => by subst e; simp at hq
    have hE0 : getE E q = [] := by simpa using (List.append_eq_nil_iff.1 hq).1
    rw [has_put_other (fun e => hqp (by simpa using e))]
    exact h2 q hE0
  · by_cases hqp : q = p
    · subst hqp
      have e : getE (E ++ [(q, a, b)]) q = getE E q ++ [(a, b)] := by rw [getE_snoc]; simp
      rw [e]
      simp only [List.length_append, List.length_cons, List.length_nil]
      refine ⟨fun z => atKey_put_same h1.isMap (by first | trivial | exact ⟨_, rfl⟩ | decide) _ _, ?_⟩
      rw [bvs_snoc]
      exact own2 r2
    · rw [hEq q hqp] at hq ⊢
      obtain ⟨a1, a2⟩ := h3 q hq
      simp only [if_neg hqp]
      refine ⟨fun z => by rw [atKey_put_other (fun e => hqp (by simpa using e))]; exact a1 z, own2 ?_⟩
      refine a2.kept r3 (.inr (fun e => ?_))
      obtain ⟨he, e2⟩ := hob (G q) e.symm
      exact h4 q p hq he hqp e2
  · simp only
    by_cases hqp : q = p
    · have hsp : s ≠ p := fun e => hne (hqp.trans e.symm)
      rw [if_pos hqp, if_neg hsp]
      rw [hEq s hsp] at hs
      exact hgd s hs hsp
    · rw [if_neg hqp]
      rw [hEq q hqp] at hq
      by_cases hsp : s = p
      · rw [if_pos hsp]
        exact fun e => hgd q hq hqp e.symm
      · rw [if_neg hsp]
        rw [hEq s hsp] at hs
        exact h4 q s hq hs hne
  · refine ⟨⟨hg2.os.trans r3.os, hg2.tape.trans r3.tape, hg2.output.trans r3.output, Nat.le_trans r3.size hg2.size, fun k hk => ?_⟩, fun k cs t hk ht => ?_⟩
    · rw [hg2.block k (by have := r3.size; omega) (fun e => by simp at e; omega)]
      exact r3.block k (by omega) (fun e => by have := (hown.lt k e.symm).1; omega)
    · have hkl : k < w.heap.size := (Array.getElem?_eq_some_iff.1 hk).1
      have hkb : k ≠ bm := fun e => by
        subst e
        obtain ⟨es, clock, hbk, _⟩ := h1
        rw [hbk] at hk
        cases hk
      rw [hg2.block k (by have := r3.size; omega) (fun e => by simp at e; exact hkb e)]
      refine r3.block k hkl (fun e => ?_)
      rcases hown.2 with ⟨rfl, _⟩ | ⟨k', cap, cur, rfl, _, hk', _⟩
      · cases e
      · simp [Value.ownBlock] at e
        subst e
        rw [hk] at hk'
        simp at hk'
        exact ht hk'.2

end Go.Proofs.Ytpbicnpaldfamaa
