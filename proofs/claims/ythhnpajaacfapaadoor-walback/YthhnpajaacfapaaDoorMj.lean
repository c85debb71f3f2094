/- wal.writeHalf: a record's extents in one file, and its sync. -/
import Derived.Test.YthhnpajaacfapaaDoorWaC
import Derived.Test.YthhnpajaacfapaaDoorWaD
namespace Go.Proofs.YthhnpajaacfapaaDoor
open Go.RowKit Go.Shelf Go.Maps
set_option linter.unusedVariables false
attribute [local go_sem] Oper.semAt_some

theorem DiskOf.other {w w' : World} {d N : Nat} {F : Nat → Prop} {M : List UInt8 → List Ext} {free fuse : Int} (h : DiskOf w d F N M free fuse) (hb : ∀ k, F k → w'.heap[k]? = w.heap[k]?) : DiskOf w' d F N M free fuse := by
  obtain ⟨bm, D, G, C, h1, h2, h3, h4, h5, h6, h7⟩ := h
  refine ⟨bm, D, G, C, (hb d h2.1).trans h1, h2, h3, ?_, h5, fun s hs => ?_, h7⟩
  · obtain ⟨es, clock, hbk, F', hs, hD⟩ := h4
    exact ⟨es, clock, (hb bm h3.1).trans hbk, F', hs, hD⟩
  · obtain ⟨a1, ⟨hl, hr⟩, a3⟩ := h6 s hs
    refine ⟨a1, ⟨hl, ?_⟩, a3⟩
    rcases hr with hr | ⟨g, cap, cur, hv, hg, hh, r⟩
    · exact .inl hr
    · cases hv
      exact .inr ⟨_, _, cur, rfl, hg, (hb _ (h3.2 s hs)).trans hh, r⟩

/-- The disk's blocks, and no others: behind the disk itself there are rows alone. -/
theorem DiskOf.slim {w : World} {d N : Nat} {F : Nat → Prop} {M : List UInt8 → List Ext} {free fuse : Int} (h : DiskOf w d F N M free fuse) :
    ∃ F', DiskOf w d F' N M free fuse ∧ (∀ k, F' k → F k) ∧ ∀ k, F' k → d < k → ∃ c t fz, w.heap[k]? = some (.cells c t fz) := by
  obtain ⟨bm, D, G, C, h1, h2, h3, h4, h5, h6, h7⟩ := h
  refine ⟨fun k => k = d ∨ k = bm ∨ ∃ s, M s ≠ [] ∧ k = G s, ⟨bm, D, G, C, h1, ⟨.inl rfl, h2.2⟩, ⟨.inr (.inl rfl), fun s hs => .inr (.inr ⟨s, hs, rfl⟩)⟩, h4, h5, h6, h7⟩, ?_, ?_⟩
  · rintro k (rfl | rfl | ⟨s, hs, rfl⟩)
    · exact h2.1
    · exact h3.1
    · exact h3.2 s hs
  · rintro k (rfl | rfl | ⟨s, hs, rfl⟩) hk
    · omega
    · have := h2.2; omega
    · obtain ⟨_, ⟨_, hr⟩, _⟩ := h6 s hs
      rcases hr with ⟨hr, _⟩ | ⟨g, cap, cur, hv, hg, hh, r⟩
      · cases hr
      · cases hv
        exact ⟨_, _, _, hh⟩

/-- What stands between two rounds: the disk, what was kept, the two boxes that are written. -/
def HalfI (w1 : World) (d : Nat) (F : Nat → Prop) (N : Nat) (st : St) (b7 b10 : Nat) (av : Nat) (rv : Int) (W : World) : Prop :=
  ∃ F', DiskS W d F' N st ∧ Keeps (fun k => F k ∨ k = b7 ∨ k = b10) w1 W ∧ (∀ k, F' k → F k ∨ (w1.heap.size ≤ k ∧ k < W.heap.size)) ∧ (∀ k, F' k → d < k → ∃ c t fz, W.heap[k]? = some (.cells c t fz)) ∧
    W.heap[b7]? = some (.cells #[.int .i64 (av : Int)] 3 (0, 0)) ∧ W.heap[b10]? = some (.cells #[.int .i64 rv] 25 (0, 0))

/-- What is known of the places. -/
structure HalfP (w1 : World) (d : Nat) (F : Nat → Prop) (b7 b10 : Nat) : Prop where
  lt : ∀ k, F k → k < w1.heap.size
  d : d < w1.heap.size
  s7 : b7 < w1.heap.size
  s10 : b10 < w1.heap.size
  n7 : ¬ F b7
  n10 : ¬ F b10
  ne : b7 ≠ b10

theorem HalfI.own {w1 : World} {d : Nat} {F : Nat → Prop} {N : Nat} {st : St} {b7 b10 av : Nat} {rv : Int} (hP : HalfP w1 d F b7 b10) {W W' : World} {row : Option Nat} (h : HalfI w1 d F N st b7 b10 av rv W) (hg : W.grownBy W' row) (hrow : ∀ r, row = some r → w1.heap.size ≤ r ∧ ∃ o : Obj, W.heap[r]? = some o ∧ o.isCells = false) : HalfI w1 d F N st b7 b10 av rv W' := by
  obtain ⟨F', hD, hK, hF, hC, h7, h10⟩ := h
  have hsame : ∀ k, k < W.heap.size → (w1.heap.size ≤ k → ∃ c t fz, W.heap[k]? = some (Obj.cells c t fz)) → W'.heap[k]? = W.heap[k]? := fun k hk hc => hg.block k hk (fun e => by
    obtain ⟨h1, o, ho, hn⟩ := hrow k e.symm
    obtain ⟨c, t, fz, h⟩ := hc h1
    rw [h] at ho
    cases ho
    cases hn)
  have hd := hP.d
  have hlow : ∀ k, k < w1.heap.size → W'.heap[k]? = W.heap[k]? := fun k hk => hsame k (Nat.lt_of_lt_of_le hk hK.size) (fun h => by omega)
  have hltF : ∀ k, F' k → k < W.heap.size := fun k hk => by
    rcases hF k hk with h | ⟨_, h⟩
    · exact Nat.lt_of_lt_of_le (hP.lt k h) hK.size
    · exact h
  have hs2 : ∀ k, F' k → W'.heap[k]? = W.heap[k]? := fun k hk => hsame k (hltF k hk) (fun hle => hC k hk (by omega))
  refine ⟨F', DiskOf.other hD hs2, ⟨hg.os.trans hK.os, hg.tape.trans hK.tape, hg.output.trans hK.output, Nat.le_trans hK.size hg.size, fun i hi hn => (hlow i hi).trans (hK.block i hi hn)⟩, fun k hk => ?_, fun k hk hk2 => ?_, (hlow _ hP.s7).trans h7, (hlow _ hP.s10).trans h10⟩
  · rcases hF k hk with h | ⟨h, h'⟩
    · exact .inl h
    · exact .inr ⟨h, Nat.lt_of_lt_of_le h' hg.size⟩
  · obtain ⟨c, t, fz, h⟩ := hC k hk hk2
    exact ⟨c, t, fz, (hs2 k hk).trans h⟩

/-- A call that leaves another disk. -/
theorem HalfI.next {w1 : World} {d : Nat} {F : Nat → Prop} {N : Nat} {b7 b10 av : Nat} {rv : Int} (hP : HalfP w1 d F b7 b10) {W W2 : World} {F' F2 : Nat → Prop} {st' : St} (hK : Keeps (fun k => F k ∨ k = b7 ∨ k = b10) w1 W) (hF : ∀ k, F' k → F k ∨ (w1.heap.size ≤ k ∧ k < W.heap.size))
    (h7 : W.heap[b7]? = some (.cells #[.int .i64 (av : Int)] 3 (0, 0))) (h10 : W.heap[b10]? = some (.cells #[.int .i64 rv] 25 (0, 0))) (hD2 : DiskS W2 d F2 N st') (hG : Gr F' F2 W W2) : HalfI w1 d F N st' b7 b10 av rv W2 := by
  obtain ⟨F3, hD3, hs3, hc3⟩ := DiskOf.slim hD2
  have hnot : ∀ k, k < w1.heap.size → ¬ F k → ¬ F' k := fun k hk hn hf => by
    rcases hF k hf with h | ⟨h, _⟩
    · exact hn h
    · omega
  have hsz := hK.size
  refine ⟨F3, hD3, ⟨hG.1.os.trans hK.os, hG.1.tape.trans hK.tape, hG.1.output.trans hK.output, Nat.le_trans hK.size hG.1.size, fun i hi hn => (hG.1.block i (by omega) (hnot i hi (fun h => hn (.inl h)))).trans (hK.block i hi hn)⟩, fun k hk => ?_, hc3, ?_, ?_⟩
  · rcases hG.2 k (hs3 k hk) with h | ⟨h, h'⟩
    · rcases hF k h with h | ⟨h, h'⟩
      · exact .inl h
      · exact .inr ⟨h, Nat.lt_of_lt_of_le h' hG.1.size⟩
    · exact .inr ⟨by omega, h'⟩
  · exact (hG.1.block b7 (by have := hP.s7; omega) (hnot _ hP.s7 hP.n7)).trans h7
  · exact (hG.1.block b10 (by have := hP.s10; omega) (hnot _ hP.s10 hP.n10)).trans h10

theorem setCell_one {W : World} {b : Nat} {v u : Value} {t : TypeId} (h : W.heap[b]? = some (.cells #[v] t (0, 0))) : (W.setCell ⟨b, 0, none⟩ u).heap[b]? = some (.cells #[u] t (0, 0)) := by
  rw [setCell_eq_setRow _ _ _ _ _ _ _ h]
  exact setRow_heap _ _ _ _ _ _ h

theorem setCell_other (W : World) (b k : Nat) (u : Value) (h : k ≠ b) : (W.setCell ⟨b, 0, none⟩ u).heap[k]? = W.heap[k]? := Below.heap_setCell W ⟨b, 0, none⟩ u k h

theorem HalfI.set7 {w1 : World} {d : Nat} {F : Nat → Prop} {N : Nat} {st : St} {b7 b10 av av' : Nat} {rv : Int} (hP : HalfP w1 d F b7 b10) {W : World} (h : HalfI w1 d F N st b7 b10 av rv W) : HalfI w1 d F N st b7 b10 av' rv (W.setCell ⟨b7, 0, none⟩ (.int .i64 (av' : Int))) := by
  obtain ⟨F', hD, hK, hF, hC, h7, h10⟩ := h
  have hne : ∀ k, F' k → k ≠ b7 := fun k hk e => by
    subst e
    rcases hF _ hk with h | ⟨h, _⟩
    · exact hP.n7 h
    · have := hP.s7; omega
  refine ⟨F', DiskOf.other hD (fun k hk => setCell_other W b7 k _ (hne k hk)), hK.setCell (p := ⟨b7, 0, none⟩) (Or.inr (Or.inl rfl)) _, fun k hk => ?_, fun k hk hk2 => ?_, setCell_one h7, (setCell_other W b7 b10 _ (Ne.symm hP.ne)).trans h10⟩
  · rcases hF k hk with h | ⟨h, h'⟩
    · exact .inl h
    · exact .inr ⟨h, by simpa [World.setCell] using h'⟩
  · obtain ⟨c, t, fz, h⟩ := hC k hk hk2
    exact ⟨c, t, fz, (setCell_other W b7 k _ (hne k hk)).trans h⟩

theorem HalfI.set10 {w1 : World} {d : Nat} {F : Nat → Prop} {N : Nat} {st : St} {b7 b10 av : Nat} {rv rv' : Int} (hP : HalfP w1 d F b7 b10) {W : World} (h : HalfI w1 d F N st b7 b10 av rv W) : HalfI w1 d F N st b7 b10 av rv' (W.setCell ⟨b10, 0, none⟩ (.int .i64 rv')) := by
  obtain ⟨F', hD, hK, hF, hC, h7, h10⟩ := h
  have hne : ∀ k, F' k → k ≠ b10 := fun k hk e => by
    subst e
    rcases hF _ hk with h | ⟨h, _⟩
    · exact hP.n10 h
    · have := hP.s10; omega
  refine ⟨F', DiskOf.other hD (fun k hk => setCell_other W b10 k _ (hne k hk)), hK.setCell (p := ⟨b10, 0, none⟩) (Or.inr (Or.inr rfl)) _, fun k hk => ?_, fun k hk hk2 => ?_, (setCell_other W b10 b7 _ hP.ne).trans h7, setCell_one h10⟩
  · rcases hF k hk with h | ⟨h, h'⟩
    · exact .inl h
    · exact .inr ⟨h, by simpa [World.setCell] using h'⟩
  · obtain ⟨c, t, fz, h⟩ := hC k hk hk2
    exact ⟨c, t, fz, (setCell_other W b10 k _ (hne k hk)).trans h⟩

/-- What a call on the disk, and a store into a box, keep of all else. -/
theorem keepsFrom_gr {d B : Nat} {F' F2 : Nat → Prop} {W W2 : World} (hG : Gr F' F2 W W2) (hC : ∀ k, F' k → d < k → ∃ c t fz, W.heap[k]? = some (Obj.cells c t fz)) (hd : d < B) (b : Nat) (hb : b < B) (v : Value) : KeepsFrom B W (W2.setCell ⟨b, 0, none⟩ v) := by
  refine ⟨by have := hG.1.size; simpa [World.setCell] using this, fun k o hB hk ho => ?_⟩
  rw [setCell_other W2 b k v (by omega), hG.1.block k (Array.getElem?_eq_some_iff.1 hk).1 (fun hf => ?_)]
  · exact hk
  · obtain ⟨c, t, fz, h⟩ := hC k hf (by omega)
    rw [h] at hk
    cases hk
    cases ho

theorem kpW_gr {b1 b2 : Nat} {F' F2 : Nat → Prop} {W W2 : World} (hG : Gr F' F2 W W2) (h1 : b1 < W.heap.size) (h2 : b2 < W.heap.size) (n1 : ¬ F' b1) (n2 : ¬ F' b2) (b : Nat) (hb1 : b1 ≠ b) (hb2 : b2 ≠ b) (v : Value) : KpW b1 b2 W (W2.setCell ⟨b, 0, none⟩ v) :=
  ⟨(setCell_other W2 b b1 v hb1).trans (hG.1.block b1 h1 n1), (setCell_other W2 b b2 v hb2).trans (hG.1.block b2 h2 n2)⟩
end Go.Proofs.YthhnpajaacfapaaDoor

namespace Go.Proofs.YthhnpajaacfapaaDoor
open Go.RowKit Go.Shelf Go.Maps
set_option linter.unusedVariables false
attribute [local go_sem] Oper.semAt_some

/-- The parts of a text. -/
def partsB (zs : List Nat) : List (List Nat) := (List.range ((zs.length + 105) / 106)).map fun k => (zs.drop (106 * k)).take 106

theorem ptsOf_zs (b off : Nat) (zs : List Nat) : (ptsOf b off zs).map Pt.zs = partsB zs := by
  unfold ptsOf partsB
  rw [List.map_map]
  rfl

theorem partsB_length (zs : List Nat) : (partsB zs).length = (zs.length + 105) / 106 := by simp [partsB]

theorem alloc_at {w : World} {k : Nat} {o : Obj} (h : w.heap[k]? = some o) (o' : Obj) : (w.alloc o').heap[k]? = some o := (Below.heap_alloc _ _ _ (Array.getElem?_eq_some_iff.1 h).1).trans h

theorem boxes7 {w w1 : World} {o1 o2 o3 o4 o5 o6 o7 : Obj} (h : w1 = ((((((w.alloc o1).alloc o2).alloc o3).alloc o4).alloc o5).alloc o6).alloc o7) :
    Below w.heap.size w w1 ∧ w1.heap.size = w.heap.size + 7 ∧ w1.heap[w.heap.size]? = some o1 ∧ w1.heap[w.heap.size + 1]? = some o2 ∧ w1.heap[w.heap.size + 1 + 1]? = some o3 ∧ w1.heap[w.heap.size + 1 + 1 + 1]? = some o4 ∧ w1.heap[w.heap.size + 1 + 1 + 1 + 1]? = some o5 ∧ w1.heap[w.heap.size + 1 + 1 + 1 + 1 + 1]? = some o6 ∧ w1.heap[w.heap.size + 1 + 1 + 1 + 1 + 1 + 1]? = some o7 := by
  subst h
  refine ⟨?_, by simp, ?_, ?_, ?_, ?_, ?_, ?_, ?_⟩
  · exact ((((((Below.refl _ w).alloc (Nat.le_refl _) _).alloc (by simp) _).alloc (by simp; omega) _).alloc (by simp; omega) _).alloc (by simp; omega) _).alloc (by simp; omega) _ |>.alloc (by simp; omega) _
  · have x := heap_alloc_new w o1
    exact (alloc_at (alloc_at (alloc_at (alloc_at (alloc_at (alloc_at x o2) o3) o4) o5) o6) o7)
  · have x := heap_alloc_new (World.alloc w o1) o2
    simp only [World.size_alloc] at x
    exact (alloc_at (alloc_at (alloc_at (alloc_at (alloc_at x o3) o4) o5) o6) o7)
  · have x := heap_alloc_new (World.alloc (World.alloc w o1) o2) o3
    simp only [World.size_alloc] at x
    exact (alloc_at (alloc_at (alloc_at (alloc_at x o4) o5) o6) o7)
  · have x := heap_alloc_new (World.alloc (World.alloc (World.alloc w o1) o2) o3) o4
    simp only [World.size_alloc] at x
    exact (alloc_at (alloc_at (alloc_at x o5) o6) o7)
  · have x := heap_alloc_new (World.alloc (World.alloc (World.alloc (World.alloc w o1) o2) o3) o4) o5
    simp only [World.size_alloc] at x
    exact (alloc_at (alloc_at x o6) o7)
  · have x := heap_alloc_new (World.alloc (World.alloc (World.alloc (World.alloc (World.alloc w o1) o2) o3) o4) o5) o6
    simp only [World.size_alloc] at x
    exact (alloc_at x o7)
  · have x := heap_alloc_new (World.alloc (World.alloc (World.alloc (World.alloc (World.alloc (World.alloc w o1) o2) o3) o4) o5) o6) o7
    simp only [World.size_alloc] at x
    exact x

/-- What a round of the half keeps, as the law of the loop asks. -/
abbrev PrF (F : Nat → Prop) (b7 b10 : Nat) (w1 : World) : Type := Prt (fun k => F k ∨ k = b7 ∨ k = b10) w1

def zsOf {F : Nat → Prop} {w1 : World} (pre : List (Prt F w1)) : List (List Nat) := pre.map fun x => x.1.zs

theorem zsOf_snoc {F : Nat → Prop} {w1 : World} (pre : List (Prt F w1)) (x : Prt F w1) : zsOf (pre ++ [x]) = zsOf pre ++ [x.1.zs] := by simp [zsOf]

theorem zsOf_length {F : Nat → Prop} {w1 : World} (pre : List (Prt F w1)) : (zsOf pre).length = pre.length := by simp [zsOf]

def HI (w1 : World) (d : Nat) (F : Nat → Prop) (N : Nat) (st : St) (s : ByteArray) (at' g b7 b10 : Nat) (pre : List (PrF F b7 b10 w1)) (W : World) : Prop :=
  (wrAll st s at' g (zsOf pre)).2 = 0 ∧ HalfI w1 d F (N + pre.length) (wrAll st s at' g (zsOf pre)).1 b7 b10 (at' + pre.length) 0 W

def HX (w1 : World) (d : Nat) (F : Nat → Prop) (N : Nat) (st : St) (s : ByteArray) (at' g b7 b10 : Nat) (c : Code) (pre : List (PrF F b7 b10 w1)) (W : World) : Prop :=
  c = .ret ∧ (wrAll st s at' g (zsOf pre)).2 ≠ 0 ∧ ∃ av, HalfI w1 d F (N + pre.length) (wrAll st s at' g (zsOf pre)).1 b7 b10 av (wrAll st s at' g (zsOf pre)).2 W

theorem results_errno {tmps : Array Value} {W : World} {b : Nat} {v : Int} (h : W.heap[b]? = some (.cells #[.int .i64 v] 25 (0, 0))) (hp : tmps.getD 10 undef = .pointer (some ⟨b, 0, none⟩)) :
    (results Tryd.f20 tmps).run Tryd.prog W = .ok (.int .i64 v) W := by
  have hp' : tmps[10]?.getD undef = .pointer (some ⟨b, 0, none⟩) := by simpa using hp
  have hc : W.cell? ⟨b, 0, none⟩ = some (.int .i64 v) := by rw [cell_of_row _ _ _ _ _ _ h]; rfl
  simp [results, Tryd.results20, hp', asAddr, go_sem, hc]

theorem HalfI.post {w w1 : World} {d : Nat} {F : Nat → Prop} {N : Nat} {st : St} {b7 b10 av : Nat} {rv : Int} {W : World} (h : HalfI w1 d F N st b7 b10 av rv W) (bw : Below w.heap.size w w1) (h7 : w.heap.size ≤ b7) (h10 : w.heap.size ≤ b10) : ∃ F', DiskS W d F' N st ∧ Gr F F' w W := by
  obtain ⟨F', hD, hK, hF, hC, _, _⟩ := h
  have hsz := bw.size
  refine ⟨F', hD, ⟨hK.os.trans bw.os, hK.tape.trans bw.tape, hK.output.trans bw.output, Nat.le_trans bw.size hK.size, fun i hi hn => (hK.block i (by omega) (fun hf => ?_)).trans (bw.block i hi)⟩, fun k hk => ?_⟩
  · rcases hf with hf | hf | hf
    · exact hn hf
    · omega
    · omega
  · rcases hF k hk with h | ⟨h, h'⟩
    · exact .inl h
    · exact .inr ⟨by omega, h'⟩

set_option maxRecDepth 100000 in
set_option maxHeartbeats 8000000 in
theorem writeHalf_any (w : World) (d : Nat) (F : Nat → Prop) (N : Nat) (st : St) (h : DiskS w d F N st) (hS : Sound5 w F) (K : Nat) (hok : StOK st K) (s : ByteArray) (hs : nameB s.data.toList = true) (at' g : Nat) (hg : g ≤ 4611686018427387904)
    (b off len cap : Nat) (zs : List Nat) (hB : BsF F w (some ⟨b, off, none⟩) len zs) (hl0 : 0 < len) (hcap : len ≤ cap) (hlm : len ≤ 100000) (hat : at' + len ≤ 2147483647) (hK : K + len ≤ 1000000) (hN : N + len < maxLen) :
    Calls Tryd.prog 20 #[.pointer (some ⟨d, 0, none⟩), .string s, .int .i64 (at' : Int), .int .i64 (g : Int), .slice (some ⟨b, off, none⟩) len cap] w (WrPost w d F (N + (partsB zs).length) (halfD st s at' g (partsB zs))) := by
  have hsm : s.size ≤ maxLen := by have := (name_size hs).2; unfold maxLen; omega
  have hlen := hidn hB.1.1
  have hbw : b < w.heap.size := by
    have := block_lt_of_cell (hB.1.2.2.2.2 _ rfl 0 hl0)
    rw [add_none] at this
    exact this
  have hnF : ¬ F b := hB.2 _ rfl hl0
  refine (callsIn_wide (n := 9)).1 ?_
  refine callsIn_of_wp_marks Tryd.func20 rfl trivial ?_ rfl
  simp only [Tryd.ntmps20, List.size_toArray, List.length_cons, List.length_nil, Nat.reduceAdd, Nat.reduceSub, Array.replicate_succ, Array.replicate_zero, List.push_toArray, List.append_toArray, List.nil_append, List.cons_append]
  gi_wp2_with (refine ⟨trivial, ?_⟩; gi_at_call 33; refine (chunk_in _ _ _ _ _).mono ?_; rintro e w2 ⟨rfl, rfl⟩)
  obtain ⟨w1, hw1⟩ : ∃ w1, w1 = ((((((w.alloc (.cells #[.pointer (some ⟨d, 0, none⟩)] 24)).alloc (.cells #[.string s] 9)).alloc (.cells #[.int .i64 (at' : Int)] 3)).alloc (.cells #[.int .i64 (g : Int)] 3)).alloc (.cells #[.int .i64 0] 25)).alloc (.cells #[.slice (some ⟨b, off, none⟩) len cap] 29)).alloc (.cells #[.int .i64 106] 3) := ⟨_, rfl⟩
  obtain ⟨bw, hsz, q5, q6, q7, q8, q10, q1, q2⟩ := boxes7 hw1
  rw [← hw1]
  obtain ⟨b6, hb6⟩ : ∃ b6, b6 = w.heap.size + 1 := ⟨_, rfl⟩
  rw [← hb6] at q6 q7 q8 q10 q1 q2 ⊢
  obtain ⟨b7, hb7⟩ : ∃ b7, b7 = b6 + 1 := ⟨_, rfl⟩
  rw [← hb7] at q7 q8 q10 q1 q2 ⊢
  obtain ⟨b8, hb8⟩ : ∃ b8, b8 = b7 + 1 := ⟨_, rfl⟩
  rw [← hb8] at q8 q10 q1 q2 ⊢
  obtain ⟨b10, hb10⟩ : ∃ b10, b10 = b8 + 1 := ⟨_, rfl⟩
  rw [← hb10] at q10 q1 q2 ⊢
  obtain ⟨b1, hb1⟩ : ∃ b1, b1 = b10 + 1 := ⟨_, rfl⟩
  rw [← hb1] at q1 q2 ⊢
  obtain ⟨b2, hb2⟩ : ∃ b2, b2 = b1 + 1 := ⟨_, rfl⟩
  rw [← hb2] at q2 ⊢
  obtain ⟨b5, hb5⟩ : ∃ b5, b5 = w.heap.size := ⟨_, rfl⟩
  rw [← hb5] at q5 ⊢
  have hlt := hS.lt
  have hdl := DiskOf.lt h
  have hP : HalfP w1 d F b7 b10 := ⟨fun k hk => by have := hlt k hk; omega, by omega, by omega, by omega, fun hf => by have := hlt _ hf; omega, fun hf => by have := hlt _ hf; omega, by omega⟩
  have c1 : w1.cell? ⟨b1, 0, none⟩ = some (.slice (some ⟨b, off, none⟩) len cap) := by rw [cell_of_row _ _ _ _ _ _ q1]; rfl
  have c2 : w1.cell? ⟨b2, 0, none⟩ = some (.int .i64 106) := by rw [cell_of_row _ _ _ _ _ _ q2]; rfl
  have hB1 : BsF (fun k => F k ∨ k = b7 ∨ k = b10) w1 (some ⟨b, off, none⟩) len zs := ⟨hB.1.below bw, fun x hx _ hf => by
    cases hx
    rcases hf with hf | hf | hf
    · exact hnF hf
    · have e : b = b7 := hf
      omega
    · have e : b = b10 := hf
      omega⟩
  have hS1 := hS.below bw
  have hT1 : ¬ (fun k => F k ∨ k = b7 ∨ k = b10) 1 := fun hf => by
    have := hS.tab.lt
    rcases hf with hf | hf | hf
    · exact hS.far hf
    · omega
    · omega
  have hI0 : HalfI w1 d F N st b7 b10 at' 0 w1 := by
    have := HalfI.next (w1 := w1) (W := w1) (W2 := w1) (d := d) (F := F) (N := N) (b7 := b7) (b10 := b10) (av := at') (rv := 0) hP (F' := F) (F2 := F) (st' := st) (Keeps.refl _ _) (fun k hk => .inl hk) q7 q10 (h.below bw) (Gr.refl _ _)
    exact this
  have n1 : ¬ F b1 := fun hf => by have := hlt _ hf; omega
  have n2 : ¬ F b2 := fun hf => by have := hlt _ hf; omega
  have n5 : ¬ (fun k => F k ∨ k = b7 ∨ k = b10) b5 := fun hf => by rcases hf with hf | hf | hf; (have := hlt _ hf; omega); omega; omega
  have n6 : ¬ (fun k => F k ∨ k = b7 ∨ k = b10) b6 := fun hf => by rcases hf with hf | hf | hf; (have := hlt _ hf; omega); omega; omega
  have n8 : ¬ (fun k => F k ∨ k = b7 ∨ k = b10) b8 := fun hf => by rcases hf with hf | hf | hf; (have := hlt _ hf; omega); omega; omega
  have l1 : b1 < w1.heap.size := by omega
  have l2 : b2 < w1.heap.size := by omega
  have l5 : b5 < w1.heap.size := by omega
  have l6 : b6 < w1.heap.size := by omega
  have l8 : b8 < w1.heap.size := by omega
  have e17 : b1 ≠ b7 := by omega
  have e27 : b2 ≠ b7 := by omega
  have hpl : (ptsOf b off zs).length = (partsB zs).length := by rw [← ptsOf_zs, List.length_map]
  have hpn : (partsB zs).length ≤ len := by rw [partsB_length, hlen.out]; omega
  have HW := hidn bw
  have HL7 : Hid (w.heap.size ≤ b7) := hidn (by omega)
  have HL10 : Hid (w.heap.size ≤ b10) := hidn (by omega)
  clear hw1 hb6 hb7 hb8 hb10 hb1 hb2 hb5 hsz h q1 q2 q7 q10 hdl hB
  refine wpIn_rangeFunc_ownG rfl (by decide) (gf := 46) (lb := #[.pointer (some ⟨b1, 0, none⟩), .pointer (some ⟨b2, 0, none⟩)]) rfl trivial (enters_of Tryd.func46 (by kernel_rfl) rfl)
    (chunk_stops 8 (by decide) b1 b2 w1 w1 (fun k => F k ∨ k = b7 ∨ k = b10) b off len cap zs hB1 hcap (by omega) c1 c2) KpW.trans (kpW_b l1 l2) (Below.refl _ _) (fun _ => rfl)
    (HI w1 d F N st s at' g b7 b10) (HX w1 d F N st s at' g b7 b10)
    (fun pre W W' row hi hgr hrow => ⟨hi.1, hi.2.own hP hgr hrow⟩)
    (fun c pre W W' row hx hgr hrow => ⟨hx.1, hx.2.1, hx.2.2.choose, hx.2.2.choose_spec.own hP hgr hrow⟩)
    ⟨rfl, hI0⟩
    (fun x => { tmps := #[.pointer (some ⟨d, 0, none⟩), .string s, .int .i64 (at' : Int), .int .i64 (g : Int), .slice (some ⟨b, off, none⟩) len cap, .pointer (some ⟨b5, 0, none⟩), .pointer (some ⟨b6, 0, none⟩), .pointer (some ⟨b7, 0, none⟩), .pointer (some ⟨b8, 0, none⟩), undef, .pointer (some ⟨b10, 0, none⟩), .slice x.1.a x.1.len x.1.len, undef, undef, undef, .slice (some ⟨b, off, none⟩) len cap, .func (.func 46) #[] #[.pointer (some ⟨b1, 0, none⟩), .pointer (some ⟨b2, 0, none⟩)], .slice x.1.a x.1.len x.1.len, undef, undef, undef, undef, undef, undef, undef, undef, undef, undef, undef, undef, undef, undef, undef, undef, undef, undef, undef, undef, undef], defers := [] }) ?assign ?body ?done ?stop
  case assign =>
    intro lb x W K hK
    simp only [Prt.args]
    gi_wp2
    exact hK
  case body =>
    rintro lb pre x W ⟨h0, F', hD, hKW, hF, hC, h7, h10⟩ hlt'
    rw [hpl] at hlt'
    obtain ⟨⟨xa, xl, xz⟩, hxB, hx6⟩ := x
    simp only at hxB hx6
    have hok1 := hok.all s at' g (zsOf pre)
    rw [zsOf_length] at hok1
    obtain ⟨stk, hstk⟩ : ∃ stk, stk = (wrAll st s at' g (zsOf pre)).1 := ⟨_, rfl⟩
    rw [← hstk] at hD hok1
    obtain ⟨av, hav⟩ : ∃ av, av = at' + pre.length := ⟨_, rfl⟩
    rw [← hav] at h7
    have hT := hS1.tab.kept hKW hT1
    have hBx := hxB.1.kept hKW hxB.2
    obtain ⟨fz, hfz⟩ : ∃ fz, fz = frameB (nums s) av g xz := ⟨_, rfl⟩
    have HFZ := hidn hfz
    have c5 : W.cell? ⟨b5, 0, none⟩ = some (.pointer (some ⟨d, 0, none⟩)) := by rw [cell_of_row _ _ _ _ _ _ ((hKW.block b5 l5 n5).trans q5)]; rfl
    have c6 : W.cell? ⟨b6, 0, none⟩ = some (.string s) := by rw [cell_of_row _ _ _ _ _ _ ((hKW.block b6 l6 n6).trans q6)]; rfl
    have c7 : W.cell? ⟨b7, 0, none⟩ = some (.int .i64 (av : Int)) := by rw [cell_of_row _ _ _ _ _ _ h7]; rfl
    have c8 : W.cell? ⟨b8, 0, none⟩ = some (.int .i64 (g : Int)) := by rw [cell_of_row _ _ _ _ _ _ ((hKW.block b8 l8 n8).trans q8)]; rfl
    have c10 : W.cell? ⟨b10, 0, none⟩ = some (.int .i64 0) := by rw [cell_of_row _ _ _ _ _ _ h10]; rfl
    have f7 := frozen_of_row _ _ 0 _ _ h7
    have f10 := frozen_of_row _ _ 0 _ _ h10
    have havb : av ≤ 2147483646 := by omega
    have HFR := hidn (frame_bs s (av : Int) (g : Int) av g rfl rfl xa xl xl xz W hBx hT hsm (by omega) hg hx6 fz HFZ)
    have hwF : ∀ k, F' k → k < W.heap.size := fun k hk => by
      have := hKW.size
      rcases hF k hk with h | ⟨_, h⟩
      · have := hP.lt k h; omega
      · exact h
    have hNb : N + pre.length + 1 ≤ N + len := by omega
    have HAV := hidn hav
    have HSTK := hidn hstk
    clear hfz hstk hav
    gi_wp2_with (refine ⟨trivial, ?_⟩; gi_at_call 34; refine (CallsIn.inRound lb (callsIn_wide.2 HFR.out)).mono ?_; rintro e W1 ⟨bb, rfl, hbb, _, hB1', hb1'⟩; clear HFR; have c5' := (hb1'.cell (block_lt_of_cell c5)).trans c5; have c6' := (hb1'.cell (block_lt_of_cell c6)).trans c6; have c7' := (hb1'.cell (block_lt_of_cell c7)).trans c7; clear c5 c6 c8)
    have hlenk : (stk.M s.data.toList).length ≤ 1000000 := by have := hok1.len s.data.toList; omega
    have HWR := hidn (write_st W1 d F' (N + pre.length) stk (hD.below hb1') s hs av _ (hidn rfl) bb 128 fz (BsF.fresh hB1' hbb hwF) hok1.fuse hok1.fuse2 hlenk (by omega) hok1.free hok1.free2)
    have hdB := hP.d
    have HS7 := hidn hP.s7
    have HS10 := hidn hP.s10
    have hsW := hKW.size
    have hnk : ∀ k, k < w1.heap.size → ¬ F k → ¬ F' k := fun k hk hn hf => by
      rcases hF k hf with h | ⟨h, _⟩
      · exact hn h
      · omega
    have hstep : wrAll st s at' g (zsOf (pre ++ [⟨⟨xa, xl, xz⟩, hxB, hx6⟩])) = wrD stk s.data.toList av fz := by
      rw [zsOf_snoc, wrAll_snoc, zsOf_length]
      unfold wrStep
      rw [if_pos h0, ← HSTK.out, ← HAV.out, HFZ.out]
    have HST := hidn hstep
    obtain ⟨r, hr⟩ : ∃ r, r = wrD stk s.data.toList av fz := ⟨_, rfl⟩
    rw [← hr] at HWR HST
    clear hr hstep
    obtain ⟨st', rv⟩ := r
    refine ⟨trivial, ?_⟩
    refine (CallsIn.inRound lb (callsIn_wide.2 HWR.out)).mono ?_
    clear HWR
    rintro e W2 ⟨rfl, F2, hD2, hG2⟩
    have hGG : Gr F' F2 W W2 := (Gr.of (Keeps.of_below hb1')).trans hG2
    have HI2 := HalfI.next hP hKW hF h7 h10 hD2 hGG
    have g7 : W2.heap[b7]? = some (.cells #[.int .i64 (av : Int)] 3 (0, 0)) := by
      obtain ⟨F3, _, _, _, _, h73, _⟩ := HI2
      exact h73
    have g10 : W2.heap[b10]? = some (.cells #[.int .i64 0] 25 (0, 0)) := by
      obtain ⟨F3, _, _, _, _, _, h103⟩ := HI2
      exact h103
    have d7 : W2.cell? ⟨b7, 0, none⟩ = some (.int .i64 (av : Int)) := by rw [cell_of_row _ _ _ _ _ _ g7]; rfl
    have d10 : W2.cell? ⟨b10, 0, none⟩ = some (.int .i64 0) := by rw [cell_of_row _ _ _ _ _ _ g10]; rfl
    have k7 := frozen_of_row _ _ 0 _ _ g7
    have k10 := frozen_of_row _ _ 0 _ _ g10
    have HI3 := hidn HI2
    have HK1 := fun v => keepsFrom_gr hGG hC hdB b7 HS7.out v
    have HK2 := fun v => keepsFrom_gr hGG hC hdB b10 HS10.out v
    have HK3 := fun v => kpW_gr (b1 := b1) (b2 := b2) hGG (by omega) (by omega) (hnk b1 l1 n1) (hnk b2 l2 n2) b7 e17 e27 v
    clear HI2 hD2 hG2 hGG c7' c7 c10 f7 f10 c5' c6' hB1' hb1' hbb hF hC h7 h10 hKW hT hBx hD g7 g10
    simp only at *
    by_cases hz : rv = 0
    · subst hz
      gi_wp2
      have e1 : ((av : Int) + 1) = ((av + 1 : Nat) : Int) := by omega
      refine ⟨HK1 _, HK3 _, by rw [HST.out], ?_⟩
      have h2 := HI3.out.set7 hP (av' := av + 1)
      rw [e1, HST.out]
      rw [HAV.out] at h2 ⊢
      rw [List.length_append, List.length_singleton, ← Nat.add_assoc, ← Nat.add_assoc]
      exact h2
    · have hz1 : (rv != 0) = true := bne_iff_ne.2 hz
      gi_wp2
      refine ⟨HK2 _, rfl, by rw [HST.out]; exact hz, av, ?_⟩
      have h2 := HI3.out.set10 hP (rv' := rv)
      rw [HST.out, List.length_append, List.length_singleton, ← Nat.add_assoc]
      exact h2
  case done =>
    rintro D ys W hD hys ⟨h0, hHI⟩ hKd
    have hzs : zsOf ys = partsB zs := by
      rw [← ptsOf_zs b off zs, ← hys]
      unfold zsOf
      rw [List.map_map]
      rfl
    have hyl : ys.length = (partsB zs).length := by rw [← hzs, zsOf_length]
    rw [hzs] at h0 hHI
    rw [hyl] at hHI
    have hok1 := hok.all s at' g (partsB zs)
    obtain ⟨stk, hstk⟩ : ∃ stk, stk = (wrAll st s at' g (partsB zs)).1 := ⟨_, rfl⟩
    rw [← hstk] at hHI hok1
    have HHI := hidn hHI
    obtain ⟨F', hDk, hKW, hF, hC, h7, h10⟩ := hHI
    have c5 : W.cell? ⟨b5, 0, none⟩ = some (.pointer (some ⟨d, 0, none⟩)) := by rw [cell_of_row _ _ _ _ _ _ ((hKW.block b5 l5 n5).trans q5)]; rfl
    have c6 : W.cell? ⟨b6, 0, none⟩ = some (.string s) := by rw [cell_of_row _ _ _ _ _ _ ((hKW.block b6 l6 n6).trans q6)]; rfl
    have HSY := hidn (sync_st W d F' _ stk hDk s hsm hok1.fuse hok1.fuse2)
    have hhalf : halfD st s at' g (partsB zs) = syD stk s.data.toList := by
      unfold halfD
      rw [if_pos h0, hstk]
    have HHF := hidn hhalf
    obtain ⟨r, hr⟩ : ∃ r, r = syD stk s.data.toList := ⟨_, rfl⟩
    rw [← hr] at HSY HHF
    clear hr hhalf hstk
    obtain ⟨st', rv⟩ := r
    have hDd : d < D := by have := hP.d; omega
    gi_wp2
    refine ⟨trivial, ?_⟩
    refine (callsIn_wide.2 HSY.out).mono ?_
    clear HSY
    rintro e W2 ⟨rfl, F2, hD2, hG2⟩
    have HI2 := HalfI.next hP hKW hF h7 h10 hD2 hG2
    have g10 : W2.heap[b10]? = some (.cells #[.int .i64 0] 25 (0, 0)) := by
      obtain ⟨F3, _, _, _, _, _, h103⟩ := HI2
      exact h103
    have d10 : W2.cell? ⟨b10, 0, none⟩ = some (.int .i64 0) := by rw [cell_of_row _ _ _ _ _ _ g10]; rfl
    have k10 := frozen_of_row _ _ 0 _ _ g10
    have hKd2 : W2.heap[D]? = some (.deferred (some [])) := (hG2.1.block D (Array.getElem?_eq_some_iff.1 hKd).1 (fun hf => by
      obtain ⟨c, t, fz, h⟩ := hC D hf hDd
      rw [h] at hKd
      cases hKd)).trans hKd
    have hDb : D ≠ b10 := by have := hP.s10; omega
    have hKd3 : (W2.setCell ⟨b10, 0, none⟩ (.int .i64 rv)).heap[D]? = some (.deferred (some [])) := (setCell_other W2 b10 D _ hDb).trans hKd2
    have HI3 := HI2.set10 hP (rv' := rv)
    have HI4 := HI3.own hP (grownBy_putObj' _ D (.deferred none)) (fun r e => by cases e; exact ⟨hD, _, hKd3, rfl⟩)
    have HP4 := hidn (HI4.post HW.out HL7.out HL10.out)
    have HR4 : Hid (((W2.setCell ⟨b10, 0, none⟩ (.int .i64 rv)).putObj D (.deferred none)).heap[b10]? = some (.cells #[.int .i64 rv] 25 (0, 0))) := hidn (by
      obtain ⟨F3, _, _, _, _, _, h103⟩ := HI4
      exact h103)
    clear HI2 HI3 HI4 hD2 hG2 hKd hKd2 hDk hKW hF hC h7 h10 g10 c5 c6
    simp only at *
    gi_wp2
    refine ⟨by simp, .inl ⟨_, _, rfl, run_takeDeferred hKd3, ?_⟩⟩
    refine ⟨.int .i64 rv, results_errno HR4.out rfl, ?_⟩
    rw [HHF.out]
    exact ⟨rfl, HP4.out⟩
  case stop =>
    rintro D c pre W hD ⟨qs, hqs⟩ ⟨rfl, hne, av, hx⟩ hKd
    have hzs : zsOf pre ++ qs.map Pt.zs = partsB zs := by
      rw [← ptsOf_zs b off zs, ← hqs, List.map_append]
      unfold zsOf
      rw [List.map_map]
      rfl
    have hhalf : halfD st s at' g (partsB zs) = wrAll st s at' g (zsOf pre) := by
      have e := wrAll_stuck s g st at' (zsOf pre) hne (qs.map Pt.zs)
      rw [hzs] at e
      unfold halfD
      rw [if_neg (by rw [e]; exact hne), e]
    have hln : pre.length ≤ (partsB zs).length := by rw [← hzs, List.length_append, zsOf_length]; omega
    have HHF := hidn hhalf
    obtain ⟨r, hr⟩ : ∃ r, r = wrAll st s at' g (zsOf pre) := ⟨_, rfl⟩
    rw [← hr] at HHF hx
    clear hr hhalf hne
    obtain ⟨st', rv⟩ := r
    have HI4 := hx.own hP (grownBy_putObj' _ D (.deferred none)) (fun r e => by cases e; exact ⟨hD, _, hKd, rfl⟩)
    have HP4 := hidn (HI4.post HW.out HL7.out HL10.out)
    have HR4 : Hid ((W.putObj D (.deferred none)).heap[b10]? = some (.cells #[.int .i64 rv] 25 (0, 0))) := hidn (by
      obtain ⟨F3, _, _, _, _, _, h103⟩ := HI4
      exact h103)
    clear HI4 hx
    gi_wp2
    refine ⟨by simp, .inl ⟨_, _, rfl, run_takeDeferred hKd, ?_⟩⟩
    refine ⟨.int .i64 rv, results_errno HR4.out rfl, ?_⟩
    rw [HHF.out]
    obtain ⟨F4, hD4, hG4⟩ := HP4.out
    exact ⟨rfl, F4, hD4.mono (by omega), hG4⟩
end Go.Proofs.YthhnpajaacfapaaDoor
