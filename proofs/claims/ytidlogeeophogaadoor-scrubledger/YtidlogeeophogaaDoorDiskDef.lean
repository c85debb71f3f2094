/- The disk in memory: a struct of three cells, a map of names to slices of extents, an extent of 385 cells. -/
import Derived.Test.YtidlogeeophogaaDoorBytes
import Derived.Maps.OwnSet
import Derived.Maps.Views
import Derived.Deep.MidRow
import Derived.StringKeys
namespace Go.Proofs.YtidlogeeophogaaDoor
open Go.RowKit Go.Maps
set_option linter.unusedVariables false

structure Ext where
  dur : List Nat
  syn : List Nat
  wri : List Nat
  waits : Bool
def Ext.cells (x : Ext) : List Value := vb x.dur ++ (vb x.syn ++ (vb x.wri ++ [.bool x.waits]))
def Ext.ok (x : Ext) : Prop := (x.dur.length = 128 ∧ ∀ y ∈ x.dur, y < 256) ∧ (x.syn.length = 128 ∧ ∀ y ∈ x.syn, y < 256) ∧ (x.wri.length = 128 ∧ ∀ y ∈ x.wri, y < 256)
def zeroE : Ext := ⟨List.replicate 128 0, List.replicate 128 0, List.replicate 128 0, false⟩
def cellsE (l : List Ext) : List Value := (l.map Ext.cells).flatten
theorem Ext.cells_length {x : Ext} (h : x.ok) : x.cells.length = 385 := by
  obtain ⟨⟨h1, _⟩, ⟨h2, _⟩, ⟨h3, _⟩⟩ := h
  simp [Ext.cells, length_vb, h1, h2, h3]
theorem cellsE_length {l : List Ext} (h : ∀ x ∈ l, x.ok) : (cellsE l).length = l.length * 385 := by
  induction l with
  | nil => rfl
  | cons x t ih =>
    have e : cellsE (x :: t) = x.cells ++ cellsE t := rfl
    rw [e, List.length_append, Ext.cells_length (h x (by simp)), ih (fun y hy => h y (by simp [hy])), List.length_cons]
    omega
theorem Ext.cells_one (x : Ext) : ∀ v ∈ x.cells, v.oneCell' = true := by
  intro v hv
  simp only [Ext.cells, List.mem_append, List.mem_singleton] at hv
  rcases hv with hv | hv | hv | rfl
  · exact one_vb _ v hv
  · exact one_vb _ v hv
  · exact one_vb _ v hv
  · rfl
theorem cellsE_one (l : List Ext) : ∀ v ∈ cellsE l, v.oneCell' = true := by
  intro v hv
  simp only [cellsE, List.mem_flatten, List.mem_map] at hv
  obtain ⟨_, ⟨x, _, rfl⟩, hv⟩ := hv
  exact x.cells_one v hv
theorem cellsE_snoc (l : List Ext) (x : Ext) : cellsE (l ++ [x]) = cellsE l ++ x.cells := by simp [cellsE]

/-- A slice's header as a plain datum. -/
def encS (g n c : Nat) : DataW Unit := .agg [.lit (.int .u64 g), .lit (.int .u64 n), .lit (.int .u64 c)]
def hd (v : Value) : Option (DataW Unit × List MemPlace) :=
  match v with
  | .slice none 0 0 => some (.nil, [])
  | .slice (some ⟨g, 0, none⟩) n c => some (encS g n c, [])
  | _ => none
theorem hd_nil : hd (.slice none 0 0) = some (.nil, []) := rfl
theorem hd_mk (g n c : Nat) : hd (.slice (some ⟨g, 0, none⟩) n c) = some (encS g n c, []) := rfl
theorem hd_inv {v : Value} {g n c : Nat} {ps : List MemPlace} (h : hd v = some (encS g n c, ps)) : v = .slice (some ⟨g, 0, none⟩) n c := by
  unfold hd at h
  split at h
  · simp [encS] at h
  · simp [encS] at h
    obtain ⟨⟨h1, h2, h3⟩, _⟩ := h
    obtain rfl := Int.ofNat.inj h1
    obtain rfl := Int.ofNat.inj h2
    obtain rfl := Int.ofNat.inj h3
    rfl
  · cases h
theorem hd_inv_nil {v : Value} {ps : List MemPlace} (h : hd v = some (.nil, ps)) : v = .slice none 0 0 := by
  unfold hd at h
  split at h
  · rfl
  · simp [encS] at h
  · cases h

theorem lawS : Keyed Tryd.prog 9 := string_keyed Tryd.underlying9
theorem zeroSl (w : World) : (zeroValue 121).run Tryd.prog w = .ok (.slice none 0 0) w := by kernel_rfl

/-- All blocks outside F are as they were. -/
structure Keeps (F : Nat → Prop) (w w' : World) : Prop where
  os : w'.os = w.os
  tape : w'.tape = w.tape
  output : w'.output = w.output
  size : w.heap.size ≤ w'.heap.size
  block : ∀ k, k < w.heap.size → ¬ F k → w'.heap[k]? = w.heap[k]?
/-- .. and F has grown by new blocks alone. -/
def Gr (F F' : Nat → Prop) (w w' : World) : Prop := Keeps F w w' ∧ ∀ k, F' k → F k ∨ (w.heap.size ≤ k ∧ k < w'.heap.size)
theorem Keeps.refl (F : Nat → Prop) (w : World) : Keeps F w w := ⟨rfl, rfl, rfl, Nat.le_refl _, fun _ _ _ => rfl⟩
theorem Keeps.trans {F : Nat → Prop} {a b c : World} (h : Keeps F a b) (k : Keeps F b c) : Keeps F a c :=
  ⟨k.os.trans h.os, k.tape.trans h.tape, k.output.trans h.output, Nat.le_trans h.size k.size, fun i hi hn => (k.block i (Nat.lt_of_lt_of_le hi h.size) hn).trans (h.block i hi hn)⟩
theorem Keeps.of_below {F : Nat → Prop} {w w' : World} (h : Below w.heap.size w w') : Keeps F w w' := ⟨h.os, h.tape, h.output, h.size, fun i hi _ => h.block i hi⟩
theorem Keeps.of_grown {F : Nat → Prop} {w w' : World} {row : Option Nat} (h : w.grownBy w' row) (hr : ∀ k, row = some k → F k) : Keeps F w w' := ⟨h.os, h.tape, h.output, h.size, fun i hi hn => h.block i hi (fun e => hn (hr i e.symm))⟩
theorem Keeps.setCell {F : Nat → Prop} {a w : World} (h : Keeps F a w) {p : Addr} (hp : F p.block) (u : Value) : Keeps F a (w.setCell p u) :=
  h.trans ⟨rfl, rfl, rfl, by simp [World.setCell], fun k _ hk => Below.heap_setCell _ _ _ _ (fun e => hk (e ▸ hp))⟩
theorem Keeps.alloc {F : Nat → Prop} {a w : World} (h : Keeps F a w) (o : Obj) : Keeps F a (w.alloc o) :=
  h.trans ⟨rfl, rfl, rfl, by simp, fun k hk _ => Below.heap_alloc _ _ _ hk⟩
theorem Keeps.drew {F : Nat → Prop} {a w : World} (h : Keeps F a w) : Keeps F a w.drew := ⟨h.os, h.tape, h.output, h.size, h.block⟩
theorem Keeps.below {F : Nat → Prop} {w w' : World} {n : Nat} (h : Keeps F w w') (hn : n ≤ w.heap.size) (hF : ∀ k, F k → n ≤ k) : Below n w w' :=
  ⟨h.os, h.tape, h.output, h.size, fun i hi => h.block i (by omega) (fun hf => by have := hF i hf; omega)⟩
theorem Gr.refl (F : Nat → Prop) (w : World) : Gr F F w w := ⟨Keeps.refl F w, fun _ h => .inl h⟩
theorem Gr.of {F : Nat → Prop} {w w' : World} (h : Keeps F w w') : Gr F F w w' := ⟨h, fun _ h => .inl h⟩
theorem Gr.trans {F F1 F2 : Nat → Prop} {w w1 w2 : World} (h : Gr F F1 w w1) (k : Gr F1 F2 w1 w2) : Gr F F2 w w2 := by
  refine ⟨⟨k.1.os.trans h.1.os, k.1.tape.trans h.1.tape, k.1.output.trans h.1.output, Nat.le_trans h.1.size k.1.size, fun i hi hn => ?_⟩, fun i hi => ?_⟩
  · refine (k.1.block i (Nat.lt_of_lt_of_le hi h.1.size) (fun h1 => ?_)).trans (h.1.block i hi hn)
    rcases h.2 i h1 with h2 | ⟨h2, _⟩
    · exact hn h2
    · omega
  · have h1 := h.1.size
    have h2 := k.1.size
    rcases k.2 i hi with h3 | ⟨h3, h4⟩
    · rcases h.2 i h3 with h4 | ⟨h4, h5⟩
      · exact .inl h4
      · exact .inr ⟨h4, by omega⟩
    · exact .inr ⟨by omega, h4⟩
theorem Gr.ge {F F' : Nat → Prop} {w w' : World} {n : Nat} (h : Gr F F' w w') (hn : n ≤ w.heap.size) (hF : ∀ k, F k → n ≤ k) : ∀ k, F' k → n ≤ k := by
  intro k hk
  rcases h.2 k hk with h1 | ⟨h1, _⟩
  · exact hF k h1
  · omega
theorem Gr.lt {F F' : Nat → Prop} {w w' : World} (h : Gr F F' w w') (hF : ∀ k, F k → k < w.heap.size) : ∀ k, F' k → k < w'.heap.size := by
  intro k hk
  rcases h.2 k hk with h1 | ⟨_, h1⟩
  · exact Nat.lt_of_lt_of_le (hF k h1) h.1.size
  · exact h1
theorem Gr.not {F F' : Nat → Prop} {w w' : World} (h : Gr F F' w w') {b : Nat} (hb : b < w.heap.size) (hn : ¬ F b) : ¬ F' b := by
  intro hf
  rcases h.2 b hf with h1 | ⟨h1, _⟩
  · exact hn h1
  · omega
theorem Bs.kept {F : Nat → Prop} {w w' : World} {a : Option Addr} {len : Nat} {zs : List Nat} (h : Bs w a len zs) (hk : Keeps F w w') (hn : ∀ x, a = some x → 0 < len → ¬ F x.block) : Bs w' a len zs := by
  obtain ⟨hl, hm, hz, hnn, hc⟩ := h
  refine ⟨hl, hm, hz, hnn, fun x hx j hj => ?_⟩
  have h1 := hc x hx j hj
  have e : (x.add j).block = x.block := by unfold Addr.add; split <;> rfl
  refine (World.cell?_of_block (w := w) (hk.block _ (block_lt_of_cell h1) ?_)).trans h1
  rw [e]
  exact hn x hx (by omega)
/-- A slice of bytes that does not lie in F. -/
def BsF (F : Nat → Prop) (w : World) (a : Option Addr) (len : Nat) (zs : List Nat) : Prop := Bs w a len zs ∧ ∀ x, a = some x → 0 < len → ¬ F x.block
theorem BsF.gr {F F' : Nat → Prop} {w w' : World} {a : Option Addr} {len : Nat} {zs : List Nat} (h : BsF F w a len zs) (hk : Gr F F' w w') : BsF F' w' a len zs := by
  refine ⟨h.1.kept hk.1 h.2, fun x hx hl => hk.not ?_ (h.2 x hx hl)⟩
  have e : (x.add 0).block = x.block := by unfold Addr.add; split <;> rfl
  have := block_lt_of_cell (h.1.2.2.2.2 x hx 0 hl)
  omega
theorem BsF.below {F : Nat → Prop} {w w' : World} {a : Option Addr} {len : Nat} {zs : List Nat} (h : BsF F w a len zs) (hb : Below w.heap.size w w') : BsF F w' a len zs := ⟨h.1.below hb, h.2⟩

/-- The disk at block d: what its files hold (no extent: the file is not there), what is free, the fuse. -/
def DiskOf (w : World) (d : Nat) (F : Nat → Prop) (N : Nat) (M : List UInt8 → List Ext) (free fuse : Int) : Prop :=
  ∃ (bm : Nat) (D : DataW Unit) (G C : List UInt8 → Nat),
    w.heap[d]? = some (.cells #[.map (some bm), .int .i64 free, .int .i64 fuse] 38 (0, 0)) ∧ (F d ∧ bm < d) ∧ (F bm ∧ ∀ s, M s ≠ [] → F (G s)) ∧
    w.ownsMap Tryd.prog 9 hd bm N D ∧
    (∀ s, M s = [] → Maps.has D (.string s) = false) ∧
    (∀ s, M s ≠ [] → (∀ z, D.atKey (.string s) z = encS (G s) (M s).length (C s)) ∧
      w.ownsRow 0 124 385 (.slice (some ⟨G s, 0, none⟩) (M s).length (C s)) (M s).length (cellsE (M s)) ∧ ∀ x ∈ M s, x.ok) ∧
    (∀ s s', M s ≠ [] → M s' ≠ [] → s ≠ s' → G s ≠ G s')

theorem ownRow_lt {w : World} {base e size n g c : Nat} {xs : List Value} (h : w.ownsRow base e size (.slice (some ⟨g, 0, none⟩) n c) n xs) : g < w.heap.size := by
  rcases h.2 with ⟨h1, _⟩ | ⟨g', c', cur, hv, _, hh, _⟩
  · cases h1
  · cases hv
    exact (Array.getElem?_eq_some_iff.1 hh).1
theorem own_below {w w' : World} {base e size n : Nat} {v : Value} {xs : List Value} (h : w.ownsRow base e size v n xs) (hb : Below w.heap.size w w') : w'.ownsRow base e size v n xs := by
  obtain ⟨hl, h1⟩ := h
  refine ⟨hl, ?_⟩
  rcases h1 with h1 | ⟨g, cap, cur, hv, hg, hh, r⟩
  · exact .inl h1
  · refine .inr ⟨g, cap, cur, hv, hg, ?_, r⟩
    rw [hb.block g (Array.getElem?_eq_some_iff.1 hh).1]; exact hh
theorem map_below {w w' : World} {k b n : Nat} {D : DataW Unit} (h : w.ownsMap Tryd.prog k hd b n D) (hb : Below w.heap.size w w') : w'.ownsMap Tryd.prog k hd b n D := by
  have hlt := h.lt
  obtain ⟨es, clock, hbk, F, hs, hD⟩ := h
  exact ⟨es, clock, (hb.block b hlt).trans hbk, F, hs, hD⟩
theorem DiskOf.below {w w' : World} {d N : Nat} {F : Nat → Prop} {M : List UInt8 → List Ext} {free fuse : Int} (h : DiskOf w d F N M free fuse) (hb : Below w.heap.size w w') : DiskOf w' d F N M free fuse := by
  obtain ⟨bm, D, G, C, h1, h2, h3, h4, h5, h6, h7⟩ := h
  refine ⟨bm, D, G, C, (hb.block d (Array.getElem?_eq_some_iff.1 h1).1).trans h1, h2, h3, map_below h4 hb, h5, fun s hs => ?_, h7⟩
  obtain ⟨a1, a2, a3⟩ := h6 s hs
  exact ⟨a1, own_below a2 hb, a3⟩
theorem DiskOf.lt {w : World} {d N : Nat} {F : Nat → Prop} {M : List UInt8 → List Ext} {free fuse : Int} (h : DiskOf w d F N M free fuse) : d < w.heap.size := by
  obtain ⟨bm, D, G, C, h1, _⟩ := h
  exact (Array.getElem?_eq_some_iff.1 h1).1
theorem DiskOf.mono {w : World} {d N N' : Nat} {F : Nat → Prop} {M : List UInt8 → List Ext} {free fuse : Int} (h : DiskOf w d F N M free fuse) (hn : N ≤ N') : DiskOf w d F N' M free fuse := by
  obtain ⟨bm, D, G, C, h1, h2, h3, h4, h5⟩ := h
  exact ⟨bm, D, G, C, h1, h2, h3, h4.mono hn, h5⟩

/-- What a look-up tells of a name. -/
theorem DiskOf.look {w : World} {d N : Nat} {F : Nat → Prop} {M : List UInt8 → List Ext} {free fuse : Int} (h : DiskOf w d F N M free fuse) (s : ByteArray) (hs : s.size ≤ maxLen) :
    ∃ bm v, w.heap[d]? = some (.cells #[.map (some bm), .int .i64 free, .int .i64 fuse] 38 (0, 0)) ∧ (Instr.lookup 36 (.map (some bm)) (.string s) false).run Tryd.prog w = .ok v w ∧
      (M s.data.toList = [] → v = .slice none 0 0) ∧ (M s.data.toList ≠ [] → ∃ g c, v = .slice (some ⟨g, 0, none⟩) (M s.data.toList).length c ∧
        w.ownsRow 0 124 385 (.slice (some ⟨g, 0, none⟩) (M s.data.toList).length c) (M s.data.toList).length (cellsE (M s.data.toList)) ∧ ∀ x ∈ M s.data.toList, x.ok) := by
  obtain ⟨bm, D, G, C, h1, h2, h3, h4, h5, h6, h7⟩ := h
  obtain ⟨v, ps, hrun, hv⟩ := h4.lookup lawS Tryd.underlying36 (zeroSl w) hd_nil (Go.WideMaps.keyOf_string_mk Tryd.underlying9 hs)
  refine ⟨bm, v, h1, hrun, fun he => ?_, fun hne => ?_⟩
  · rw [atKey_of_not_has (h5 _ he)] at hv
    exact hd_inv_nil hv
  · obtain ⟨a1, a2, a3⟩ := h6 _ hne
    rw [a1] at hv
    exact ⟨G s.data.toList, C s.data.toList, hd_inv hv, a2, a3⟩
end Go.Proofs.YtidlogeeophogaaDoor
