/- The disk in memory: a struct of three cells, a map of names to slices of extents, an extent of 385 cells. -/
import Derived.Test.YtdppolelakbbiaaGreatDoorMa
import Derived.Maps.OwnSet
import Derived.Maps.Views
import Derived.Deep.MidRow
import Derived.StringKeys
import Derived.Laws.Cover3
import Derived.Laws.Pointers
import Derived.Laws.CopyOwn
import Derived.Maps.AppendAt
import Derived.Deep.WholeRow
namespace Go.Proofs.YtdppolelakbbiaaGreatDoor
open Go.RowKit Go.Maps
set_option linter.unusedVariables false
structure Ext where
 dur : List Nat
 syn : List Nat
 wri : List Nat
 waits : Bool
def Ext.cells (x : Ext) : List Value := vb x.dur ++ (vb x.syn ++ (vb x.wri ++ [.bool x.waits]))
def Ext.ok (x : Ext) : Prop := (x.dur.length = 128 ∧ ∀ y ∈ x.dur, y < 256) ∧ (x.syn.length = 128 ∧ ∀ y ∈ x.syn, y < 256) ∧ (x.wri.length = 128 ∧ ∀ y ∈ x.wri, y < 256)
def zeroE : Ext := ⟨List.replicate 128 0, List.replicate 128 0, List.replicate 128 0, false⟩
def cellsE (l : List Ext) : List Value := (l.map Ext.cells).flatten
theorem Ext.cells_length {x : Ext} (h : x.ok) : x.cells.length = 385 := by
 obtain ⟨⟨h1, _⟩, ⟨h2, _⟩, ⟨h3, _⟩⟩ := h
 simp [Ext.cells, length_vb, h1, h2, h3]
theorem cellsE_length {l : List Ext} (h : ∀ x ∈ l, x.ok) : (cellsE l).length = l.length * 385 := by
 induction l with
 | nil => rfl
 | cons x t ih =>
  have e : cellsE (x :: t) = x.cells ++ cellsE t := rfl
  rw [e, List.length_append, Ext.cells_length (h x (by simp)), ih (fun y hy => h y (by simp [hy])), List.length_cons]
  omega
theorem Ext.cells_one (x : Ext) : ∀ v ∈ x.cells, v.oneCell' = true := by
 intro v hv
 simp only [Ext.cells, List.mem_append, List.mem_singleton] at hv
 rcases hv with hv | hv | hv | rfl
 ·
  exact one_vb _ v hv
 ·
  exact one_vb _ v hv
 ·
  exact one_vb _ v hv
 ·
  rfl
theorem cellsE_snoc (l : List Ext) (x : Ext) : cellsE (l ++ [x]) = cellsE l ++ x.cells := by simp [cellsE]
def encS (g n c : Nat) : DataW Unit := .agg [.lit (.int .u64 g), .lit (.int .u64 n), .lit (.int .u64 c)]
def hd (v : Value) : Option (DataW Unit × List MemPlace) :=
 match v with
 | .slice none 0 0 => some (.nil, [])
 | .slice (some ⟨g, 0, none⟩) n c => some (encS g n c, [])
 | _ => none
theorem hd_nil : hd (.slice none 0 0) = some (.nil, []) := rfl
theorem hd_mk (g n c : Nat) : hd (.slice (some ⟨g, 0, none⟩) n c) = some (encS g n c, []) := rfl
theorem hd_inv {v : Value} {g n c : Nat} {ps : List MemPlace} (h : hd v = some (encS g n c, ps)) : v = .slice (some ⟨g, 0, none⟩) n c := by
 unfold hd at h
 split at h
 ·
  simp [encS] at h
 ·
  simp [encS] at h
  obtain ⟨⟨h1, h2, h3⟩, _⟩ := h
  obtain rfl := Int.ofNat.inj h1
  obtain rfl := Int.ofNat.inj h2
  obtain rfl := Int.ofNat.inj h3
  rfl
 ·
  cases h
theorem hd_inv_nil {v : Value} {ps : List MemPlace} (h : hd v = some (.nil, ps)) : v = .slice none 0 0 := by
 unfold hd at h
 split at h
 ·
  rfl
 ·
  simp [encS] at h
 ·
  cases h
theorem lawS : Keyed Tryz.prog 9 := string_keyed Tryz.underlying9
theorem zeroSl (w : World) : (zeroValue 132).run Tryz.prog w = .ok (.slice none 0 0) w := by kernel_rfl
structure Keeps (F : Nat → Prop) (w w' : World) : Prop where
 os : w'.os = w.os
 tape : w'.tape = w.tape
 output : w'.output = w.output
 size : w.heap.size ≤ w'.heap.size
 block : ∀ k, k < w.heap.size → ¬ F k → w'.heap[k]? = w.heap[k]?
def Gr (F F' : Nat → Prop) (w w' : World) : Prop := Keeps F w w' ∧ ∀ k, F' k → F k ∨ (w.heap.size ≤ k ∧ k < w'.heap.size)
theorem Keeps.refl (F : Nat → Prop) (w : World) : Keeps F w w := ⟨rfl, rfl, rfl, Nat.le_refl _, fun _ _ _ => rfl⟩
theorem Keeps.trans {F : Nat → Prop} {a b c : World} (h : Keeps F a b) (k : Keeps F b c) : Keeps F a c :=
 ⟨k.os.trans h.os, k.tape.trans h.tape, k.output.trans h.output, lQ1 h.size k.size, fun i hi hn => (k.block i (lQ2 hi h.size) hn).trans (h.block i hi hn)⟩
theorem Keeps.of_below {F : Nat → Prop} {w w' : World} (h : Below w.heap.size w w') : Keeps F w w' := ⟨h.os, h.tape, h.output, h.size, fun i hi _ => h.block i hi⟩
theorem Keeps.of_grown {F : Nat → Prop} {w w' : World} {row : Option Nat} (h : w.grownBy w' row) (hr : ∀ k, row = some k → F k) : Keeps F w w' := ⟨h.os, h.tape, h.output, h.size, fun i hi hn => h.block i hi (fun e => hn (hr i e.symm))⟩
theorem Keeps.setCell {F : Nat → Prop} {a w : World} (h : Keeps F a w) {p : Addr} (hp : F p.block) (u : Value) : Keeps F a (w.setCell p u) :=
 h.trans ⟨rfl, rfl, rfl, by simp [World.setCell], fun k _ hk => Below.heap_setCell _ _ _ _ (fun e => hk (e ▸ hp))⟩
theorem Keeps.alloc {F : Nat → Prop} {a w : World} (h : Keeps F a w) (o : Obj) : Keeps F a (w.alloc o) :=
 h.trans ⟨rfl, rfl, rfl, by simp, fun k hk _ => Below.heap_alloc _ _ _ hk⟩
theorem Keeps.drew {F : Nat → Prop} {a w : World} (h : Keeps F a w) : Keeps F a w.drew := ⟨h.os, h.tape, h.output, h.size, h.block⟩
theorem Keeps.below {F : Nat → Prop} {w w' : World} {n : Nat} (h : Keeps F w w') (hn : n ≤ w.heap.size) (hF : ∀ k, F k → n ≤ k) : Below n w w' :=
 ⟨h.os, h.tape, h.output, h.size, fun i hi => h.block i (by omega) (fun hf => by have := hF i hf; omega)⟩
theorem Gr.refl (F : Nat → Prop) (w : World) : Gr F F w w := ⟨Keeps.refl F w, fun _ h => .inl h⟩
theorem Gr.of {F : Nat → Prop} {w w' : World} (h : Keeps F w w') : Gr F F w w' := ⟨h, fun _ h => .inl h⟩
theorem Gr.trans {F F1 F2 : Nat → Prop} {w w1 w2 : World} (h : Gr F F1 w w1) (k : Gr F1 F2 w1 w2) : Gr F F2 w w2 := by
 refine ⟨⟨k.1.os.trans h.1.os, k.1.tape.trans h.1.tape, k.1.output.trans h.1.output, lQ1 h.1.size k.1.size, fun i hi hn => ?_⟩, fun i hi => ?_⟩
 ·
  refine (k.1.block i (lQ2 hi h.1.size) (fun h1 => ?_)).trans (h.1.block i hi hn)
  rcases h.2 i h1 with h2 | ⟨h2, _⟩
  ·
   exact hn h2
  ·
   omega
 ·
  have h1 := h.1.size
  have h2 := k.1.size
  rcases k.2 i hi with h3 | ⟨h3, h4⟩
  ·
   rcases h.2 i h3 with h4 | ⟨h4, h5⟩
   ·
    exact .inl h4
   ·
    exact .inr ⟨h4, by omega⟩
  ·
   exact .inr ⟨by omega, h4⟩
theorem Gr.lt {F F' : Nat → Prop} {w w' : World} (h : Gr F F' w w') (hF : ∀ k, F k → k < w.heap.size) : ∀ k, F' k → k < w'.heap.size := by
 intro k hk
 rcases h.2 k hk with h1 | ⟨_, h1⟩
 ·
  exact lQ2 (hF k h1) h.1.size
 ·
  exact h1
theorem Gr.not {F F' : Nat → Prop} {w w' : World} (h : Gr F F' w w') {b : Nat} (hb : b < w.heap.size) (hn : ¬ F b) : ¬ F' b := by
 intro hf
 rcases h.2 b hf with h1 | ⟨h1, _⟩
 ·
  exact hn h1
 ·
  omega
theorem Bs.kept {F : Nat → Prop} {w w' : World} {a : Option Addr} {len : Nat} {zs : List Nat} (h : Bs w a len zs) (hk : Keeps F w w') (hn : ∀ x, a = some x → 0 < len → ¬ F x.block) : Bs w' a len zs := by
 obtain ⟨hl, hm, hz, hnn, hc⟩ := h
 refine ⟨hl, hm, hz, hnn, fun x hx j hj => ?_⟩
 have h1 := hc x hx j hj
 have e : (x.add j).block = x.block := by unfold Addr.add; split <;> rfl
 refine (World.cell?_of_block (w := w) (hk.block _ (block_lt_of_cell h1) ?_)).trans h1
 rw [e]
 exact hn x hx (by omega)
def BsF (F : Nat → Prop) (w : World) (a : Option Addr) (len : Nat) (zs : List Nat) : Prop := Bs w a len zs ∧ ∀ x, a = some x → 0 < len → ¬ F x.block
theorem BsF.gr {F F' : Nat → Prop} {w w' : World} {a : Option Addr} {len : Nat} {zs : List Nat} (h : BsF F w a len zs) (hk : Gr F F' w w') : BsF F' w' a len zs := by
 refine ⟨h.1.kept hk.1 h.2, fun x hx hl => hk.not ?_ (h.2 x hx hl)⟩
 have e : (x.add 0).block = x.block := by unfold Addr.add; split <;> rfl
 have := block_lt_of_cell (h.1.2.2.2.2 x hx 0 hl)
 omega
theorem BsF.below {F : Nat → Prop} {w w' : World} {a : Option Addr} {len : Nat} {zs : List Nat} (h : BsF F w a len zs) (hb : Below w.heap.size w w') : BsF F w' a len zs := ⟨h.1.below hb, h.2⟩
def DiskOf (w : World) (d : Nat) (F : Nat → Prop) (N : Nat) (M : List UInt8 → List Ext) (free fuse : Int) : Prop :=
 ∃ (bm : Nat) (D : DataW Unit) (G C : List UInt8 → Nat),
  w.heap[d]? = some (.cells #[.map (some bm), .int .i64 free, .int .i64 fuse] 124 (0, 0)) ∧ (F d ∧ bm < d) ∧ (F bm ∧ ∀ s, M s ≠ [] → F (G s)) ∧
  w.ownsMap Tryz.prog 9 hd bm N D ∧
  (∀ s, M s = [] → Maps.has D (.string s) = false) ∧
  (∀ s, M s ≠ [] → (∀ z, D.atKey (.string s) z = encS (G s) (M s).length (C s)) ∧
   w.ownsRow 0 136 385 (.slice (some ⟨G s, 0, none⟩) (M s).length (C s)) (M s).length (cellsE (M s)) ∧ ∀ x ∈ M s, x.ok) ∧
  (∀ s s', M s ≠ [] → M s' ≠ [] → s ≠ s' → G s ≠ G s')
theorem ownRow_lt {w : World} {base e size n g c : Nat} {xs : List Value} (h : w.ownsRow base e size (.slice (some ⟨g, 0, none⟩) n c) n xs) : g < w.heap.size := by
 rcases h.2 with ⟨h1, _⟩ | ⟨g', c', cur, hv, _, hh, _⟩
 ·
  cases h1
 ·
  cases hv
  exact (lQ3.1 hh).1
theorem own_below {w w' : World} {base e size n : Nat} {v : Value} {xs : List Value} (h : w.ownsRow base e size v n xs) (hb : Below w.heap.size w w') : w'.ownsRow base e size v n xs := by
 obtain ⟨hl, h1⟩ := h
 refine ⟨hl, ?_⟩
 rcases h1 with h1 | ⟨g, cap, cur, hv, hg, hh, r⟩
 ·
  exact .inl h1
 ·
  refine .inr ⟨g, cap, cur, hv, hg, ?_, r⟩
  rw [hb.block g (lQ3.1 hh).1]; exact hh
theorem map_below {w w' : World} {k b n : Nat} {D : DataW Unit} (h : w.ownsMap Tryz.prog k hd b n D) (hb : Below w.heap.size w w') : w'.ownsMap Tryz.prog k hd b n D := by
 have hlt := h.lt
 obtain ⟨es, clock, hbk, F, hs, hD⟩ := h
 exact ⟨es, clock, (hb.block b hlt).trans hbk, F, hs, hD⟩
theorem DiskOf.below {w w' : World} {d N : Nat} {F : Nat → Prop} {M : List UInt8 → List Ext} {free fuse : Int} (h : DiskOf w d F N M free fuse) (hb : Below w.heap.size w w') : DiskOf w' d F N M free fuse := by
 obtain ⟨bm, D, G, C, h1, h2, h3, h4, h5, h6, h7⟩ := h
 refine ⟨bm, D, G, C, (hb.block d (lQ3.1 h1).1).trans h1, h2, h3, map_below h4 hb, h5, fun s hs => ?_, h7⟩
 obtain ⟨a1, a2, a3⟩ := h6 s hs
 exact ⟨a1, own_below a2 hb, a3⟩
theorem DiskOf.lt {w : World} {d N : Nat} {F : Nat → Prop} {M : List UInt8 → List Ext} {free fuse : Int} (h : DiskOf w d F N M free fuse) : d < w.heap.size := by
 obtain ⟨bm, D, G, C, h1, _⟩ := h
 exact (lQ3.1 h1).1
theorem DiskOf.mono {w : World} {d N N' : Nat} {F : Nat → Prop} {M : List UInt8 → List Ext} {free fuse : Int} (h : DiskOf w d F N M free fuse) (hn : N ≤ N') : DiskOf w d F N' M free fuse := by
 obtain ⟨bm, D, G, C, h1, h2, h3, h4, h5⟩ := h
 exact ⟨bm, D, G, C, h1, h2, h3, h4.mono hn, h5⟩
theorem DiskOf.look {w : World} {d N : Nat} {F : Nat → Prop} {M : List UInt8 → List Ext} {free fuse : Int} (h : DiskOf w d F N M free fuse) (s : ByteArray) (hs : s.size ≤ maxLen) :
  ∃ bm v, w.heap[d]? = some (.cells #[.map (some bm), .int .i64 free, .int .i64 fuse] 124 (0, 0)) ∧ (Instr.lookup 122 (.map (some bm)) (.string s) false).run Tryz.prog w = .ok v w ∧
   (M s.data.toList = [] → v = .slice none 0 0) ∧ (M s.data.toList ≠ [] → ∃ g c, v = .slice (some ⟨g, 0, none⟩) (M s.data.toList).length c ∧
    w.ownsRow 0 136 385 (.slice (some ⟨g, 0, none⟩) (M s.data.toList).length c) (M s.data.toList).length (cellsE (M s.data.toList)) ∧ ∀ x ∈ M s.data.toList, x.ok) := by
 obtain ⟨bm, D, G, C, h1, h2, h3, h4, h5, h6, h7⟩ := h
 obtain ⟨v, ps, hrun, hv⟩ := h4.lookup lawS Tryz.underlying122 (zeroSl w) hd_nil (Go.WideMaps.keyOf_string_mk Tryz.underlying9 hs)
 refine ⟨bm, v, h1, hrun, fun he => ?_, fun hne => ?_⟩
 ·
  rw [atKey_of_not_has (h5 _ he)] at hv
  exact hd_inv_nil hv
 ·
  obtain ⟨a1, a2, a3⟩ := h6 _ hne
  rw [a1] at hv
  exact ⟨G s.data.toList, C s.data.toList, hd_inv hv, a2, a3⟩
end Go.Proofs.YtdppolelakbbiaaGreatDoor

namespace Go.Proofs.YtdppolelakbbiaaGreatDoor
open Go.RowKit Go.Maps
set_option linter.unusedVariables false
set_option maxHeartbeats 1000000 in
theorem isMade_any (w : World) (d : Nat) (F : Nat → Prop) (N : Nat) (M : List UInt8 → List Ext) (free fuse : Int) (h : DiskOf w d F N M free fuse) :
  Calls Tryz.prog 100 #[.pointer (some ⟨d, 0, none⟩)] w fun e w' => e = .returned (.bool true) ∧ w' = w := by
 obtain ⟨bm, D, G, C, h1, _⟩ := h
 have c0 : w.cell? ⟨d, 0, none⟩ = some (.map (some bm)) := by rw [cell_of_row _ _ _ _ _ _ h1]; rfl
 clear h1
 have hmn := fun (wx : World) (m : Option Nat) => run_neq_map_nil (P := Tryz.prog) wx 122 9 132 m Tryz.underlying122
 have hpn := fun (wx : World) (p : Option Addr) => run_neq_pointer_nil (P := Tryz.prog) wx 24 p (by kernel_rfl)
 go_enter Tryz.func100, Tryz.ntmps100
 go_wp2
 go_ret
 exact ⟨rfl, rfl⟩
set_option maxHeartbeats 1000000 in
theorem burn_zero (w : World) (d : Nat) (F : Nat → Prop) (N : Nat) (M : List UInt8 → List Ext) (free : Int) (h : DiskOf w d F N M free 0) :
  Calls Tryz.prog 101 #[.pointer (some ⟨d, 0, none⟩)] w fun e w' => e = .returned (.bool false) ∧ w' = w := by
 obtain ⟨bm, D, G, C, h1, _⟩ := h
 have c2 : w.cell? ⟨d, 2, none⟩ = some (.int .i64 0) := by rw [cell_of_row _ _ _ _ _ _ h1]; rfl
 clear h1
 go_enter Tryz.func101, Tryz.ntmps101
 go_wp2
 go_ret
 exact ⟨rfl, rfl⟩
set_option maxHeartbeats 1000000 in
theorem canIn_any (w : World) (c : Nat) (hc : c < 256) :
  Calls Tryz.prog 131 #[.int .u8 c] w fun e w' => e = .returned (.bool (decide ((97 ≤ c ∧ c ≤ 122) ∨ (48 ≤ c ∧ c ≤ 57) ∨ c = 46))) ∧ w' = w := by
 by_cases h1 : 97 ≤ c
 ·
  by_cases h2 : c ≤ 122
  ·
   have e : decide ((97 ≤ c ∧ c ≤ 122) ∨ (48 ≤ c ∧ c ≤ 57) ∨ c = 46) = true := by simp [h1, h2]
   rw [e]
   clear e
   have h1' : (97 : Int) ≤ (c : Int) := by omega
   have h2' : (c : Int) ≤ 122 := by omega
   go_enter Tryz.func131, Tryz.ntmps131
   go_wp2
   go_ret
   exact ⟨rfl, rfl⟩
  ·
   have e : decide ((97 ≤ c ∧ c ≤ 122) ∨ (48 ≤ c ∧ c ≤ 57) ∨ c = 46) = false := by simp; omega
   rw [e]
   clear e
   have h1' : (97 : Int) ≤ (c : Int) := by omega
   have h2' : ¬ (c : Int) ≤ 122 := by omega
   have h3' : (48 : Int) ≤ (c : Int) := by omega
   have h4' : ¬ (c : Int) ≤ 57 := by omega
   have h5' : ((c : Int) == 46) = false := beq_eq_false_iff_ne.2 (by omega)
   go_enter Tryz.func131, Tryz.ntmps131
   go_wp2
   go_ret
   exact ⟨rfl, rfl⟩
 ·
  have h1' : ¬ (97 : Int) ≤ (c : Int) := by omega
  by_cases h3 : 48 ≤ c
  ·
   have h3' : (48 : Int) ≤ (c : Int) := by omega
   by_cases h4 : c ≤ 57
   ·
    have e : decide ((97 ≤ c ∧ c ≤ 122) ∨ (48 ≤ c ∧ c ≤ 57) ∨ c = 46) = true := by simp [h3, h4]
    rw [e]
    clear e
    have h4' : (c : Int) ≤ 57 := by omega
    go_enter Tryz.func131, Tryz.ntmps131
    go_wp2
    go_ret
    exact ⟨rfl, rfl⟩
   ·
    have e : decide ((97 ≤ c ∧ c ≤ 122) ∨ (48 ≤ c ∧ c ≤ 57) ∨ c = 46) = false := by simp; omega
    rw [e]
    clear e
    have h4' : ¬ (c : Int) ≤ 57 := by omega
    have h5' : ((c : Int) == 46) = false := beq_eq_false_iff_ne.2 (by omega)
    go_enter Tryz.func131, Tryz.ntmps131
    go_wp2
    go_ret
    exact ⟨rfl, rfl⟩
  ·
   have h3' : ¬ (48 : Int) ≤ (c : Int) := by omega
   by_cases h5 : c = 46
   ·
    subst h5
    go_enter Tryz.func131, Tryz.ntmps131
    go_wp2
    go_ret
    exact ⟨rfl, rfl⟩
   ·
    have e : decide ((97 ≤ c ∧ c ≤ 122) ∨ (48 ≤ c ∧ c ≤ 57) ∨ c = 46) = false := by simp; omega
    rw [e]
    clear e
    have h5' : ((c : Int) == 46) = false := beq_eq_false_iff_ne.2 (by omega)
    go_enter Tryz.func131, Tryz.ntmps131
    go_wp2
    go_ret
    exact ⟨rfl, rfl⟩
end Go.Proofs.YtdppolelakbbiaaGreatDoor

namespace Go.Proofs.YtdppolelakbbiaaGreatDoor
open Go.RowKit Go.Maps
set_option linter.unusedVariables false
def Unmade (w : World) (v : Value) : Prop := v = .pointer none ∨ ∃ b, v = .pointer (some ⟨b, 0, none⟩) ∧ w.cell? ⟨b, 0, none⟩ = some (.map none) ∧ b < w.heap.size
theorem Unmade.below {w w' : World} {v : Value} (h : Unmade w v) (hb : Below w.heap.size w w') : Unmade w' v := by
 rcases h with h | ⟨b, h1, h2, h3⟩
 ·
  exact .inl h
 ·
  exact .inr ⟨b, h1, (hb.cell (p := ⟨b, 0, none⟩) h3).trans h2, lQ2 h3 hb.size⟩
end Go.Proofs.YtdppolelakbbiaaGreatDoor

namespace Go.Proofs.YtdppolelakbbiaaGreatDoor
open Go.RowKit Go.Maps
set_option linter.unusedVariables false
def inB (c : Nat) : Bool := decide ((97 ≤ c ∧ c ≤ 122) ∨ (48 ≤ c ∧ c ≤ 57) ∨ c = 46)
def nameB (l : List UInt8) : Bool := decide (1 ≤ l.length ∧ l.length ≤ 24) && l.all fun c => inB c.toNat
theorem own_setCell {w : World} {base e size n : Nat} {v : Value} {xs : List Value} (h : w.ownsRow base e size v n xs) {a : Addr} (ha : v.ownBlock ≠ some a.block) (u : Value) : (w.setCell a u).ownsRow base e size v n xs := by
 obtain ⟨hl, h1⟩ := h
 refine ⟨hl, ?_⟩
 rcases h1 with h1 | ⟨g, cap, cur, hv, hg, hh, r⟩
 ·
  exact .inl h1
 ·
  refine .inr ⟨g, cap, cur, hv, hg, ?_, r⟩
  subst hv
  rw [heap_setCell_other _ _ _ _ (fun e => ha (by rw [e]; rfl))]; exact hh
theorem row_ne {w : World} {base n g c d : Nat} {xs : List Value} {cs : Array Value} (h : w.ownsRow base 136 385 (.slice (some ⟨g, 0, none⟩) n c) n xs) (hd : w.heap[d]? = some (.cells cs 124 (0, 0))) : g ≠ d := by
 rintro rfl
 rcases h.2 with ⟨h1, _⟩ | ⟨g', c', cur, hv, _, hh, _⟩
 ·
  cases h1
 ·
  cases hv
  rw [hd] at hh
  simp at hh
theorem map_ne {w : World} {k b n d : Nat} {D : DataW Unit} {cs : Array Value} {t : TypeId} {fr : Nat × Nat} (h : w.ownsMap Tryz.prog k hd b n D) (hd : w.heap[d]? = some (.cells cs t fr)) : b ≠ d := by
 rintro rfl
 obtain ⟨es, clock, hb, _⟩ := h
 rw [hd] at hb
 simp at hb
theorem DiskOf.fused {w : World} {d N : Nat} {F : Nat → Prop} {M : List UInt8 → List Ext} {free fuse : Int} (h : DiskOf w d F N M free fuse) (f' : Int) : DiskOf (w.setCell ⟨d, 2, none⟩ (.int .i64 f')) d F N M free f' := by
 obtain ⟨bm, D, G, C, h1, h2, h3, h4, h5, h6, h7⟩ := h
 refine ⟨bm, D, G, C, ?_, h2, h3, h4.setCell (map_ne h4 h1) _, h5, fun s hs => ?_, h7⟩
 ·
  rw [setCell_eq_setRow _ _ _ _ _ _ _ h1]; exact setRow_heap _ _ _ _ _ _ h1
 ·
  obtain ⟨a1, a2, a3⟩ := h6 s hs
  exact ⟨a1, own_setCell (a := ⟨d, 2, none⟩) a2 (fun e => row_ne a2 h1 (lQ5 e)) _, a3⟩
theorem DiskOf.freed {w : World} {d N : Nat} {F : Nat → Prop} {M : List UInt8 → List Ext} {free fuse : Int} (h : DiskOf w d F N M free fuse) (f' : Int) : DiskOf (w.setCell ⟨d, 1, none⟩ (.int .i64 f')) d F N M f' fuse := by
 obtain ⟨bm, D, G, C, h1, h2, h3, h4, h5, h6, h7⟩ := h
 refine ⟨bm, D, G, C, ?_, h2, h3, h4.setCell (map_ne h4 h1) _, h5, fun s hs => ?_, h7⟩
 ·
  rw [setCell_eq_setRow _ _ _ _ _ _ _ h1]; exact setRow_heap _ _ _ _ _ _ h1
 ·
  obtain ⟨a1, a2, a3⟩ := h6 s hs
  exact ⟨a1, own_setCell (a := ⟨d, 1, none⟩) a2 (fun e => row_ne a2 h1 (lQ5 e)) _, a3⟩
theorem DiskOf.base {w : World} {d N : Nat} {F : Nat → Prop} {M : List UInt8 → List Ext} {free fuse : Int} (h : DiskOf w d F N M free fuse) : F d := by
 obtain ⟨bm, D, G, C, h1, h2, _⟩ := h
 exact h2.1
def burnt (fuse : Int) : Int := if fuse = -1 then -1 else fuse - 1
set_option maxHeartbeats 1000000 in
theorem burn_yes (w : World) (d : Nat) (F : Nat → Prop) (N : Nat) (M : List UInt8 → List Ext) (free fuse : Int) (h : DiskOf w d F N M free fuse) (h0 : fuse ≠ 0) (hf : -1 ≤ fuse) (hf2 : fuse ≤ 9223372036854775807) :
  Calls Tryz.prog 101 #[.pointer (some ⟨d, 0, none⟩)] w fun e w' => e = .returned (.bool true) ∧ DiskOf w' d F N M free (burnt fuse) ∧ Gr F F w w' := by
 have hB := h.base
 have h' := h.fused (fuse - 1)
 have h'' := h
 obtain ⟨bm, D, G, C, h1, _⟩ := h
 have c2 : w.cell? ⟨d, 2, none⟩ = some (.int .i64 fuse) := by rw [cell_of_row _ _ _ _ _ _ h1]; rfl
 have f2 := frozen_of_row _ _ 2 _ _ h1
 clear h1
 have e0 : (fuse == 0) = false := beq_eq_false_iff_ne.2 h0
 by_cases hm : fuse = -1
 ·
  subst hm
  go_enter Tryz.func101, Tryz.ntmps101
  go_wp2
  go_ret
  exact ⟨rfl, h'', Gr.refl _ _⟩
 ·
  have e1 : (fuse != -1) = true := bne_iff_ne.2 hm
  have hw : IntKind.i64.wrap (fuse - 1) = fuse - 1 := by rw [IntKind.wrap_i64]; omega
  have e2 : burnt fuse = fuse - 1 := by unfold burnt; rw [if_neg hm]
  have HE : Hid (burnt fuse = fuse - 1) := e2
  clear e2
  go_enter Tryz.func101, Tryz.ntmps101
  go_wp2
  go_ret
  rw [HE.out]
  exact ⟨rfl, h', Gr.of ((Keeps.refl _ _).setCell hB _)⟩
theorem diskOf_made (w : World) (r : Int) :
  DiskOf ((w.alloc (.map #[] 0)).alloc (.cells #[.map (some w.heap.size), .int .i64 r, .int .i64 (-1)] 124)) (w.heap.size + 1) (fun k => w.heap.size ≤ k ∧ k < w.heap.size + 2) 0 (fun _ => []) r (-1) := by
 refine ⟨w.heap.size, .map [], fun _ => 0, fun _ => 0, ?_, ⟨⟨by omega, by omega⟩, Nat.lt_succ_self _⟩, ⟨⟨Nat.le_refl _, by omega⟩, fun s h => absurd rfl h⟩, (World.ownsMap_made w _ _ _).alloc _, fun _ _ => rfl, fun s h => absurd rfl h, fun s s' h => absurd rfl h⟩
 rw [show w.heap.size + 1 = (w.alloc (.map #[] 0)).heap.size from by simp]
 exact heap_alloc_new _ _
set_option maxHeartbeats 1000000 in
theorem new_any (w : World) (r : Nat) (h : r ≤ 100000) :
  Calls Tryz.prog 36 #[.int .i64 r] w fun e w' => e = .returned (.tuple #[.pointer (some ⟨w.heap.size + 1, 0, none⟩), .int .i64 0]) ∧ DiskOf w' (w.heap.size + 1) (fun k => w.heap.size ≤ k ∧ k < w.heap.size + 2) 0 (fun _ => []) r (-1) ∧ Below w.heap.size w w' ∧ w'.heap.size = w.heap.size + 2 := by
 have hmm := @run_makeMap Tryz.prog
 have h1 : ¬ ((r : Int) < 0) := by omega
 have h2 : ¬ ((100000 : Int) < r) := by omega
 go_enter Tryz.func36, Tryz.ntmps36
 go_wp2
 go_ret2
 exact ⟨rfl, diskOf_made w r, ((Below.refl _ _).alloc (Nat.le_refl _) _).alloc (by simp) _, by simp⟩
set_option maxHeartbeats 1000000 in
theorem canName_loop (w : World) (s : ByteArray) (h1 : ((s.size : Int) == 0) = false) (h2 : ¬ (24 : Int) < s.size) (h3 : s.size ≤ 24) (r : Bool) (HR : Hid (r = s.data.toList.all fun c => inB c.toNat)) :
  Calls Tryz.prog 107 #[.string s] w fun e w' => e = .returned (.bool r) ∧ w' = w := by
 go_enter Tryz.func107, Tryz.ntmps107
 go_wp2
 go_loop [14] (fun iv => ∃ k : Nat, k ≤ s.size ∧ iv = .int .i64 k ∧ ((s.data.toList.take k).all fun c => inB c.toNat) = true) (fun iv => s.size - (intOf iv).toNat)
 case atStart => exact ⟨0, Nat.zero_le _, rfl, rfl⟩
 case round =>
  obtain ⟨k, hk, rfl, hall⟩ := hrel
  by_cases hlt : k < s.size
  ·
   have hlt' : (k : Int) < (s.size : Int) := by omega
   have hstep : ((s.data.toList.take (k + 1)).all fun c => inB c.toNat) = inB s[k].toNat := by
    have hl : k < s.data.toList.length := hlt
    rw [List.take_succ_eq_append_getElem hl, List.all_append, hall, Bool.true_and]
    simp
    rfl
   have hfull : inB s[k].toNat = false → (s.data.toList.all fun c => inB c.toNat) = false := by
    intro hf
    rw [← hstep] at hf
    rw [Bool.eq_false_iff] at hf ⊢
    intro ha
    exact hf (List.all_eq_true.2 fun c hc => List.all_eq_true.1 ha c (List.mem_of_mem_take hc))
   have hc := s[k].toNat_lt
   have HS : Hid (_ = _) := hstep
   have HF : Hid (_ → _) := hfull
   clear hstep hfull
   go_wp2_with fail
   refine (canIn_any _ s[k].toNat hc).mono ?_
   rintro e w2 ⟨rfl, rfl⟩
   cases hb : decide ((97 ≤ s[k].toNat ∧ s[k].toNat ≤ 122) ∨ (48 ≤ s[k].toNat ∧ s[k].toNat ≤ 57) ∨ s[k].toNat = 46) with
   | true =>
    have HB : Hid (inB s[k].toNat = true) := hb
    clear hb
    go_wp2
    go_round
    case rel => exact ⟨k + 1, by omega, by go_num, by rw [HS.out]; exact HB.out⟩
    case measure => simp [intOf]; omega
   | false =>
    have HB : Hid (inB s[k].toNat = false) := hb
    clear hb
    go_wp2
    go_ret
    have e : r = false := HR.out.trans (HF.out HB.out)
    subst e
    exact ⟨rfl, rfl⟩
  ·
   obtain rfl : k = s.size := by omega
   have ht : s.data.toList.take s.size = s.data.toList := List.take_of_length_le (Nat.le_of_eq rfl)
   have ha : (s.data.toList.all fun c => inB c.toNat) = true := by
    rw [ht] at hall
    exact hall
   clear ht
   have HA : Hid (_ = _) := ha
   clear ha hall
   go_wp2
   go_ret
   have e : r = true := HR.out.trans HA.out
   subst e
   exact ⟨rfl, rfl⟩
set_option maxHeartbeats 1000000 in
theorem canName_any (w : World) (s : ByteArray) (hm : s.size ≤ maxLen) :
  Calls Tryz.prog 107 #[.string s] w fun e w' => e = .returned (.bool (nameB s.data.toList)) ∧ w' = w := by
 unfold maxLen at hm
 have hl : s.data.toList.length = s.size := rfl
 by_cases h0 : s.size = 0
 ·
  have e : nameB s.data.toList = false := by unfold nameB; rw [hl, decide_eq_false (by omega)]; rfl
  have h0' : ((s.size : Int) == 0) = true := by rw [beq_iff_eq]; omega
  rw [e]
  clear e
  go_enter Tryz.func107, Tryz.ntmps107
  go_wp2
  go_ret
  exact ⟨rfl, rfl⟩
 ·
  have h0' : ((s.size : Int) == 0) = false := beq_eq_false_iff_ne.2 (by omega)
  by_cases h24 : 24 < s.size
  ·
   have e : nameB s.data.toList = false := by unfold nameB; rw [hl, decide_eq_false (by omega)]; rfl
   have h24' : (24 : Int) < s.size := by omega
   rw [e]
   clear e
   go_enter Tryz.func107, Tryz.ntmps107
   go_wp2
   go_ret
   exact ⟨rfl, rfl⟩
  ·
   have e : nameB s.data.toList = s.data.toList.all fun c => inB c.toNat := by unfold nameB; rw [hl, decide_eq_true (by omega), Bool.true_and]
   rw [e]
   exact canName_loop w s h0' (by omega) (by omega) _ rfl
end Go.Proofs.YtdppolelakbbiaaGreatDoor

namespace Go.Proofs.YtdppolelakbbiaaGreatDoor
open Go.RowKit Go.Maps
set_option linter.unusedVariables false
def DiskIs (w : World) (d : Nat) (F : Nat → Prop) (N : Nat) (M : List UInt8 → List Ext) (free fuse : Int) (bm : Nat) (D : DataW Unit) (G C : List UInt8 → Nat) : Prop :=
  w.heap[d]? = some (.cells #[.map (some bm), .int .i64 free, .int .i64 fuse] 124 (0, 0)) ∧ (F d ∧ bm < d) ∧ (F bm ∧ ∀ s, M s ≠ [] → F (G s)) ∧
  w.ownsMap Tryz.prog 9 hd bm N D ∧
  (∀ s, M s = [] → Maps.has D (.string s) = false) ∧
  (∀ s, M s ≠ [] → (∀ z, D.atKey (.string s) z = encS (G s) (M s).length (C s)) ∧
   w.ownsRow 0 136 385 (.slice (some ⟨G s, 0, none⟩) (M s).length (C s)) (M s).length (cellsE (M s)) ∧ ∀ x ∈ M s, x.ok) ∧
  (∀ s s', M s ≠ [] → M s' ≠ [] → s ≠ s' → G s ≠ G s')
theorem DiskOf.is {w : World} {d N : Nat} {F : Nat → Prop} {M : List UInt8 → List Ext} {free fuse : Int} (h : DiskOf w d F N M free fuse) : ∃ bm D G C, DiskIs w d F N M free fuse bm D G C := h
theorem DiskIs.of {w : World} {d N : Nat} {F : Nat → Prop} {M : List UInt8 → List Ext} {free fuse : Int} {bm : Nat} {D : DataW Unit} {G C : List UInt8 → Nat} (h : DiskIs w d F N M free fuse bm D G C) : DiskOf w d F N M free fuse := ⟨bm, D, G, C, h⟩
def upd (M : List UInt8 → List Ext) (s : List UInt8) (l : List Ext) : List UInt8 → List Ext := fun t => if t = s then l else M t
theorem upd_same (M : List UInt8 → List Ext) (s : List UInt8) (l : List Ext) : upd M s l s = l := by simp [upd]
theorem upd_other (M : List UInt8 → List Ext) (s t : List UInt8) (l : List Ext) (h : t ≠ s) : upd M s l t = M t := by simp [upd, h]
theorem splice_mid {α : Type} (A X Z c : List α) (o : Nat) (h : o + c.length ≤ X.length) : splice (A ++ (X ++ Z)) (A.length + o) c = A ++ (splice X o c ++ Z) := by
 unfold splice
 rw [List.take_append, List.take_of_length_le (by omega), show A.length + o - A.length = o by omega, List.take_append_of_le_length (by omega)]
 rw [List.drop_append, List.drop_of_length_le (by omega), List.nil_append, show A.length + o + c.length - A.length = o + c.length by omega, List.drop_append_of_le_length (by omega)]
 simp
theorem splice_head {α : Type} (X Z c : List α) (h : c.length = X.length) : splice (X ++ Z) 0 c = c ++ Z := by
 unfold splice
 rw [List.take_zero, List.nil_append, Nat.zero_add, h, List.drop_append_of_le_length (Nat.le_refl _), List.drop_of_length_le (Nat.le_refl _), List.nil_append]
theorem splice_next {α : Type} (A X Z c : List α) (o : Nat) (ho : A.length = o) (h : c.length = X.length) : splice (A ++ (X ++ Z)) o c = A ++ (c ++ Z) := by
 have := splice_mid A X Z c 0 (by omega)
 rw [Nat.add_zero, ho] at this
 rw [this]
 congr 1
 have e := splice_head X [] c h
 rw [List.append_nil, List.append_nil] at e
 rw [e]
theorem cellsE_set (l : List Ext) (i : Nat) (hi : i < l.length) (y : Ext) : cellsE (l.set i y) = cellsE (l.take i) ++ (y.cells ++ cellsE (l.drop (i + 1))) := by
 rw [List.set_eq_take_append_cons_drop, if_pos hi]
 simp [cellsE]
theorem cellsE_split (l : List Ext) (i : Nat) (hi : i < l.length) : cellsE l = cellsE (l.take i) ++ (l[i].cells ++ cellsE (l.drop (i + 1))) := by
 have := cellsE_set l i hi l[i]
 rwa [List.set_getElem_self] at this
theorem cellsE_splice (l : List Ext) (hok : ∀ x ∈ l, x.ok) (i : Nat) (hi : i < l.length) (o : Nat) (c : List Value) (y : Ext) (ho : o + c.length ≤ 385) (hy : splice l[i].cells o c = y.cells) :
  splice (cellsE l) (i * 385 + o) c = cellsE (l.set i y) := by
 have hl : (cellsE (l.take i)).length = i * 385 := by
  rw [cellsE_length (fun x hx => hok x (List.mem_of_mem_take hx)), List.length_take, Nat.min_eq_left (by omega)]
 rw [cellsE_split l i hi, cellsE_set l i hi y, ← hl, splice_mid _ _ _ _ _ (by rw [Ext.cells_length (hok _ (List.getElem_mem hi))]; exact ho), hy]
theorem cells_dur {x : Ext} (h : x.ok) (c : List Nat) (hc : c.length = 128) : splice x.cells 0 (vb c) = ({ x with dur := c } : Ext).cells :=
 splice_head _ _ _ (by rw [length_vb, length_vb, hc, h.1.1])
theorem cells_syn {x : Ext} (h : x.ok) (c : List Nat) (hc : c.length = 128) : splice x.cells 128 (vb c) = ({ x with syn := c } : Ext).cells :=
 splice_next _ _ _ _ _ (by rw [length_vb, h.1.1]) (by rw [length_vb, length_vb, hc, h.2.1.1])
theorem cells_wri {x : Ext} (h : x.ok) (c : List Nat) (hc : c.length = 128) : splice x.cells 256 (vb c) = ({ x with wri := c } : Ext).cells := by
 have := splice_next (vb x.dur ++ vb x.syn) (vb x.wri) [.bool x.waits] (vb c) 256 (by rw [List.length_append, length_vb, length_vb, h.1.1, h.2.1.1]) (by rw [length_vb, length_vb, hc, h.2.2.1])
 simpa [Ext.cells] using this
theorem cells_waits {x : Ext} (h : x.ok) (b : Bool) : splice x.cells 384 [.bool b] = ({ x with waits := b } : Ext).cells := by
 have := splice_next (vb x.dur ++ (vb x.syn ++ vb x.wri)) [.bool x.waits] [] [.bool b] 384 (by rw [List.length_append, List.length_append, length_vb, length_vb, length_vb, h.1.1, h.2.1.1, h.2.2.1]) rfl
 simpa [Ext.cells] using this
theorem own_storedAll {w : World} {base e size n g cap : Nat} : ∀ (vs : List Value) (o : Nat) (xs : List Value) (w : World), w.ownsRow base e size (.slice (some ⟨g, 0, none⟩) n cap) n xs → o + vs.length ≤ xs.length →
  (w.setCells g o vs).ownsRow base e size (.slice (some ⟨g, 0, none⟩) n cap) n (splice xs o vs) ∧ w.grownBy (w.setCells g o vs) (some g)
 | [], o, xs, w, h, hl => by
  refine ⟨?_, ⟨rfl, rfl, rfl, Nat.le_refl _, fun _ _ _ => rfl⟩⟩
  simpa [World.setCells, splice] using h
 | v :: r, o, xs, w, h, hl => by
  obtain ⟨h1, hg1⟩ := h.stored o v
  obtain ⟨h2, hg2⟩ := own_storedAll (w := w) r (o + 1) (xs.set o v) _ h1 (by simp at hl ⊢; omega)
  have e : splice (xs.set o v) (o + 1) r = splice xs o (v :: r) := by
   have := list_seg_step xs o v r (by simpa using hl)
   simp only [splice, List.length_cons]
   rw [← List.append_assoc, ← List.append_assoc, show o + 1 + r.length = o + 1 + r.length from rfl]
   rw [this]
  rw [e] at h2
  exact ⟨h2, hg1.trans hg2⟩
theorem own_range {w : World} {base g n c : Nat} {l : List Ext} (h : w.ownsRow base 136 385 (.slice (some ⟨g, 0, none⟩) n c) n (cellsE l)) (hok : ∀ x ∈ l, x.ok) (i : Nat) (hi : i < l.length) (o : Nat) (cs : List Value) (ho : o + cs.length ≤ 385)
  (hc : ∀ j v, cs[j]? = some v → l[i].cells[o + j]? = some v) : w.rangeAt g (i * 385 + o) cs := by
 have hn : n = l.length := by have := h.1; rw [cellsE_length hok] at this; omega
 intro j v hj
 have hlt := (lQ4.1 hj).1
 have hl : (cellsE (l.take i)).length = i * 385 := by
  rw [cellsE_length (fun x hx => hok x (List.mem_of_mem_take hx)), List.length_take, Nat.min_eq_left (by omega)]
 rw [h.cellAt (i * 385 + o + j) (by have : (i + 1) * 385 ≤ n * 385 := Nat.mul_le_mul_right _ (by omega); omega), cellsE_split l i hi, List.getElem?_append_right (by omega), hl, show i * 385 + o + j - i * 385 = o + j by omega, List.getElem?_append_left (by rw [Ext.cells_length (hok _ (List.getElem_mem hi))]; omega)]
 exact hc j v hj
theorem own_there {w : World} {base g n c : Nat} {l : List Ext} (h : w.ownsRow base 136 385 (.slice (some ⟨g, 0, none⟩) n c) n (cellsE l)) (hok : ∀ x ∈ l, x.ok) (i : Nat) (hi : i < l.length) (o m : Nat) (ho : o + m ≤ 385) : w.there g (i * 385 + o) m := by
 have hn : n = l.length := by have := h.1; rw [cellsE_length hok] at this; omega
 intro j hj
 refine ⟨?_, by rw [Nat.add_assoc]; exact h.frozenAt _⟩
 have hlt : i * 385 + o + j < n * 385 := by have : (i + 1) * 385 ≤ n * 385 := Nat.mul_le_mul_right _ (by omega); omega
 rw [h.cellAt _ hlt, lQ6 (by rw [h.1]; exact hlt)]
 rfl
theorem DiskIs.turned {w w' : World} {d N : Nat} {F : Nat → Prop} {M : List UInt8 → List Ext} {free fuse : Int} {bm : Nat} {D : DataW Unit} {G C : List UInt8 → Nat} (h : DiskIs w d F N M free fuse bm D G C) (s : List UInt8) (hs : M s ≠ []) (l : List Ext) (hl : l.length = (M s).length) (hok : ∀ x ∈ l, x.ok)
  (hg : w.grownBy w' (some (G s))) (hrow : w'.ownsRow 0 136 385 (.slice (some ⟨G s, 0, none⟩) (M s).length (C s)) (M s).length (cellsE l)) : DiskIs w' d F N (upd M s l) free fuse bm D G C := by
 obtain ⟨h1, h2, h3, h4, h5, h6, h7⟩ := h
 have hne : ∀ t, upd M s l t ≠ [] → M t ≠ [] := by
  intro t ht
  by_cases e : t = s
  ·
   subst e; exact hs
  ·
   rwa [upd_other _ _ _ _ e] at ht
 obtain ⟨a1, a2, a3⟩ := h6 s hs
 refine ⟨(hg.block d (lQ3.1 h1).1 (fun e => row_ne a2 h1 (lQ5 e).symm)).trans h1, h2, ⟨h3.1, fun t ht => h3.2 t (hne t ht)⟩, h4.kept hg (fun e => ?_), fun t ht => ?_, fun t ht => ?_, fun t t' ht ht' => h7 t t' (hne t ht) (hne t' ht')⟩
 ·
  have e' := lQ5 e
  obtain ⟨es, clock, hb, _⟩ := h4
  rcases a2.2 with ⟨hv, _⟩ | ⟨g', c', cur, hv, _, hh, _⟩
  ·
   cases hv
  ·
   cases hv
   rw [← e', hb] at hh
   cases hh
 ·
  by_cases e : t = s
  ·
   subst e
   rw [upd_same] at ht
   subst ht
   exact absurd (List.length_eq_zero_iff.1 (by rw [← hl]; rfl)) hs
  ·
   rw [upd_other _ _ _ _ e] at ht
   exact h5 t ht
 ·
  by_cases e : t = s
  ·
   subst e
   rw [upd_same, hl]
   exact ⟨a1, hrow, hok⟩
  ·
   rw [upd_other _ _ _ _ e] at ht ⊢
   obtain ⟨b1, b2, b3⟩ := h6 t ht
   exact ⟨b1, b2.kept hg (.inr (fun h => h7 t s ht hs e (lQ5 h))), b3⟩
end Go.Proofs.YtdppolelakbbiaaGreatDoor

namespace Go.Proofs.YtdppolelakbbiaaGreatDoor
open Go.RowKit Go.Maps
set_option linter.unusedVariables false
theorem Tryz.infoExt : (Tryz.prog.info? 136).map (·.size) = some 385 := by kernel_rfl
theorem sizeExt (w : World) : (sizeOf 136).run Tryz.prog w = .ok 385 w := by
 have h := Tryz.infoExt
 cases hq : Tryz.prog.info? 136 with
 | none => rw [hq] at h; cases h
 | some i =>
  rw [hq] at h
  have hs : i.size = 385 := by simpa using h
  simp [sizeOf, typeInfo, hq, hs]
theorem wpList_index {P : Program} {w : World} {ops : Array Oper} {rest : List Oper} {o : Oper} {a : Act} {Q : Exit → Act → World → Prop} (hgd : o.guard = none) (t : TypeId) (x i : Operand) (ho : o.op = .indexAddr t x i) (vx vi v : Value) (hx : a.eval x = vx) (hi : a.eval i = vi)
  (hrun : (Instr.indexAt t vx vi).run P w = .ok v w) (h : wpList P ops Q rest (a.put o.dst v) w) : wpList P ops Q (o :: rest) a w := by
 refine wpList_plain hgd fun K hK => ?_
 unfold Oper.wp
 simp [execOp, ho, hx, hi, hrun, Result.andThen]
 exact hK _ _ h
theorem hidn {p : Prop} (h : p) : Hid p := h
theorem DiskIs.look {w : World} {d N : Nat} {F : Nat → Prop} {M : List UInt8 → List Ext} {free fuse : Int} {bm : Nat} {D : DataW Unit} {G C : List UInt8 → Nat} (h : DiskIs w d F N M free fuse bm D G C) (s : ByteArray) (hs : s.size ≤ maxLen) (hne : M s.data.toList ≠ []) :
  (Instr.lookup 122 (.map (some bm)) (.string s) false).run Tryz.prog w = .ok (.slice (some ⟨G s.data.toList, 0, none⟩) (M s.data.toList).length (C s.data.toList)) w := by
 obtain ⟨h1, h2, h3, h4, h5, h6, h7⟩ := h
 obtain ⟨v, ps, hrun, hv⟩ := h4.lookup lawS Tryz.underlying122 (zeroSl w) hd_nil (Go.WideMaps.keyOf_string_mk Tryz.underlying9 hs)
 rw [(h6 _ hne).1] at hv
 rw [hd_inv hv] at hrun
 exact hrun
theorem DiskIs.look_no {w : World} {d N : Nat} {F : Nat → Prop} {M : List UInt8 → List Ext} {free fuse : Int} {bm : Nat} {D : DataW Unit} {G C : List UInt8 → Nat} (h : DiskIs w d F N M free fuse bm D G C) (s : ByteArray) (hs : s.size ≤ maxLen) (he : M s.data.toList = []) :
  (Instr.lookup 122 (.map (some bm)) (.string s) false).run Tryz.prog w = .ok (.slice none 0 0) w := by
 obtain ⟨h1, h2, h3, h4, h5, h6, h7⟩ := h
 obtain ⟨v, ps, hrun, hv⟩ := h4.lookup lawS Tryz.underlying122 (zeroSl w) hd_nil (Go.WideMaps.keyOf_string_mk Tryz.underlying9 hs)
 rw [atKey_of_not_has (h5 _ he)] at hv
 rw [hd_inv_nil hv] at hrun
 exact hrun
theorem DiskIs.c0 {w : World} {d N : Nat} {F : Nat → Prop} {M : List UInt8 → List Ext} {free fuse : Int} {bm : Nat} {D : DataW Unit} {G C : List UInt8 → Nat} (h : DiskIs w d F N M free fuse bm D G C) : w.cell? ⟨d, 0, none⟩ = some (.map (some bm)) := by rw [cell_of_row _ _ _ _ _ _ h.1]; rfl
theorem DiskIs.c1 {w : World} {d N : Nat} {F : Nat → Prop} {M : List UInt8 → List Ext} {free fuse : Int} {bm : Nat} {D : DataW Unit} {G C : List UInt8 → Nat} (h : DiskIs w d F N M free fuse bm D G C) : w.cell? ⟨d, 1, none⟩ = some (.int .i64 free) := by rw [cell_of_row _ _ _ _ _ _ h.1]; rfl
theorem DiskIs.len {w : World} {d N : Nat} {F : Nat → Prop} {M : List UInt8 → List Ext} {free fuse : Int} {bm : Nat} {D : DataW Unit} {G C : List UInt8 → Nat} (h : DiskIs w d F N M free fuse bm D G C) (s : List UInt8) : (M s).length ≤ maxLen := by
 by_cases hne : M s = []
 ·
  rw [hne]; exact Nat.zero_le _
 ·
  rcases (h.2.2.2.2.2.1 s hne).2.1.2 with ⟨hv, _⟩ | ⟨g', c', cur, hv, _, _, hn, hc, _⟩
  ·
   cases hv
  ·
   omega
set_option maxHeartbeats 1000000 in
theorem at_some (w : World) (d : Nat) (F : Nat → Prop) (N : Nat) (M : List UInt8 → List Ext) (free fuse : Int) (bm : Nat) (D : DataW Unit) (G C : List UInt8 → Nat) (h : DiskIs w d F N M free fuse bm D G C) (s : ByteArray) (hs : s.size ≤ maxLen) (i n o : Nat) (HN : Hid (n = (M s.data.toList).length)) (hi : i < n) (ho : i * 385 = o) :
  Calls Tryz.prog 109 #[.pointer (some ⟨d, 0, none⟩), .string s, .int .i64 i] w fun e w' => e = .returned (.pointer (some ⟨G s.data.toList, o, none⟩)) ∧ w' = w := by
 have hlen := h.len s.data.toList
 rw [← HN.out] at hlen
 have hlk := h.look s hs (fun e => by have := HN.out; rw [e] at this; simp at this; omega)
 rw [← HN.out] at hlk
 have c0 := h.c0
 generalize G s.data.toList = g at *
 generalize C s.data.toList = c at *
 clear h
 unfold maxLen at hlen hs
 have h1 : (i : Int) < (n : Int) := by omega
 have HIX : Hid (∀ wx, (Instr.indexAt 132 (.slice (some ⟨g, 0, none⟩) n c) (.int .i64 (i : Int))).run Tryz.prog wx = .ok (.pointer (some ⟨g, o, none⟩)) wx) := hidn (by
  intro wx
  rw [run_indexAt_slice _ _ _ _ _ _ _ (show Tryz.prog.underlying 132 = some (.slice (Tryz.prog.elem 132)) by kernel_rfl), if_pos ⟨by omega, h1⟩, show Tryz.prog.elem 132 = 136 by kernel_rfl, sizeExt]
  show Result.ok (Value.pointer (some ((⟨g, 0, none⟩ : Addr).add ((i : Int).toNat * 385)))) wx = _
  rw [Int.toNat_natCast, ho, add_none, Nat.zero_add])
 clear ho
 have h0 : decide ((i : Int) < 0) = false := by simp
 have h2 : decide (n ≤ i) = false := by simp; omega
 go_enter Tryz.func109, Tryz.ntmps109
 go_wp2_with (refine wpList_index (by rfl) 132 (.tmp 22) (.tmp 23) (by rfl) (.slice (some ⟨g, 0, none⟩) n c) (.int .i64 (i : Int)) (.pointer (some ⟨g, o, none⟩)) (by rfl) (by rfl) (HIX.out w) ?_)
 go_ret
 exact ⟨rfl, rfl⟩
set_option maxHeartbeats 1000000 in
theorem at_none (w : World) (d : Nat) (F : Nat → Prop) (N : Nat) (M : List UInt8 → List Ext) (free fuse : Int) (bm : Nat) (D : DataW Unit) (G C : List UInt8 → Nat) (h : DiskIs w d F N M free fuse bm D G C) (s : ByteArray) (hs : s.size ≤ maxLen) (i : Int) (n : Nat) (HN : Hid (n = (M s.data.toList).length)) (hi : i < 0 ∨ (n : Int) ≤ i) :
  Calls Tryz.prog 109 #[.pointer (some ⟨d, 0, none⟩), .string s, .int .i64 i] w fun e w' => e = .returned (.pointer none) ∧ w' = w := by
 have hlen := h.len s.data.toList
 rw [← HN.out] at hlen
 have c0 := h.c0
 obtain ⟨v, a, c, hv, hlk⟩ : ∃ v a c, v = Value.slice a n c ∧ (Instr.lookup 122 (.map (some bm)) (.string s) false).run Tryz.prog w = .ok v w := by
  by_cases hne : M s.data.toList = []
  ·
   refine ⟨_, none, 0, ?_, h.look_no s hs hne⟩
   rw [HN.out, hne]; rfl
  ·
   exact ⟨.slice (some ⟨G s.data.toList, 0, none⟩) (M s.data.toList).length (C s.data.toList), some ⟨G s.data.toList, 0, none⟩, C s.data.toList, by rw [HN.out], h.look s hs hne⟩
 subst hv
 clear h
 unfold maxLen at hlen hs
 rcases hi with hi | hi
 ·
  go_enter Tryz.func109, Tryz.ntmps109
  go_wp2
  go_ret
  exact ⟨rfl, rfl⟩
 ·
  have h0 : ¬ i < 0 := by omega
  go_enter Tryz.func109, Tryz.ntmps109
  go_wp2
  go_ret
  exact ⟨rfl, rfl⟩
theorem Tryz.infoImage : (Tryz.prog.info? 134).map (fun i => (i.zero, i.size)) = some (some (.agg (vb (List.replicate 128 0)).toArray), 128) := by kernel_rfl
def Ext.rd (x : Ext) : List Nat := if x.waits then x.wri else x.dur
set_option maxHeartbeats 1000000 in
theorem read_any (w : World) (g o : Nat) (b : Bool) (im : List Nat) (hl : im.length = 128) (hb : w.cell? ⟨g, o + 384, none⟩ = some (.bool b)) (hr : w.rangeAt g (o + if b then 256 else 0) (vb im)) :
  Calls Tryz.prog 115 #[.pointer (some ⟨g, o, none⟩)] w fun e w' => e = .returned (.agg (vb im).toArray) ∧ Below w.heap.size w w' := by
 obtain ⟨hz, hzs⟩ := zero_of_info Tryz.infoImage
 obtain ⟨c0, hc0⟩ : ∃ c0, c0 = List.replicate 128 0 := ⟨_, rfl⟩
 rw [← hc0] at hz
 have l0 : (vb c0).toArray.size = 128 := by rw [hc0]; rfl
 have lz : (vb im).toArray.size = 128 := by simp [length_vb, hl]
 have HSZ : Hid ((Tryz.prog.info? 134).map (·.size) = some (vb im).toArray.size) := hidn (by rw [hzs, lz])
 have HSL : Hid ((Tryz.prog.info? 134).map (·.size) = some (vb im).length) := hidn (by rw [hzs, length_vb, hl])
 have HOLD : Hid ((vb c0).toArray.size = (vb im).toArray.size) := hidn (by rw [l0, lz])
 have HONE : Hid ((vb im).toArray.all (·.oneCell') = true) := hidn (by simpa using one_vb im)
 have hb1 := Lib.cell?_alloc_some (.cells (vb c0).toArray 134) hb
 have hr1 := World.rangeAt_alloc hr (.cells (vb c0).toArray 134)
 have hbel : Below w.heap.size w (w.alloc (.cells (vb c0).toArray 134)) := (Below.refl _ _).alloc (Nat.le_refl _) _
 clear l0 lz hzs hc0 hb hr
 cases b with
 | true =>
  have HR : Hid ((w.alloc (.cells (vb c0).toArray 134)).rangeAt g (o + 256) (vb im)) := hr1
  clear hr1
  go_enter Tryz.func115, Tryz.ntmps115
  go_wp2_with (first
   | (refine wpList_load_mid (by rfl) 134 _ (by rfl) g (o + 256) (by rfl) (vb im) _ HR.out Tryz.underlying134 (by rfl) HSL.out ?_)
   | (refine wpList_store_row (by rfl) 134 _ _ (by rfl) w.heap.size (vb im).toArray (by rfl) (by rfl) 134 (vb c0).toArray (heap_alloc_new _ _) HSZ.out HOLD.out HONE.out ?_))
  refine bodyPost_ret (v := .agg (vb im).toArray) (results_cell_row rfl _ _ w.heap.size 134 _ (0, 0) _ rfl (setRow_heap _ _ _ _ _ _ (heap_alloc_new _ _)) Tryz.underlying134 rfl HSZ.out) rfl ⟨rfl, below_setRow hbel (Nat.le_refl _) _⟩
 | false =>
  have HR : Hid ((w.alloc (.cells (vb c0).toArray 134)).rangeAt g o (vb im)) := hr1
  clear hr1
  go_enter Tryz.func115, Tryz.ntmps115
  go_wp2_with (first
   | (refine wpList_load_mid (by rfl) 134 _ (by rfl) g (o) (by rfl) (vb im) _ HR.out Tryz.underlying134 (by rfl) HSL.out ?_)
   | (refine wpList_store_row (by rfl) 134 _ _ (by rfl) w.heap.size (vb im).toArray (by rfl) (by rfl) 134 (vb c0).toArray (heap_alloc_new _ _) HSZ.out HOLD.out HONE.out ?_))
  refine bodyPost_ret (v := .agg (vb im).toArray) (results_cell_row rfl _ _ w.heap.size 134 _ (0, 0) _ rfl (setRow_heap _ _ _ _ _ _ (heap_alloc_new _ _)) Tryz.underlying134 rfl HSZ.out) rfl ⟨rfl, below_setRow hbel (Nat.le_refl _) _⟩
theorem ext_read {w : World} {base g n c : Nat} {l : List Ext} (h : w.ownsRow base 136 385 (.slice (some ⟨g, 0, none⟩) n c) n (cellsE l)) (hok : ∀ x ∈ l, x.ok) (i : Nat) (hi : i < l.length) :
  w.cell? ⟨g, i * 385 + 384, none⟩ = some (.bool l[i].waits) ∧ w.rangeAt g (i * 385 + if l[i].waits then 256 else 0) (vb l[i].rd) ∧ l[i].rd.length = 128 ∧ ∀ y ∈ l[i].rd, y < 256 := by
 have hx := hok _ (List.getElem_mem hi)
 obtain ⟨⟨d1, d2⟩, ⟨s1, s2⟩, ⟨w1, w2⟩⟩ := hx
 have hw : w.rangeAt g (i * 385 + 384) [.bool l[i].waits] := own_range h hok i hi 384 _ (by simp) (fun j v hj => by
  have hlt := (lQ4.1 hj).1
  obtain rfl : j = 0 := by simp at hlt; omega
  simp [Ext.cells, length_vb, d1, s1, w1] at hj ⊢
  exact hj)
 refine ⟨by simpa using hw 0 _ rfl, ?_⟩
 cases hwt : l[i].waits with
 | true =>
  have e : l[i].rd = l[i].wri := by simp [Ext.rd, hwt]
  rw [e]
  refine ⟨own_range h hok i hi 256 _ (by rw [length_vb, w1]; omega) (fun j v hj => ?_), w1, w2⟩
  have hlt := (lQ4.1 hj).1
  rw [length_vb, w1] at hlt
  rw [Ext.cells, List.getElem?_append_right (by rw [length_vb, d1]; omega), List.getElem?_append_right (by rw [length_vb, length_vb, d1, s1]; omega), List.getElem?_append_left (by rw [length_vb, length_vb, length_vb, d1, s1, w1]; omega), length_vb, length_vb, d1, s1, show 256 + j - 128 - 128 = j by omega]
  exact hj
 | false =>
  have e : l[i].rd = l[i].dur := by simp [Ext.rd, hwt]
  rw [e]
  refine ⟨own_range h hok i hi 0 _ (by rw [length_vb, d1]; omega) (fun j v hj => ?_), d1, d2⟩
  have hlt := (lQ4.1 hj).1
  rw [Ext.cells, Nat.zero_add, List.getElem?_append_left hlt]
  exact hj
end Go.Proofs.YtdppolelakbbiaaGreatDoor

namespace Go.Proofs.YtdppolelakbbiaaGreatDoor
open Go.RowKit Go.Maps
set_option linter.unusedVariables false
set_option maxHeartbeats 1000000 in
theorem diskRead_none (w : World) (d : Nat) (F : Nat → Prop) (N : Nat) (M : List UInt8 → List Ext) (free fuse : Int) (h : DiskOf w d F N M free fuse) (s : ByteArray) (hs : s.size ≤ maxLen) (i : Int) (n : Nat) (HN : Hid (n = (M s.data.toList).length)) (hi : i < 0 ∨ (n : Int) ≤ i) :
  Calls Tryz.prog 73 #[.pointer (some ⟨d, 0, none⟩), .string s, .int .i64 i] w fun e w' => e = .returned (.tuple #[.slice none 0 0, .int .i64 30]) ∧ Below w.heap.size w w' := by
 obtain ⟨bm, D, G, C, hI⟩ := h.is
 have hpn := fun (wx : World) (p : Option Addr) => run_eql_pointer_nil (P := Tryz.prog) wx 147 p (by kernel_rfl)
 go_enter Tryz.func73, Tryz.ntmps73
 go_wp2_with fail
 refine (isMade_any _ d F N M free fuse h).mono ?_
 rintro e w1 ⟨rfl, rfl⟩
 go_wp2_with fail
 refine (at_none _ d F N M free fuse bm D G C hI s hs i n HN hi).mono ?_
 rintro e w2 ⟨rfl, rfl⟩
 go_wp2
 go_ret2
 exact ⟨rfl, Below.refl _ _⟩
set_option maxHeartbeats 1000000 in
theorem diskRead_some (w : World) (d : Nat) (F : Nat → Prop) (N : Nat) (M : List UInt8 → List Ext) (free fuse : Int) (h : DiskOf w d F N M free fuse) (s : ByteArray) (hs : s.size ≤ maxLen) (i n o : Nat) (HN : Hid (n = (M s.data.toList).length)) (hi : i < n) (ho : i * 385 = o) (im : List Nat) (x : Ext) (HX : Hid ((M s.data.toList)[i]? = some x)) (HM : Hid (im = x.rd)) :
  Calls Tryz.prog 73 #[.pointer (some ⟨d, 0, none⟩), .string s, .int .i64 i] w fun e w' => ∃ b, e = .returned (.tuple #[.slice (some ⟨b, 0, none⟩) 128 128, .int .i64 0]) ∧ w.heap.size ≤ b ∧ Bs w' (some ⟨b, 0, none⟩) 128 im ∧ Below w.heap.size w w' := by
 obtain ⟨bm, D, G, C, hI⟩ := h.is
 have hpn := fun (wx : World) (p : Option Addr) => run_eql_pointer_nil (P := Tryz.prog) wx 147 p (by kernel_rfl)
 obtain ⟨hil, hxe⟩ := lQ4.1 HX.out
 obtain ⟨_, hrow, hok⟩ := hI.2.2.2.2.2.1 s.data.toList (fun e => by rw [e] at hil; simp at hil)
 obtain ⟨r1, r2, r3, r4⟩ := ext_read hrow hok i hil
 rw [hxe, ho] at r1 r2
 rw [hxe] at r3 r4
 rw [← HM.out] at r2 r3 r4
 have hsz := (zero_of_info Tryz.infoImage).2
 have hz := (zero_of_info Tryz.infoImage).1
 obtain ⟨c0, hc0⟩ : ∃ c0, c0 = List.replicate 128 0 := ⟨_, rfl⟩
 rw [← hc0] at hz
 have l0 : (vb c0).toArray.size = 128 := by rw [hc0]; rfl
 have lz : (vb im).toArray.size = 128 := by simp [length_vb, r3]
 have HSZ : Hid ((Tryz.prog.info? 134).map (·.size) = some (vb im).toArray.size) := hidn (by rw [hsz, lz])
 have HOLD : Hid ((vb c0).toArray.size = (vb im).toArray.size) := hidn (by rw [l0, lz])
 have HONE : Hid ((vb im).toArray.all (·.oneCell') = true) := hidn (by simpa using one_vb im)
 have HL : Hid (im.length = 128) := r3
 have HR2 : Hid _ := r2
 have HR1 : Hid (_ = _) := r1
 have HO : Hid (i * 385 = o) := ho
 clear l0 lz hsz hc0 hrow hok r1 r2 r3 hxe ho hil
 go_enter Tryz.func73, Tryz.ntmps73
 go_wp2_with fail
 refine (isMade_any _ d F N M free fuse h).mono ?_
 rintro e w1 ⟨rfl, rfl⟩
 go_wp2_with fail
 refine (at_some _ d F N M free fuse bm D G C hI s hs i n o HN hi HO.out).mono ?_
 rintro e w2 ⟨rfl, rfl⟩
 generalize G s.data.toList = g at *
 go_wp2_with fail
 refine (read_any _ g o x.waits im HL.out HR1.out HR2.out).mono ?_
 rintro e w3 ⟨rfl, hb3⟩
 go_wp2_with (refine wpList_store_row (by rfl) 134 _ _ (by rfl) w3.heap.size (vb im).toArray (by rfl) (by rfl) 134 (vb c0).toArray (heap_alloc_new _ _) HSZ.out HOLD.out HONE.out ?_)
 go_ret2
 refine ⟨w3.heap.size, rfl, hb3.size, ?_, below_setRow (hb3.alloc hb3.size _) hb3.size _⟩
 have := bs_of_block (setRow_heap _ _ _ (vb im).toArray _ _ (heap_alloc_new w3 (.cells (vb c0).toArray 134))) (by rw [HL.out]; decide) r4
 rw [HL.out] at this
 exact this
end Go.Proofs.YtdppolelakbbiaaGreatDoor
