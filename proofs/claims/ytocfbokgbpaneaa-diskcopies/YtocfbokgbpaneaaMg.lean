/- 128 bytes that are made, and filled with what is there. -/
import Derived.Test.YtocfbokgbpaneaaMe
import Derived.Test.YtocfbokgbpaneaaMf
import Derived.DeepKeys4
import Derived.Maps.RangeWalk
namespace Go.Proofs.Ytocfbokgbpaneaa
open Go.RowKit Go.Maps
set_option linter.unusedVariables false
def padTo (zs : List Nat) : List Nat := zs.take 128 ++ List.replicate (128 - zs.length) 0
theorem padTo_length (zs : List Nat) : (padTo zs).length = 128 := by
  simp [padTo]
  omega
theorem padTo_lt {zs : List Nat} (h : ∀ x ∈ zs, x < 256) : ∀ x ∈ padTo zs, x < 256 := by
  intro x hx
  rcases List.mem_append.1 hx with h1 | h1
  · exact h x (List.mem_of_mem_take h1)
  · rw [List.eq_of_mem_replicate h1]; decide
def zero128 : Array Value := (vb (List.replicate 128 0)).toArray
theorem mk128 (W : World) : (Instr.makeSlice 29 (.int .i64 128) (.int .i64 128)).run Try.prog W = .ok (.slice (some ⟨W.heap.size, 0, none⟩) 128 128) (W.alloc (.cells zero128 5)) := by
  obtain ⟨i0, hi, hz0, hz1, hz2⟩ := info_parts Try.info5
  have h := run_make (P := Try.prog) W 29 5 i0 (.int .u8 0) Try.underlying29 hi hz0 .i64 .i64 ((128 : Nat) : Int) ((128 : Nat) : Int) (by omega) (by omega) (by rw [hz2]; omega) (by omega)
  rw [hz1] at h
  have e : madeCells (Value.int .u8 0).cells (((128 : Nat) : Int).toNat * 1) = zero128 := by kernel_rfl
  rw [e] at h
  simpa using h
theorem row_bs {w : World} {g n : Nat} {zs : List Nat} {t : TypeId} {fr : Nat × Nat} (h : w.heap[g]? = some (.cells (vb zs).toArray t fr)) (hn : zs.length = n) (hm : n ≤ maxLen) (hz : ∀ x ∈ zs, x < 256) : Bs w (some ⟨g, 0, none⟩) n zs := by
  refine ⟨hn, hm, hz, (fun h => by simp at h), fun x hx j hj => ?_⟩
  cases hx
  rw [add_none, Nat.zero_add, cell_of_row _ _ _ _ _ _ h, List.getElem?_toArray]
  rw [vb_getD zs j (by omega)]
theorem copy128 (w : World) (g : Nat) (a : Option Addr) (len cap : Nat) (zs : List Nat) (hg : w.heap[g]? = some (.cells zero128 5 (0, 0))) (hB : Bs w a len zs) :
    ∃ w3, ∃ m : Int, (Builtin.copy_ #[29, 29] 3 #[.slice (some ⟨g, 0, none⟩) 128 128, .slice a len cap]).run Try.prog w = .ok (.int .i64 m) w3 ∧ (∀ n, n ≤ g → Below n w w3) ∧ w3.heap[g]? = some (.cells (vb (padTo zs)).toArray 5 (0, 0)) := by
  have hinfo : (Try.prog.info? 5).map (·.size) = some 1 := by kernel_rfl
  have hl := hB.1
  by_cases h0 : len = 0
  · subst h0
    obtain rfl : zs = [] := List.length_eq_zero_iff.1 hl
    exact ⟨w, 0, run_copy_none (P := Try.prog) w _ _ 3 5 _ a 128 128 0 cap Try.underlying29 hinfo (by simp), fun n _ => Below.refl _ _, hg⟩
  · obtain ⟨ab, ao, rfl, _, hac⟩ := hB.pos (by omega)
    have h := run_copy_row (P := Try.prog) w 29 29 3 5 g 0 128 128 ⟨ab, ao, none⟩ len cap zero128 5 ((vb zs).take (min len 128)) Try.underlying29 hinfo hg
      (by rw [List.length_take, length_vb, hl]; show min (min len 128) len = min len 128; omega)
      (fun j v hj => by rw [add_none]; exact bs_range hB j v (by rw [List.getElem?_take] at hj; split at hj; exact hj; cases hj))
      (by rw [List.length_take]; show 0 + min (min len 128) _ ≤ 128; omega) (fun v hv => one_vb _ v (List.mem_of_mem_take hv))
    refine ⟨_, _, h, fun n hn => below_setRow (Below.refl _ _) hn _, ?_⟩
    rw [setRow_heap _ _ _ _ _ _ hg]
    refine congrArg (fun c : Array Value => some (Obj.cells c 5 (0, 0))) ?_
    rw [List.take_zero, List.nil_append]
    refine congrArg List.toArray ?_
    have e1 : (vb zs).take (min len 128) = vb (zs.take 128) := by
      have e0 : zs.take (min len 128) = zs.take 128 := by
        by_cases h1 : len ≤ 128
        · rw [Nat.min_eq_left h1, List.take_of_length_le (by omega), List.take_of_length_le (by omega)]
        · rw [Nat.min_eq_right (by omega)]
      rw [← e0]
      unfold vb
      rw [← List.map_take]
    rw [e1, length_vb]
    have e2 : zero128.toList = vb (List.replicate 128 0) := List.toList_toArray
    rw [e2]
    have e3 : (vb (List.replicate 128 0)).drop (0 + (zs.take 128).length) = vb (List.replicate (128 - zs.length) 0) := by
      unfold vb
      rw [← List.map_drop, List.drop_replicate, List.length_take, Nat.zero_add]
      rw [show 128 - min 128 zs.length = 128 - zs.length by omega]
    rw [e3]
    unfold padTo vb
    rw [← List.map_append]
end Go.Proofs.Ytocfbokgbpaneaa

namespace Go.Proofs.Ytocfbokgbpaneaa
open Go.RowKit Go.Maps
set_option linter.unusedVariables false
structure Stp where
  op : Int
  i : Int
  at2 : Int
  n3 : Int
  nm : ByteArray
  ba : Option Addr
  bl : Nat
  bc : Nat
  zs : List Nat
  m6 : Int
  ka : Option Addr
  kl : Nat
  kc : Nat
def Stp.cells (s : Stp) : List Value := [.int .i64 s.op, .int .i64 s.i, .int .i64 s.at2, .int .i64 s.n3, .string s.nm, .slice s.ba s.bl s.bc, .int .u8 s.m6, .slice s.ka s.kl s.kc]
def Sts (w : World) (a : Option Addr) (len : Nat) (l : List Stp) : Prop :=
  l.length = len ∧ len ≤ maxLen ∧ (a = none → len = 0) ∧ (∀ s ∈ l, s.nm.size ≤ maxLen ∧ Bs w s.ba s.bl s.zs) ∧ ∀ x, a = some x → ∀ j s, l[j]? = some s → ∀ k v, s.cells[k]? = some v → w.cell? (x.add (j * 8 + k)) = some v
theorem Sts.below {w w' : World} {a : Option Addr} {len : Nat} {l : List Stp} (h : Sts w a len l) (hb : Below w.heap.size w w') : Sts w' a len l := by
  obtain ⟨h1, h2, h3, h4, h5⟩ := h
  refine ⟨h1, h2, h3, fun s hs => ⟨(h4 s hs).1, (h4 s hs).2.below hb⟩, fun x hx j s hs k v hv => ?_⟩
  have := h5 x hx j s hs k v hv
  exact (hb.cell (block_lt_of_cell this)).trans this
/-- The place of a step: its eight cells. -/
theorem Sts.at {w : World} {a : Option Addr} {len j : Nat} {l : List Stp} {s : Stp} (h : Sts w a len l) (hs : l[j]? = some s) :
    ∃ b off, a = some ⟨b, off, none⟩ ∧ w.cell? ⟨b, off + j * 8, none⟩ = some (.int .i64 s.op) ∧ w.cell? ⟨b, off + j * 8 + 1, none⟩ = some (.int .i64 s.i) ∧ w.cell? ⟨b, off + j * 8 + 2, none⟩ = some (.int .i64 s.at2) ∧ w.cell? ⟨b, off + j * 8 + 3, none⟩ = some (.int .i64 s.n3) ∧
      w.cell? ⟨b, off + j * 8 + 4, none⟩ = some (.string s.nm) ∧ w.cell? ⟨b, off + j * 8 + 5, none⟩ = some (.slice s.ba s.bl s.bc) ∧ w.cell? ⟨b, off + j * 8 + 6, none⟩ = some (.int .u8 s.m6) ∧ w.cell? ⟨b, off + j * 8 + 7, none⟩ = some (.slice s.ka s.kl s.kc) := by
  obtain ⟨h1, h2, h3, h4, h5⟩ := h
  cases a with
  | none =>
    have := h3 rfl
    have := (List.getElem?_eq_some_iff.1 hs).1
    omega
  | some x =>
    obtain ⟨b, off, spot⟩ := x
    have h := h5 _ rfl j s hs
    obtain ⟨s0, hs0⟩ : ∃ s0, l[0]? = some s0 := ⟨_, List.getElem?_eq_getElem (by have := (List.getElem?_eq_some_iff.1 hs).1; omega)⟩
    have hspot : spot = none := by simpa [Addr.add] using World.cell?_spot (h5 _ rfl 0 s0 hs0 0 _ rfl)
    subst hspot
    have e : ∀ k, (⟨b, off, none⟩ : Addr).add (j * 8 + k) = ⟨b, off + j * 8 + k, none⟩ := fun k => by rw [add_none, Nat.add_assoc]
    simp only [e] at h
    exact ⟨b, off, rfl, h 0 _ rfl, h 1 _ rfl, h 2 _ rfl, h 3 _ rfl, h 4 _ rfl, h 5 _ rfl, h 6 _ rfl, h 7 _ rfl⟩
set_option maxHeartbeats 2000000 in
theorem full_pad (w : World) (y0 y1 y2 y3 y4 y6 y7 : Value) (a : Option Addr) (len cap : Nat) (zs : List Nat) (hB : Bs w a len zs) :
    Calls Try.prog 13 #[.agg #[y0, y1, y2, y3, y4, .slice a len cap, y6, y7]] w fun e w' => ∃ b, e = .returned (.slice (some ⟨b, 0, none⟩) 128 128) ∧ w.heap.size ≤ b ∧ b < w'.heap.size ∧ Bs w' (some ⟨b, 0, none⟩) 128 (padTo zs) ∧ Below w.heap.size w w' := by
  have hmk := mk128
  obtain ⟨w1, hw1⟩ : ∃ w1, w1 = w.alloc (.cells #[y0, y1, y2, y3, y4, .slice a len cap, y6, y7] 32) := ⟨_, rfl⟩
  have hb1 : Below w.heap.size w w1 := by rw [hw1]; exact (Below.refl _ _).alloc (Nat.le_refl _) _
  have hs1 : w1.heap.size = w.heap.size + 1 := by rw [hw1, World.size_alloc]
  have hb2 : Below w.heap.size w (w1.alloc (.cells zero128 5)) := hb1.alloc hb1.size _
  obtain ⟨w3, m, hcp, hb3, hg3⟩ := copy128 _ w1.heap.size a len cap zs (heap_alloc_new w1 _) (hB.below hb2)
  have B3 := hb2.trans (hb3 w.heap.size hb1.size)
  have hbs := row_bs hg3 (padTo_length zs) (by decide) (padTo_lt hB.2.2.1)
  have HF := hidn (show w.heap.size ≤ w1.heap.size ∧ w1.heap.size < w3.heap.size ∧ Bs w3 (some ⟨w1.heap.size, 0, none⟩) 128 (padTo zs) ∧ Below w.heap.size w w3 from ⟨hb1.size, (Array.getElem?_eq_some_iff.1 hg3).1, hbs, B3⟩)
  rw [hs1] at hcp HF
  rw [hw1] at hcp
  clear hb1 hb2 hb3 hg3 B3 hbs hw1 hs1 hB
  go_enter Try.func13, Try.ntmps13
  go_wp2
  go_ret
  exact ⟨_, rfl, HF.out⟩
end Go.Proofs.Ytocfbokgbpaneaa

namespace Go.Proofs.Ytocfbokgbpaneaa
open Go.RowKit Go.Maps
set_option linter.unusedVariables false

theorem spotRow : (73 : TypeId) < Try.prog.types.size := of_decide_eq_true (by kernel_rfl)
theorem laidOutP : laidOutB Try.prog = true := by kernel_rfl
theorem lawSpot : Keyed Try.prog 73 := Keyed.of_law (deep_law_laid laidOutP (m := 3) (by decide) spotRow (by kernel_rfl) (by kernel_rfl))
def spk (s : List UInt8) (i : Int) : List UInt8 := keyBytes [.string s, .int .i64 i]
theorem spotKeyType : Try.prog.keyType 73 = true := by kernel_rfl
theorem spotCells : Try.prog.cellsOf 73 = 2 := by kernel_rfl
theorem spotSize : ∃ m, Try.prog.types.size = m + 1 := ⟨_, (Nat.sub_add_cancel (Nat.succ_le_of_lt (Nat.lt_of_le_of_lt (Nat.zero_le _) spotRow))).symm⟩
theorem cellsStr : Try.prog.cellsOf 9 = 1 := by kernel_rfl
theorem cellsInt : Try.prog.cellsOf 3 = 1 := by kernel_rfl
theorem keyOf_spot (s : ByteArray) (i : Int) (hs : s.size ≤ maxLen) (hi : (Lit.int .i64 i).wf = true) : keyOf Try.prog 73 (.agg #[.string s, .int .i64 i]) = some (.string (spk s.data.toList i)) := by
  obtain ⟨m, hm⟩ := spotSize
  have hu := Try.underlying73
  have hus := Try.underlying9
  have hui := Try.underlying3
  have k1 : Try.prog.keyLits (m + 1) 9 [.string s] = some [.string s.data.toList] := by simp [Program.keyLits, hus, hs]
  have k2 : Try.prog.keyLits (m + 1) 3 [.int .i64 i] = some [.int .i64 i] := by simp [Program.keyLits, hui, hi]
  have k3 : Try.prog.keyLits (m + 1 + 1) 73 [.string s, .int .i64 i] = some [.string s.data.toList, .int .i64 i] := by
    unfold Program.keyLits
    simp only [hu]
    simp [spotCells, cellsStr, cellsInt, k1, k2]
  unfold keyOf
  rw [hu]
  simp [spotKeyType, Value.formed, hu, spotCells, hm, k3, spk, Value.cells]
theorem spk_inj {s s' : ByteArray} {i i' : Int} (hs : s.size ≤ maxLen) (hi : (Lit.int .i64 i).wf = true) (hs' : s'.size ≤ maxLen) (hi' : (Lit.int .i64 i').wf = true) (h : spk s.data.toList i = spk s'.data.toList i') : s = s' ∧ i = i' := by
  have h1 := keyOf_spot s i hs hi
  have h2 := keyOf_spot s' i' hs' hi'
  rw [h] at h1
  have := lawSpot.inj h1 h2
  simpa using this

/-- Block b holds what is kept of each spot. -/
def KeptMap (w : World) (b : Nat) (kf : List UInt8 → Int → Int) : Prop :=
  ∃ N D, w.ownsMap (H := Unit) Try.prog 73 (plainElem Try.prog 3) b N D ∧ N ≤ maxLen ∧ (∀ (s : ByteArray) (i : Int), s.size ≤ maxLen → (Lit.int .i64 i).wf = true → D.atKey (.string (spk s.data.toList i)) (.lit (.int .i64 0)) = .lit (.int .i64 (kf s.data.toList i)))
theorem zeroInt (w : World) : (zeroValue 3).run Try.prog w = .ok (.int .i64 0) w := by kernel_rfl
theorem KeptMap.look {w : World} {b : Nat} {kf : List UInt8 → Int → Int} (h : KeptMap w b kf) (s : ByteArray) (i : Int) (hs : s.size ≤ maxLen) (hi : (Lit.int .i64 i).wf = true) :
    (Instr.lookup 86 (.map (some b)) (.agg #[.string s, .int .i64 i]) false).run Try.prog w = .ok (.int .i64 (kf s.data.toList i)) w := by
  obtain ⟨N, D, h1, _, h2⟩ := h
  obtain ⟨c, hrun, hat, _⟩ := h1.lookup_int lawSpot Try.underlying86 Try.underlying3 (zeroInt w) (keyOf_spot s i hs hi)
  rw [h2 s i hs hi] at hat
  have : kf s.data.toList i = c := by simpa using hat
  rw [this]
  exact hrun
theorem KeptMap.kept {w w' : World} {b : Nat} {kf : List UInt8 → Int → Int} (h : KeptMap w b kf) (hb : w'.heap[b]? = w.heap[b]?) : KeptMap w' b kf := by
  obtain ⟨N, D, ⟨es, clock, h1, h2⟩, h3⟩ := h
  exact ⟨N, D, ⟨es, clock, hb.trans h1, h2⟩, h3⟩
theorem KeptMap.lt {w : World} {b : Nat} {kf : List UInt8 → Int → Int} (h : KeptMap w b kf) : b < w.heap.size := by
  obtain ⟨N, D, h1, _⟩ := h
  exact h1.lt

theorem makeMap_hint {t k e : TypeId} (hu : Try.prog.underlying t = some (.map k e)) (n : Int) (w : World) : (Instr.makeMap t (some (.int .i64 n))).run Try.prog w = .ok (.map (some w.heap.size)) (w.alloc (.map #[] 0)) := by
  simp [Instr.makeMap, run_underlying hu, asInt, asIntOf]

set_option maxHeartbeats 1000000 in
theorem firstKept_none (w : World) (a : Option Addr) (cap : Nat) :
    Calls Try.prog 48 #[.slice a 0 cap] w fun e w' => ∃ b, e = .returned (.map (some b)) ∧ w.heap.size ≤ b ∧ KeptMap w' b (fun _ _ => 0) ∧ Below w.heap.size w w' := by
  have hmm := fun n w => makeMap_hint Try.underlying86 n w
  go_enter Try.func48, Try.ntmps48
  go_wp2_with fail
  go_loop [14] (fun iv => iv = .int .i64 0) (fun _ => 0)
  case atStart => rfl
  case round =>
    subst hrel
    have hlt : decide ((0 : Int) < 0) = false := by simp
    go_wp2
    go_ret
    refine ⟨_, rfl, Nat.le_refl _, ⟨0, .map [], World.ownsMap_made _ _ _ _, Nat.zero_le _, fun s i _ _ => rfl⟩, (Below.refl _ _).alloc (Nat.le_refl _) _⟩
end Go.Proofs.Ytocfbokgbpaneaa

namespace Go.Proofs.Ytocfbokgbpaneaa
open Go.RowKit Go.Maps
set_option linter.unusedVariables false
structure Kp where
  nm : ByteArray
  i : Int
  n : Int
def Kps (w : World) (a : Option Addr) (len : Nat) (ks : List Kp) : Prop :=
  ks.length = len ∧ len ≤ 9223372036854775807 ∧ (a = none → len = 0) ∧ (∀ k ∈ ks, k.nm.size ≤ maxLen ∧ (Lit.int .i64 k.i).wf = true ∧ (Lit.int .i64 k.n).wf = true) ∧
    ∀ x, a = some x → ∀ j k, ks[j]? = some k → w.cell? (x.add (j * 3)) = some (.string k.nm) ∧ w.cell? (x.add (j * 3 + 1)) = some (.int .i64 k.i) ∧ w.cell? (x.add (j * 3 + 2)) = some (.int .i64 k.n)
theorem Kps.below {w w' : World} {a : Option Addr} {len : Nat} {ks : List Kp} (h : Kps w a len ks) (hb : Below w.heap.size w w') : Kps w' a len ks := by
  obtain ⟨h1, h2, h3, h4, h5⟩ := h
  refine ⟨h1, h2, h3, h4, fun x hx j k hk => ?_⟩
  obtain ⟨a1, a2, a3⟩ := h5 x hx j k hk
  exact ⟨(hb.cell (block_lt_of_cell a1)).trans a1, (hb.cell (block_lt_of_cell a2)).trans a2, (hb.cell (block_lt_of_cell a3)).trans a3⟩
theorem Kps.at {w : World} {a : Option Addr} {len j : Nat} {ks : List Kp} {k : Kp} (h : Kps w a len ks) (hk : ks[j]? = some k) :
    ∃ b off, a = some ⟨b, off, none⟩ ∧ w.cell? ⟨b, off + j * 3, none⟩ = some (.string k.nm) ∧ w.cell? ⟨b, off + j * 3 + 1, none⟩ = some (.int .i64 k.i) ∧ w.cell? ⟨b, off + j * 3 + 2, none⟩ = some (.int .i64 k.n) := by
  obtain ⟨h1, h2, h3, h4, h5⟩ := h
  have hjl : j < ks.length := (List.getElem?_eq_some_iff.1 hk).1
  cases a with
  | none => have := h3 rfl; omega
  | some x =>
    obtain ⟨b, off, spot⟩ := x
    obtain ⟨k0, hk0⟩ : ∃ k0, ks[0]? = some k0 := ⟨_, List.getElem?_eq_getElem (by omega)⟩
    have hspot : spot = none := by simpa [Addr.add] using World.cell?_spot (h5 _ rfl 0 k0 hk0).1
    subst hspot
    obtain ⟨a1, a2, a3⟩ := h5 _ rfl j k hk
    rw [add_none] at a1 a2 a3
    exact ⟨b, off, rfl, a1, by rw [Nat.add_assoc]; exact a2, by rw [Nat.add_assoc]; exact a3⟩
/-- What the first of a list that names a spot keeps. -/
def kget (ks : List Kp) (s : List UInt8) (i : Int) : Option Int := (ks.find? fun k => decide (k.nm.data.toList = s ∧ k.i = i)).map Kp.n
def kfOf (ks : List Kp) (s : List UInt8) (i : Int) : Int := (kget ks s i).getD 0
theorem kget_snoc (ks : List Kp) (k : Kp) (s : List UInt8) (i : Int) : kget (ks ++ [k]) s i = (kget ks s i).or (if k.nm.data.toList = s ∧ k.i = i then some k.n else none) := by
  unfold kget
  rw [List.find?_append]
  cases ks.find? fun k => decide (k.nm.data.toList = s ∧ k.i = i) with
  | some x => rfl
  | none =>
    by_cases h : k.nm.data.toList = s ∧ k.i = i
    · simp [h]
    · simp only [List.find?_cons, List.find?_nil, decide_eq_false h, if_neg h]
      rfl
/-- The map holds what the first of some keep. -/
def KM (w : World) (b N : Nat) (ks : List Kp) : Prop :=
  ∃ D, w.ownsMap (H := Unit) Try.prog 73 (plainElem Try.prog 3) b N D ∧ (∀ (s : ByteArray) (i : Int), s.size ≤ maxLen → (Lit.int .i64 i).wf = true →
    Maps.has D (.string (spk s.data.toList i)) = (kget ks s.data.toList i).isSome ∧ D.atKey (.string (spk s.data.toList i)) (.lit (.int .i64 0)) = .lit (.int .i64 (kfOf ks s.data.toList i)))
theorem KM.kept {w : World} {b N : Nat} {ks : List Kp} (h : KM w b N ks) (hN : N ≤ maxLen) : KeptMap w b (kfOf ks) := by
  obtain ⟨D, h1, h2⟩ := h
  exact ⟨N, D, h1, hN, fun s i hs hi => (h2 s i hs hi).2⟩
theorem KM.below {w w' : World} {b N : Nat} {ks : List Kp} (h : KM w b N ks) (hb : w'.heap[b]? = w.heap[b]?) : KM w' b N ks := by
  obtain ⟨D, ⟨es, clock, h1, h2⟩, h3⟩ := h
  exact ⟨D, ⟨es, clock, hb.trans h1, h2⟩, h3⟩
/-- A spot that is there already, and one that is not. -/
theorem KM.look {w : World} {b N : Nat} {ks : List Kp} (h : KM w b N ks) (k : Kp) (hs : k.nm.size ≤ maxLen) (hi : (Lit.int .i64 k.i).wf = true) :
    ∃ v, (Instr.lookup 86 (.map (some b)) (.agg #[.string k.nm, .int .i64 k.i]) true).run Try.prog w = .ok (.tuple #[v, .bool (kget ks k.nm.data.toList k.i).isSome]) w := by
  obtain ⟨D, h1, h2⟩ := h
  obtain ⟨v, ps, hrun, _⟩ := h1.look_ok lawSpot Try.underlying86 (zeroInt w) (plainElem_int Try.underlying3 (by decide)) (keyOf_spot k.nm k.i hs hi)
  rw [(h2 k.nm k.i hs hi).1] at hrun
  exact ⟨v, hrun⟩
theorem KM.skip {w : World} {b N : Nat} {ks : List Kp} (h : KM w b N ks) (k : Kp) (hk : (kget ks k.nm.data.toList k.i).isSome = true) : KM w b N (ks ++ [k]) := by
  obtain ⟨D, h1, h2⟩ := h
  refine ⟨D, h1, fun s i hs hi => ?_⟩
  have e : kget (ks ++ [k]) s.data.toList i = kget ks s.data.toList i := by
    rw [kget_snoc]
    by_cases hc : k.nm.data.toList = s.data.toList ∧ k.i = i
    · rw [hc.1, hc.2] at hk
      obtain ⟨y, hy⟩ := Option.isSome_iff_exists.1 hk
      rw [hy]
      rfl
    · rw [if_neg hc]
      cases kget ks s.data.toList i <;> rfl
  unfold kfOf
  rw [e]
  exact h2 s i hs hi
theorem KM.store {w : World} {b N : Nat} {ks : List Kp} (h : KM w b N ks) (k : Kp) (hs : k.nm.size ≤ maxLen) (hi : (Lit.int .i64 k.i).wf = true) (hn : (Lit.int .i64 k.n).wf = true) (hN : N < maxLen) (hk : (kget ks k.nm.data.toList k.i).isSome = false) :
    ∃ w', (Instr.mapUpdate 86 (.map (some b)) (.agg #[.string k.nm, .int .i64 k.i]) (.int .i64 k.n)).run Try.prog w = .ok () w' ∧ KM w' b (N + 1) (ks ++ [k]) ∧ w.grownBy w' (some b) := by
  obtain ⟨D, h1, h2⟩ := h
  obtain ⟨w', hrun, hown, hg⟩ := h1.update lawSpot Try.underlying86 hN (keyOf_spot k.nm k.i hs hi) (plainElem_int (H := Unit) Try.underlying3 hn)
  refine ⟨w', hrun, ⟨_, hown, fun s i hs' hi' => ?_⟩, hg⟩
  have hnone : kget ks k.nm.data.toList k.i = none := by
    cases hc : kget ks k.nm.data.toList k.i with
    | none => rfl
    | some y => rw [hc] at hk; cases hk
  unfold kfOf
  rw [kget_snoc]
  by_cases hc : k.nm.data.toList = s.data.toList ∧ k.i = i
  · rw [if_pos hc, ← hc.1, ← hc.2, hnone]
    exact ⟨has_put_same h1.isMap (by first | trivial | exact ⟨_, rfl⟩ | decide) _, atKey_put_same h1.isMap (by first | trivial | exact ⟨_, rfl⟩ | decide) _ _⟩
  · rw [if_neg hc]
    have hne : (Lit.string (spk s.data.toList i)) ≠ Lit.string (spk k.nm.data.toList k.i) := by
      intro e
      have e1 : spk s.data.toList i = spk k.nm.data.toList k.i := by simpa using e
      obtain ⟨e2, e3⟩ := spk_inj hs' hi' hs hi e1
      exact hc ⟨by rw [e2], e3.symm⟩
    rw [has_put_other hne, atKey_put_other hne]
    have := h2 s i hs' hi'
    unfold kfOf at this
    cases hk2 : kget ks s.data.toList i with
    | none => rw [hk2] at this; exact this
    | some y => rw [hk2] at this; exact this
set_option maxHeartbeats 2000000 in
set_option maxRecDepth 100000 in
theorem firstKept_any (w : World) (a : Option Addr) (len cap : Nat) (ks : List Kp) (h : Kps w a len ks) :
    Calls Try.prog 48 #[.slice a len cap] w fun e w' => ∃ b, e = .returned (.map (some b)) ∧ w.heap.size ≤ b ∧ KeptMap w' b (kfOf ks) ∧ Below w.heap.size w w' := by
  have hmm := fun n w => makeMap_hint Try.underlying86 n w
  have hl6 := h.2.1
  have HL := hidn h.1
  have HH := hidn h
  clear h
  go_enter Try.func48, Try.ntmps48
  go_wp2_with fail
  go_loopw [14] (fun iv wr => ∃ j : Nat, j ≤ len ∧ iv = .int .i64 (j : Int) ∧ KM wr w.heap.size j (ks.take j) ∧ Below w.heap.size w wr) (fun iv _ => len - (intOf iv).toNat)
  case atStart => exact ⟨0, Nat.zero_le _, rfl, ⟨.map [], World.ownsMap_made _ _ _ _, fun s i _ _ => ⟨rfl, rfl⟩⟩, (Below.refl _ _).alloc (Nat.le_refl _) _⟩
  case round =>
    obtain ⟨j, hj, rfl, hK, hb⟩ := hrel
    by_cases hlt : j < len
    · have hlt2 : (j : Int) < (len : Int) := by omega
      obtain ⟨k, hk⟩ : ∃ k, ks[j]? = some k := ⟨_, List.getElem?_eq_getElem (by rw [HL.out]; exact hlt)⟩
      obtain ⟨b, off, rfl, c0, c1, c2⟩ := (HH.out.below hb).at hk
      obtain ⟨hs, hi, hn⟩ := HH.out.2.2.2.1 k (List.mem_of_getElem? hk)
      have hnext : Hid (ks.take (j + 1) = ks.take j ++ [k]) := hidn (by rw [List.take_add_one, hk]; rfl)
      have hsz : w.heap.size ≤ wr.heap.size := hb.size
      clear hk
      obtain ⟨nm, ki, kn⟩ := k
      simp only at c0 c1 c2 hs hi hn
      obtain ⟨wB, hwB⟩ : ∃ wB, wB = (wr.alloc (.cells #[.string nm, .int .i64 ki, .int .i64 kn] 90)).alloc (.cells #[.string nm, .int .i64 ki] 73) := ⟨_, rfl⟩
      have hbB0 : Below wr.heap.size wr wB := by rw [hwB]; exact ((Below.refl _ _).alloc (Nat.le_refl _) _).alloc (by simp) _
      have hbB : Below w.heap.size w wB := hb.trans (hbB0.mono hsz)
      have hKB : KM wB w.heap.size j (ks.take j) := hK.below (hbB0.block _ (by obtain ⟨D, h1, _⟩ := hK; exact h1.lt))
      obtain ⟨lv, hlk⟩ := hKB.look ⟨nm, ki, kn⟩ hs hi
      simp only at hlk
      have hst := hKB.store ⟨nm, ki, kn⟩ hs hi hn (by unfold maxLen; omega)
      have hsk := hKB.skip ⟨nm, ki, kn⟩
      simp only at hst hsk
      have HST := hidn hst
      have HSK := hidn hsk
      have HBB := hidn hbB
      have q0 : wB.cell? ⟨wr.heap.size + 1, 0, none⟩ = some (.string nm) := by
        rw [hwB]
        have := heap_alloc_new (wr.alloc (.cells #[.string nm, .int .i64 ki, .int .i64 kn] 90)) (.cells #[.string nm, .int .i64 ki] 73)
        rw [World.size_alloc] at this
        exact cell_of_row _ _ _ _ _ _ this
      have q1 : wB.cell? ⟨wr.heap.size + 1, 1, none⟩ = some (.int .i64 ki) := by
        rw [hwB]
        have := heap_alloc_new (wr.alloc (.cells #[.string nm, .int .i64 ki, .int .i64 kn] 90)) (.cells #[.string nm, .int .i64 ki] 73)
        rw [World.size_alloc] at this
        exact cell_of_row _ _ _ _ _ _ this
      have q2 : wB.cell? ⟨wr.heap.size, 2, none⟩ = some (.int .i64 kn) := by
        rw [hwB]
        have h1 := heap_alloc_new wr (.cells #[.string nm, .int .i64 ki, .int .i64 kn] 90)
        have h2 := Below.heap_alloc (wr.alloc (.cells #[.string nm, .int .i64 ki, .int .i64 kn] 90)) (.cells #[.string nm, .int .i64 ki] 73) wr.heap.size (by simp)
        exact cell_of_row _ _ _ _ _ _ (h2.trans h1)
      clear hst hsk hbB hbB0 hKB hK
      cases hg : (kget (ks.take j) nm.data.toList ki).isSome with
      | true =>
        rw [hg] at hlk
        have HK2 : Hid (KM wB w.heap.size (j + 1) (ks.take (j + 1))) := hidn (by
          rw [hnext.out]
          obtain ⟨D, h1, h2⟩ := HSK.out hg
          exact ⟨D, h1.mono (by omega), h2⟩)
        clear hg
        rw [hwB] at hlk
        go_wp2_with fail
        rw [← hwB]
        exact ⟨⟨j + 1, by omega, by go_num, HK2.out, HBB.out⟩, by simp [intOf]; omega⟩
      | false =>
        rw [hg] at hlk
        obtain ⟨wC, hup, hKC, hgC⟩ := HST.out hg
        have HK2 : Hid (KM wC w.heap.size (j + 1) (ks.take (j + 1))) := hidn (by rw [hnext.out]; exact hKC)
        have HB2 : Hid (Below w.heap.size w wC) := hidn (HBB.out.grown hgC HBB.out.size (fun k hk => by cases hk; exact Nat.le_refl _))
        clear hg hKC hgC
        rw [hwB] at hlk hup q0 q1 q2
        go_wp2_with fail
        exact ⟨⟨j + 1, by omega, by go_num, HK2.out, HB2.out⟩, by simp [intOf]; omega⟩
    · have hlt2 : ¬ (j : Int) < (len : Int) := by omega
      obtain rfl : j = len := by omega
      have htk : ks.take j = ks := List.take_of_length_le (by rw [HL.out]; exact Nat.le_refl _)
      rw [htk] at hK
      go_wp2_with fail
      go_ret
      exact ⟨_, rfl, Nat.le_refl _, hK.kept (by unfold maxLen; omega), hb⟩
end Go.Proofs.Ytocfbokgbpaneaa

namespace Go.Proofs.Ytocfbokgbpaneaa
open Go.RowKit Go.Maps
set_option linter.unusedVariables false
structure StK where
  s : Stp
  ks : List Kp
def StKOk (W : World) (s : StK) : Prop := s.s.nm.size ≤ maxLen ∧ Bs W s.s.ba s.s.bl s.s.zs ∧ Kps W s.s.ka s.s.kl s.ks ∧ (0 ≤ s.s.m6 ∧ s.s.m6 ≤ 255) ∧ (-9223372036854775808 ≤ s.s.n3 ∧ s.s.n3 ≤ 9223372036854775807) ∧ (-9223372036854775808 ≤ s.s.op ∧ s.s.op ≤ 9223372036854775807) ∧ (-9223372036854775808 ≤ s.s.i ∧ s.s.i ≤ 9223372036854775807) ∧ (-9223372036854775808 ≤ s.s.at2 ∧ s.s.at2 ≤ 9223372036854775807)
def StsK (w : World) (a : Option Addr) (len : Nat) (l : List StK) : Prop :=
  l.length = len ∧ len ≤ maxLen ∧ (a = none → len = 0) ∧ (∀ s ∈ l, StKOk w s) ∧ ∀ x, a = some x → ∀ j s, l[j]? = some s → ∀ k v, s.s.cells[k]? = some v → w.cell? (x.add (j * 8 + k)) = some v
theorem StsK.sts {w : World} {a : Option Addr} {len : Nat} {l : List StK} (h : StsK w a len l) : Sts w a len (l.map StK.s) := by
  obtain ⟨h1, h2, h3, h4, h5⟩ := h
  refine ⟨by rw [List.length_map]; exact h1, h2, h3, fun s hs => ?_, fun x hx j s hs k v hv => ?_⟩
  · obtain ⟨t, ht, rfl⟩ := List.mem_map.1 hs
    exact ⟨(h4 t ht).1, (h4 t ht).2.1⟩
  · rw [List.getElem?_map] at hs
    obtain ⟨t, ht, rfl⟩ := Option.map_eq_some_iff.1 hs
    exact h5 x hx j t ht k v hv
end Go.Proofs.Ytocfbokgbpaneaa
