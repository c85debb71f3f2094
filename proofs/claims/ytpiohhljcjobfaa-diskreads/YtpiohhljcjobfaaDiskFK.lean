/- The disk: what a crash keeps of each spot, of any list. -/
import Derived.Test.YtpiohhljcjobfaaDiskKept
namespace Go.Proofs.Ytpiohhljcjobfaa
open Go.RowKit Go.Maps
set_option linter.unusedVariables false
structure Kp where
  nm : ByteArray
  i : Int
  n : Int
def Kps (w : World) (a : Option Addr) (len : Nat) (ks : List Kp) : Prop :=
  ks.length = len ∧ len ≤ 9223372036854775807 ∧ (a = none → len = 0) ∧ (∀ k ∈ ks, k.nm.size ≤ maxLen ∧ (Lit.int .i64 k.i).wf = true ∧ (Lit.int .i64 k.n).wf = true) ∧
    ∀ x, a = some x → ∀ j k, ks[j]? = some k → w.cell? (x.add (j * 3)) = some (.string k.nm) ∧ w.cell? (x.add (j * 3 + 1)) = some (.int .i64 k.i) ∧ w.cell? (x.add (j * 3 + 2)) = some (.int .i64 k.n)
theorem Kps.below {w w' : World} {a : Option Addr} {len : Nat} {ks : List Kp} (h : Kps w a len ks) (hb : Below w.heap.size w w') : Kps w' a len ks := by
  obtain ⟨h1, h2, h3, h4, h5⟩ := h
  refine ⟨h1, h2, h3, h4, fun x hx j k hk => ?_⟩
  obtain ⟨a1, a2, a3⟩ := h5 x hx j k hk
  exact ⟨(hb.cell (block_lt_of_cell a1)).trans a1, (hb.cell (block_lt_of_cell a2)).trans a2, (hb.cell (block_lt_of_cell a3)).trans a3⟩
theorem Kps.at {w : World} {a : Option Addr} {len j : Nat} {ks : List Kp} {k : Kp} (h : Kps w a len ks) (hk : ks[j]? = some k) :
    ∃ b off, a = some ⟨b, off, none⟩ ∧ w.cell? ⟨b, off + j * 3, none⟩ = some (.string k.nm) ∧ w.cell? ⟨b, off + j * 3 + 1, none⟩ = some (.int .i64 k.i) ∧ w.cell? ⟨b, off + j * 3 + 2, none⟩ = some (.int .i64 k.n) := by
  obtain ⟨h1, h2, h3, h4, h5⟩ := h
  have hjl : j < ks.length := (List.getElem?_eq_some_iff.1 hk).1
  cases a with
  | none => have := h3 rfl; omega
  | some x =>
    obtain ⟨b, off, spot⟩ := x
    obtain ⟨k0, hk0⟩ : ∃ k0, ks[0]? = some k0 := ⟨_, List.getElem?_eq_getElem (by omega)⟩
    have hspot : spot = none := by simpa [Addr.add] using World.cell?_spot (h5 _ rfl 0 k0 hk0).1
    subst hspot
    obtain ⟨a1, a2, a3⟩ := h5 _ rfl j k hk
    rw [add_none] at a1 a2 a3
    exact ⟨b, off, rfl, a1, by rw [Nat.add_assoc]; exact a2, by rw [Nat.add_assoc]; exact a3⟩
/-- What the first of a list that names a spot keeps. -/
def kget (ks : List Kp) (s : List UInt8) (i : Int) : Option Int := (ks.find? fun k => decide (k.nm.data.toList = s ∧ k.i = i)).map Kp.n
def kfOf (ks : List Kp) (s : List UInt8) (i : Int) : Int := (kget ks s i).getD 0
theorem kget_snoc (ks : List Kp) (k : Kp) (s : List UInt8) (i : Int) : kget (ks ++ [k]) s i = (kget ks s i).or (if k.nm.data.toList = s ∧ k.i = i then some k.n else none) := by
  unfold kget
  rw [List.find?_append]
  cases ks.find? fun k => decide (k.nm.data.toList = s ∧ k.i = i) with
  | some x => rfl
  | none =>
    by_cases h : k.nm.data.toList = s ∧ k.i = i
    · simp [h]
    · simp only [List.find?_cons, List.find?_nil, decide_eq_false h, if_neg h]
      rfl
/-- The map holds what the first of some keep. -/
def KM (w : World) (b N : Nat) (ks : List Kp) : Prop :=
  ∃ D, w.ownsMap (H := Unit) Try.prog 69 (plainElem Try.prog 3) b N D ∧ (∀ (s : ByteArray) (i : Int), s.size ≤ maxLen → (Lit.int .i64 i).wf = true →
    Maps.has D (.string (spk s.data.toList i)) = (kget ks s.data.toList i).isSome ∧ D.atKey (.string (spk s.data.toList i)) (.lit (.int .i64 0)) = .lit (.int .i64 (kfOf ks s.data.toList i)))
theorem KM.kept {w : World} {b N : Nat} {ks : List Kp} (h : KM w b N ks) (hN : N ≤ maxLen) : KeptMap w b (kfOf ks) := by
  obtain ⟨D, h1, h2⟩ := h
  exact ⟨N, D, h1, hN, fun s i hs hi => (h2 s i hs hi).2⟩
theorem KM.below {w w' : World} {b N : Nat} {ks : List Kp} (h : KM w b N ks) (hb : w'.heap[b]? = w.heap[b]?) : KM w' b N ks := by
  obtain ⟨D, ⟨es, clock, h1, h2⟩, h3⟩ := h
  exact ⟨D, ⟨es, clock, hb.trans h1, h2⟩, h3⟩
/-- A spot that is there already, and one that is not. -/
theorem KM.look {w : World} {b N : Nat} {ks : List Kp} (h : KM w b N ks) (k : Kp) (hs : k.nm.size ≤ maxLen) (hi : (Lit.int .i64 k.i).wf = true) :
    ∃ v, (Instr.lookup 96 (.map (some b)) (.agg #[.string k.nm, .int .i64 k.i]) true).run Try.prog w = .ok (.tuple #[v, .bool (kget ks k.nm.data.toList k.i).isSome]) w := by
  obtain ⟨D, h1, h2⟩ := h
  obtain ⟨v, ps, hrun, _⟩ := h1.look_ok lawSpot Try.underlying96 (zeroInt w) (plainElem_int Try.underlying3 (by decide)) (keyOf_spot k.nm k.i hs hi)
  rw [(h2 k.nm k.i hs hi).1] at hrun
  exact ⟨v, hrun⟩
theorem KM.skip {w : World} {b N : Nat} {ks : List Kp} (h : KM w b N ks) (k : Kp) (hk : (kget ks k.nm.data.toList k.i).isSome = true) : KM w b N (ks ++ [k]) := by
  obtain ⟨D, h1, h2⟩ := h
  refine ⟨D, h1, fun s i hs hi => ?_⟩
  have e : kget (ks ++ [k]) s.data.toList i = kget ks s.data.toList i := by
    rw [kget_snoc]
    by_cases hc : k.nm.data.toList = s.data.toList ∧ k.i = i
    · rw [hc.1, hc.2] at hk
      obtain ⟨y, hy⟩ := Option.isSome_iff_exists.1 hk
      rw [hy]
      rfl
    · rw [if_neg hc]
      cases kget ks s.data.toList i <;> rfl
  unfold kfOf
  rw [e]
  exact h2 s i hs hi
theorem KM.store {w : World} {b N : Nat} {ks : List Kp} (h : KM w b N ks) (k : Kp) (hs : k.nm.size ≤ maxLen) (hi : (Lit.int .i64 k.i).wf = true) (hn : (Lit.int .i64 k.n).wf = true) (hN : N < maxLen) (hk : (kget ks k.nm.data.toList k.i).isSome = false) :
    ∃ w', (Instr.mapUpdate 96 (.map (some b)) (.agg #[.string k.nm, .int .i64 k.i]) (.int .i64 k.n)).run Try.prog w = .ok () w' ∧ KM w' b (N + 1) (ks ++ [k]) ∧ w.grownBy w' (some b) := by
  obtain ⟨D, h1, h2⟩ := h
  obtain ⟨w', hrun, hown, hg⟩ := h1.update lawSpot Try.underlying96 hN (keyOf_spot k.nm k.i hs hi) (plainElem_int (H := Unit) Try.underlying3 hn)
  refine ⟨w', hrun, ⟨_, hown, fun s i hs' hi' => ?_⟩, hg⟩
  have hnone : kget ks k.nm.data.toList k.i = none := by
    cases hc : kget ks k.nm.data.toList k.i with
    | none => rfl
    | some y => rw [hc] at hk; cases hk
  unfold kfOf
  rw [kget_snoc]
  by_cases hc : k.nm.data.toList = s.data.toList ∧ k.i = i
  · rw [if_pos hc, ← hc.1, ← hc.2, hnone]
    exact ⟨has_put_same h1.isMap (by first | trivial | exact ⟨_, rfl⟩ | decide) _, atKey_put_same h1.isMap (by first | trivial | exact ⟨_, rfl⟩ | decide) _ _⟩
  · rw [if_neg hc]
    have hne : (Lit.string (spk s.data.toList i)) ≠ Lit.string (spk k.nm.data.toList k.i) := by
      intro e
      have e1 : spk s.data.toList i = spk k.nm.data.toList k.i := by simpa using e
      obtain ⟨e2, e3⟩ := spk_inj hs' hi' hs hi e1
      exact hc ⟨by rw [e2], e3.symm⟩
    rw [has_put_other hne, atKey_put_other hne]
    have := h2 s i hs' hi'
    unfold kfOf at this
    cases hk2 : kget ks s.data.toList i with
    | none => rw [hk2] at this; exact this
    | some y => rw [hk2] at this; exact this
set_option maxHeartbeats 2000000 in
set_option maxRecDepth 100000 in
theorem firstKept_any (w : World) (a : Option Addr) (len cap : Nat) (ks : List Kp) (h : Kps w a len ks) :
    Calls Try.prog 56 #[.slice a len cap] w fun e w' => ∃ b, e = .returned (.map (some b)) ∧ w.heap.size ≤ b ∧ KeptMap w' b (kfOf ks) ∧ Below w.heap.size w w' := by
  have hmm := fun n w => makeMap_hint Try.underlying96 n w
  have hl6 := h.2.1
  have HL := hidn h.1
  have HH := hidn h
  clear h
  go_enter Try.func56, Try.ntmps56
  go_wp2_with fail
  go_loopw [14] (fun iv wr => ∃ j : Nat, j ≤ len ∧ iv = .int .i64 (j : Int) ∧ KM wr w.heap.size j (ks.take j) ∧ Below w.heap.size w wr) (fun iv _ => len - (intOf iv).toNat)
  case atStart => exact ⟨0, Nat.zero_le _, rfl, ⟨.map [], World.ownsMap_made _ _ _ _, fun s i _ _ => ⟨rfl, rfl⟩⟩, (Below.refl _ _).alloc (Nat.le_refl _) _⟩
  case round =>
    obtain ⟨j, hj, rfl, hK, hb⟩ := hrel
    by_cases hlt : j < len
    · have hlt2 : (j : Int) < (len : Int) := by omega
      obtain ⟨k, hk⟩ : ∃ k, ks[j]? = some k := ⟨_, List.getElem?_eq_getElem (by rw [HL.out]; exact hlt)⟩
      obtain ⟨b, off, rfl, c0, c1, c2⟩ := (HH.out.below hb).at hk
      obtain ⟨hs, hi, hn⟩ := HH.out.2.2.2.1 k (List.mem_of_getElem? hk)
      have hnext : Hid (ks.take (j + 1) = ks.take j ++ [k]) := hidn (by rw [List.take_add_one, hk]; rfl)
      have hsz : w.heap.size ≤ wr.heap.size := hb.size
      clear hk
      obtain ⟨nm, ki, kn⟩ := k
      simp only at c0 c1 c2 hs hi hn
      obtain ⟨wB, hwB⟩ : ∃ wB, wB = (wr.alloc (.cells #[.string nm, .int .i64 ki, .int .i64 kn] 101)).alloc (.cells #[.string nm, .int .i64 ki] 69) := ⟨_, rfl⟩
      have hbB0 : Below wr.heap.size wr wB := by rw [hwB]; exact ((Below.refl _ _).alloc (Nat.le_refl _) _).alloc (by simp) _
      have hbB : Below w.heap.size w wB := hb.trans (hbB0.mono hsz)
      have hKB : KM wB w.heap.size j (ks.take j) := hK.below (hbB0.block _ (by obtain ⟨D, h1, _⟩ := hK; exact h1.lt))
      obtain ⟨lv, hlk⟩ := hKB.look ⟨nm, ki, kn⟩ hs hi
      simp only at hlk
      have hst := hKB.store ⟨nm, ki, kn⟩ hs hi hn (by unfold maxLen; omega)
      have hsk := hKB.skip ⟨nm, ki, kn⟩
      simp only at hst hsk
      have HST := hidn hst
      have HSK := hidn hsk
      have HBB := hidn hbB
      have q0 : wB.cell? ⟨wr.heap.size + 1, 0, none⟩ = some (.string nm) := by
        rw [hwB]
        have := heap_alloc_new (wr.alloc (.cells #[.string nm, .int .i64 ki, .int .i64 kn] 101)) (.cells #[.string nm, .int .i64 ki] 69)
        rw [World.size_alloc] at this
        exact cell_of_row _ _ _ _ _ _ this
      have q1 : wB.cell? ⟨wr.heap.size + 1, 1, none⟩ = some (.int .i64 ki) := by
        rw [hwB]
        have := heap_alloc_new (wr.alloc (.cells #[.string nm, .int .i64 ki, .int .i64 kn] 101)) (.cells #[.string nm, .int .i64 ki] 69)
        rw [World.size_alloc] at this
        exact cell_of_row _ _ _ _ _ _ this
      have q2 : wB.cell? ⟨wr.heap.size, 2, none⟩ = some (.int .i64 kn) := by
        rw [hwB]
        have h1 := heap_alloc_new wr (.cells #[.string nm, .int .i64 ki, .int .i64 kn] 101)
        have h2 := Below.heap_alloc (wr.alloc (.cells #[.string nm, .int .i64 ki, .int .i64 kn] 101)) (.cells #[.string nm, .int .i64 ki] 69) wr.heap.size (by simp)
        exact cell_of_row _ _ _ _ _ _ (h2.trans h1)
      clear hst hsk hbB hbB0 hKB hK
      cases hg : (kget (ks.take j) nm.data.toList ki).isSome with
      | true =>
        rw [hg] at hlk
        have HK2 : Hid (KM wB w.heap.size (j + 1) (ks.take (j + 1))) := hidn (by
          rw [hnext.out]
          obtain ⟨D, h1, h2⟩ := HSK.out hg
          exact ⟨D, h1.mono (by omega), h2⟩)
        clear hg
        rw [hwB] at hlk
        go_wp2_with fail
        rw [← hwB]
        exact ⟨⟨j + 1, by omega, by go_num, HK2.out, HBB.out⟩, by simp [intOf]; omega⟩
      | false =>
        rw [hg] at hlk
        obtain ⟨wC, hup, hKC, hgC⟩ := HST.out hg
        have HK2 : Hid (KM wC w.heap.size (j + 1) (ks.take (j + 1))) := hidn (by rw [hnext.out]; exact hKC)
        have HB2 : Hid (Below w.heap.size w wC) := hidn (HBB.out.grown hgC HBB.out.size (fun k hk => by cases hk; exact Nat.le_refl _))
        clear hg hKC hgC
        rw [hwB] at hlk hup q0 q1 q2
        go_wp2_with fail
        exact ⟨⟨j + 1, by omega, by go_num, HK2.out, HB2.out⟩, by simp [intOf]; omega⟩
    · have hlt2 : ¬ (j : Int) < (len : Int) := by omega
      obtain rfl : j = len := by omega
      have htk : ks.take j = ks := List.take_of_length_le (by rw [HL.out]; exact Nat.le_refl _)
      rw [htk] at hK
      go_wp2_with fail
      go_ret
      exact ⟨_, rfl, Nat.le_refl _, hK.kept (by unfold maxLen; omega), hb⟩
end Go.Proofs.Ytpiohhljcjobfaa
