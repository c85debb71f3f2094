/- Stripes: a text that was stored as x, some extents turned: reads, parts. -/
import Derived.Test.YtdbogbiklabmkaaDoorStrF
namespace Go.Proofs.YtdbogbiklabmkaaDoor
open Go.RowKit Go.Maps
set_option linter.unusedVariables false

/-- The four files as they were stored, but those extents that are bad. -/
structure Turned (M : List UInt8 → List Ext) (g : Nat) (pp : List Nat) (E : Nat) (bad : Nat → Nat → Bool) : Prop where
  nil : M [] = []
  len : ∀ k, k < 4 → E = (M (nameX k).data.toList).length
  ext : ∀ k, k < 4 → ∀ j, j < E → ∃ x, (M (nameX k).data.toList)[j]? = some x ∧ x.waits = false ∧ (bad k j = true → openB x.rd (nums (nameX k)) (j : Int) = none) ∧ (bad k j = false → x.rd = frameB (nums (nameX k)) j g (payS pp k j))
def slotX (pp : List Nat) (bad : Nat → Nat → Bool) (j k : Nat) : List Nat := if bad k j then List.replicate 106 0 else slotF pp k j
theorem slotF_ok {pp : List Nat} (hpb : ∀ x ∈ pp, x < 256) (k j : Nat) : (slotF pp k j).length = 106 ∧ ∀ x ∈ slotF pp k j, x < 256 := by
  unfold slotF
  split
  · exact ⟨slotB_length _ (partS_le _ _ _), slotB_lt _ (partS_le _ _ _) (partS_mem hpb k j)⟩
  · exact accS_ok hpb j 3
theorem slotX_ok {pp : List Nat} (hpb : ∀ x ∈ pp, x < 256) (bad : Nat → Nat → Bool) (j k : Nat) : (slotX pp bad j k).length = 106 ∧ ∀ x ∈ slotX pp bad j k, x < 256 := by
  unfold slotX
  split
  · exact ⟨rfl, fun x hx => by rw [List.eq_of_mem_replicate hx]; omega⟩
  · exact slotF_ok hpb k j
theorem nameX_size (k : Nat) (hk : k < 4) : (nameX k).size ≤ maxLen := by have := (name_size (nameX_ok k hk)).2; unfold maxLen; omega

theorem turned_diskX (g : Nat) (pp : List Nat) (E : Nat) : Turned (diskX g pp E 4) g pp E (fun _ _ => false) where
  nil := diskX_nil g pp E 4 (Nat.le_refl _)
  len := fun k hk => by rw [diskX_at g pp E 4 k hk (Nat.le_refl _), List.length_map, fileS_length]
  ext := fun k hk j hj => ⟨_, by rw [diskX_at g pp E 4 k hk (Nat.le_refl _)]; exact fileS_get _ _ _ _ _ _ hj, rfl, (fun h => nomatch h), fun _ => rd_stored _⟩
theorem xor_ne6 (x y : Nat) (h : y ≠ 0) : x ^^^ y ≠ x := by
  intro e
  have : x ^^^ (x ^^^ y) = x ^^^ x := by rw [e]
  rw [← Nat.xor_assoc, Nat.xor_self, Nat.zero_xor] at this
  exact h this
theorem rd_rot6 (x : Ext) (h : x.waits = false) (k m : Nat) : (x.rot k m).rd = x.rd.set k (x.rd.getD k 0 ^^^ m) := by simp [Ext.rd, Ext.rot, h]
theorem Turned.rot {M : List UInt8 → List Ext} {g : Nat} {pp : List Nat} {E : Nat} {bad : Nat → Nat → Bool} (hM : Turned M g pp E bad) (hpb : ∀ x ∈ pp, x < 256) (k j : Nat) (hk : k < 4) (hj : j < E) (hb : bad k j = false) (x : Ext) (hx : (M (nameX k).data.toList)[j]? = some x) (p m : Nat) (hp : p < 128) (hm : m < 256) (hm0 : m ≠ 0) :
    Turned (upd M (nameX k).data.toList ((M (nameX k).data.toList).set j (x.rot p m))) g pp E (fun k' j' => bad k' j' || (k' == k && j' == j)) where
  nil := by
    have : ∀ k, k < 4 → ([] : List UInt8) ≠ (nameX k).data.toList := by decide +kernel
    rw [upd_other _ _ _ _ (this k hk)]
    exact hM.nil
  len := fun k' hk' => by
    by_cases hkk : k' = k
    · subst hkk; rw [upd_same, List.length_set]; exact hM.len k' hk'
    · rw [upd_other _ _ _ _ (nameX_ne k' hk' k hk hkk)]; exact hM.len k' hk'
  ext := fun k' hk' j' hj' => by
    by_cases hkk : k' = k
    · subst hkk
      rw [upd_same]
      by_cases hjj : j' = j
      · subst hjj
        obtain ⟨x', hx', hw, _, hgd⟩ := hM.ext k' hk' j' hj'
        obtain rfl : x' = x := by rw [hx] at hx'; exact (Option.some.inj hx').symm
        refine ⟨x'.rot p m, by rw [List.getElem?_set_self (by rw [← hM.len k' hk']; exact hj')], by simpa [Ext.rot] using hw, fun _ => ?_, fun h => by simp at h⟩
        rw [rd_rot6 x' hw, hgd hb]
        have hP := payS_ok hpb k' j'
        refine openB_turned _ j' j' g _ hP.1 hP.2 p _ hp ?_ (xor_ne6 _ _ hm0)
        refine Nat.xor_lt_two_pow (n := 8) ?_ hm
        exact getD_b (by rw [frameB_length _ j' g _ hP.1]; exact hp) (frameB_lt _ j' g _ hP.1 hP.2)
      · obtain ⟨x', hx', hw, h1, h2⟩ := hM.ext k' hk' j' hj'
        refine ⟨x', by rw [List.getElem?_set_ne (fun h => hjj h.symm)]; exact hx', hw, fun h => h1 (by simpa [hjj] using h), fun h => h2 (by simpa [hjj] using h)⟩
    · rw [upd_other _ _ _ _ (nameX_ne k' hk' k hk hkk)]
      obtain ⟨x', hx', hw, h1, h2⟩ := hM.ext k' hk' j' hj'
      exact ⟨x', hx', hw, fun h => h1 (by simpa [hkk] using h), fun h => h2 (by simpa [hkk] using h)⟩

theorem storeXr (w w1 : World) (r : Nat) (hr : r ≤ 100000) (hb1 : Below w.heap.size w w1) (hs1 : w1.heap.size = w.heap.size + 2) (d : Nat) (hD1 : DiskOf w1 d (fun k => w.heap.size ≤ k ∧ k < w.heap.size + 2) 0 (fun _ => []) r (-1)) (w1' : World) (hb1' : Below w1.heap.size w1 w1') (hT : CrcTab w) (g : Nat) (hg : g ≤ 4611686018427387904) (a : Option Addr) (m cap : Nat) (pp : List Nat) (hB1 : BsF (fun k => w.heap.size ≤ k ∧ k < w.heap.size + 2) w1' a m pp) (hcap : m ≤ cap) (hm : m ≤ 1500) (E : Nat) (HE : Hid (E = grpB m)) (hEr : 4 * E ≤ r) :
    Calls Tryd.prog 5 #[.pointer (some ⟨d, 0, none⟩), .string ⟨#[120]⟩, .int .i64 g, .slice a m cap] w1' fun e w' => e = .returned (.int .i64 0) ∧ ∃ F', DiskOf w' d F' (4 * E) (diskX g pp E 4) (r - 4 * E) (-1) ∧ Sound5 w' F' ∧ (∀ k, F' k → w.heap.size ≤ k) ∧ Below w.heap.size w w' := by
  have hE6 : E ≤ 5 := by rw [HE.out]; unfold grpB; split <;> omega
  have hb11 : Below w.heap.size w w1' := hb1.trans (hb1'.mono hb1.size)
  have hS1 : Sound5 w1' (fun k => w.heap.size ≤ k ∧ k < w.heap.size + 2) := ⟨hT.below hb11, fun hF => by have := hT.lt; omega, fun k hk => by have := hb1'.size; omega⟩
  refine (sstoreAll_new w1' d _ 0 _ r g pp E (hD1.below hb1') hS1 rfl ⟨#[120]⟩ x0 x1 x2 x3 (by decide) (hidn (by decide +kernel)) (hidn (by decide +kernel)) (hidn (by decide +kernel)) (hidn (by decide +kernel)) (hidn nameX_ok) (hidn (fun _ _ => rfl)) (hidn (fun k hk => diskX_other g pp E k k (Nat.le_refl _) hk)) hg a m cap hB1 hcap (by omega) HE (by unfold maxLen; omega) (by omega) (by omega)).mono ?_
  rintro e w' ⟨rfl, F', hD, hG⟩
  rw [Nat.zero_add] at hD
  exact ⟨rfl, F', hD, hS1.gr hG, hG.ge (by have := hb1'.size; omega) (fun k hk => hk.1), hb11.trans (hG.1.below hb11.size (fun k hk => hk.1))⟩

theorem restS_ok {L : Nat → List Nat} (h : ∀ k, (L k).length = 106 ∧ ∀ x ∈ L k, x < 256) (ok : Nat → Bool) : ∀ k, (restS L ok k).length = 106 ∧ ∀ x ∈ restS L ok k, x < 256
  | 0 => ⟨rfl, fun x hx => by rw [List.eq_of_mem_replicate hx]; omega⟩
  | k + 1 => by
    have ih := restS_ok h ok k
    unfold restS
    split
    · exact ⟨xorL_length ih.1 (h k).1, xorL_lt ih.2 (h k).2⟩
    · exact ih
theorem restS_length {L : Nat → List Nat} (h : ∀ k, (L k).length = 106) (ok : Nat → Bool) : ∀ k, (restS L ok k).length = 106
  | 0 => rfl
  | k + 1 => by
    unfold restS
    split
    · exact xorL_length (restS_length h ok k) (h k)
    · exact restS_length h ok k

/-- A read of it. -/
theorem readT (w : World) (d : Nat) (F : Nat → Prop) (N : Nat) (M : List UInt8 → List Ext) (free fuse : Int) (h : DiskOf w d F N M free fuse) (hT : CrcTab w) (g : Nat) (hg : g ≤ 4611686018427387904) (pp : List Nat) (hpb : ∀ x ∈ pp, x < 256) (E : Nat) (hE : E ≤ 1000) (bad : Nat → Nat → Bool) (hM : Turned M g pp E bad) (sb k j : Nat) (hA : StripeAt w sb d x0 x1 x2 x3 g) (hk : k < 4) (hj : j < E) :
    Calls Tryd.prog 31 #[.pointer (some ⟨sb, 0, none⟩), .int .i64 (k : Int), .int .i64 (j : Int)] w fun e w' => e = .returned (.tuple #[.agg (vb (slotX pp bad j k)).toArray, .bool (!bad k j)]) ∧ Below w.heap.size w w' := by
  obtain ⟨x, hx, _, hb, hgd⟩ := hM.ext k hk j hj
  unfold slotX
  cases hbk : bad k j with
  | true => exact sread_bad w d g F N M free fuse h hT sb k j x0 x1 x2 x3 (nameX k) hA hk (hidn rfl) (nameX_size k hk) E (hidn (hM.len k hk)) hj x.rd x (hidn hx) (hidn rfl) (hidn (hb hbk)) (List.replicate 106 0) (hidn rfl)
  | false =>
    have hrd := hgd hbk
    have ho := openB_frame (nums (nameX k)) j g (payS pp k j) (by omega) hg (payS_ok hpb k j).1
    rw [if_neg (by decide)]
    by_cases h3 : k < 3
    · have e1 : payS pp k j = partS pp k j := by unfold payS; rw [if_pos h3]
      have e2 : slotF pp k j = slotB (partS pp k j) := by unfold slotF; rw [if_pos h3]
      rw [e1] at ho hrd
      rw [e2]
      exact sread_part w d g F N M free fuse h hT sb k j x0 x1 x2 x3 (nameX k) hA hk (hidn rfl) (nameX_size k hk) h3 E (hidn (hM.len k hk)) hj (frameB (nums (nameX k)) j g (partS pp k j)) x (hidn hx) (hidn hrd.symm) (partS pp k j) _ rfl (partS_le _ _ _) (partS_mem hpb k j) (hidn ho) _ (hidn rfl)
    · have e1 : payS pp k j = accS pp j 3 := by unfold payS; rw [if_neg h3]
      have e2 : slotF pp k j = accS pp j 3 := by unfold slotF; rw [if_neg h3]
      rw [e1] at ho hrd
      rw [e2]
      exact sread_par w d g F N M free fuse h hT sb k j x0 x1 x2 x3 (nameX k) hA hk (hidn rfl) (nameX_size k hk) (by omega) E (hidn (hM.len k hk)) hj (frameB (nums (nameX k)) j g (accS pp j 3)) x (hidn hx) (hidn hrd.symm) (accS pp j 3) (accS_ok hpb j 3).1 (accS_ok hpb j 3).2 (hidn ho)

/-- look over it. -/
theorem lookT (w : World) (d : Nat) (F : Nat → Prop) (N : Nat) (M : List UInt8 → List Ext) (free fuse : Int) (h : DiskOf w d F N M free fuse) (hT : CrcTab w) (g : Nat) (hg : g ≤ 4611686018427387904) (pp : List Nat) (hpb : ∀ x ∈ pp, x < 256) (E : Nat) (hE : E ≤ 1000) (bad : Nat → Nat → Bool) (hM : Turned M g pp E bad) (sb j : Nat) (hA : StripeAt w sb d x0 x1 x2 x3 g) (hj : j < E) :
    Calls Tryd.prog 22 #[.pointer (some ⟨sb, 0, none⟩), .int .i64 (j : Int)] w fun e w' => e = .returned (.tuple #[.agg (vb (restS (slotX pp bad j) (fun k => !bad k j) 4)).toArray, .int .i64 (wrongS (fun k => !bad k j) 4 : Nat), .int .i64 (countS (fun k => !bad k j) 4 : Nat)]) ∧ Below w.heap.size w w' :=
  look_any w sb j (slotX pp bad j) (fun k => !bad k j) (hidn (fun k _ => slotX_ok hpb bad j k)) (hidn (fun k hk wx hb => readT wx d F N M free fuse (h.below hb) (hT.below hb) g hg pp hpb E hE bad hM sb k j (hA.below hb) hk hj)) _ (hidn rfl) _ _ (hidn rfl) (hidn rfl)

/-- Parts of it, where a group has two bad ones at least or none. -/
theorem partsT (w : World) (d : Nat) (F : Nat → Prop) (N : Nat) (M : List UInt8 → List Ext) (free fuse : Int) (g : Nat) (pp : List Nat) (E m : Nat) (h : DiskOf w d F N M free fuse) (hT : CrcTab w) (hm : pp.length = m) (hm1 : m ≤ 1500) (HE : Hid (E = grpB m)) (hpb : ∀ x ∈ pp, x < 256) (hg : g ≤ 4611686018427387904) (bad : Nat → Nat → Bool) (hM : Turned M g pp E bad) (hct : ∀ j k, j < E → k < 4 → bad k j = true → 1 < countS (fun k => !bad k j) 4) :
    ∀ w5 sb, StripeAt w5 sb d x0 x1 x2 x3 g → Below w.heap.size w w5 → ∀ e, 105 * e ≤ m → PartGood w5 sb pp e ∨ (PartNone w5 sb e ∧ (105 * e < m → True)) := by
  intro w5 sb hA hb e he
  obtain ⟨f, hf⟩ : ∃ f, f = e % 3 := ⟨_, rfl⟩
  obtain ⟨i, hi⟩ : ∃ i, i = e / 3 := ⟨_, rfl⟩
  have hE : 1 ≤ E ∧ m ≤ 315 * E ∧ E ≤ 5 := by
    rw [HE.out]; unfold grpB
    split <;> omega
  by_cases hiE : i < E
  · have hread : ∀ wx, Below w5.heap.size w5 wx → ∀ wy, Below wx.heap.size wx wy → Calls Tryd.prog 31 #[.pointer (some ⟨sb, 0, none⟩), .int .i64 (f : Int), .int .i64 (i : Int)] wy fun e w' => e = .returned (.tuple #[.agg (vb (slotX pp bad i f)).toArray, .bool (!bad f i)]) ∧ Below wy.heap.size wy w' := fun wx hbx wy hby => by
      have hbw : Below w.heap.size w wx := hb.trans (hbx.mono hb.size)
      have hbwy : Below w.heap.size w wy := hbw.trans (hby.mono hbw.size)
      exact readT wy d F N M free fuse (h.below hbwy) (hT.below hbwy) g hg pp hpb E (by omega) bad hM sb f i (hA.below (hbx.trans (hby.mono hbx.size))) (by omega) hiE
    cases hbf : bad f i with
    | false =>
      left
      intro wx hbx
      have e1 : partS pp f i = partT pp e := partS_eq pp f i e (by omega)
      have e3 : slotX pp bad i f = slotB (partT pp e) := by unfold slotX slotF; rw [hbf, if_neg (by decide), if_pos (by omega), e1]
      have l1 : (partT pp e).length ≤ 105 := by unfold partT; rw [List.length_take]; omega
      have b1 : ∀ x ∈ partT pp e, x < 256 := fun x hx => hpb x (List.mem_of_mem_drop (List.mem_of_mem_take hx))
      refine spart_ok wx sb e f i (by omega) hf.symm hi.symm (slotB (partT pp e)) (partT pp e) _ rfl l1 b1 (hidn rfl) (hidn (fun wy hby => ?_))
      have := hread wx hbx wy hby
      rw [e3, hbf] at this
      exact this
    | true =>
      right
      refine ⟨fun wx hbx => ?_, fun _ => trivial⟩
      refine spart_lost wx sb e f i (by omega) hf.symm hi.symm (slotX pp bad i f) (restS (slotX pp bad i) (fun k => !bad k i) 4) (slotX_ok hpb bad i f).1 (restS_length (fun k => (slotX_ok hpb bad i k).1) _ 4) (wrongS (fun k => !bad k i) 4) (countS (fun k => !bad k i) 4) (hct i f hiE (by omega) hbf) (hidn (fun wy hby => ?_)) (hidn (fun wy hby => ?_))
      · have := hread wx hbx wy hby
        rw [hbf] at this
        exact this
      · have hbw : Below w.heap.size w wx := hb.trans (hbx.mono hb.size)
        have hbwy : Below w.heap.size w wy := hbw.trans (hby.mono hbw.size)
        exact lookT wy d F N M free fuse (h.below hbwy) (hT.below hbwy) g hg pp hpb E (by omega) bad hM sb i (hA.below (hbx.trans (hby.mono hbx.size))) hiE
  · right
    refine ⟨fun wx hbx => ?_, fun _ => trivial⟩
    have hbw : Below w.heap.size w wx := hb.trans (hbx.mono hb.size)
    have hrd : ∀ k : Nat, k < 4 → ∀ wy, Below wx.heap.size wx wy → Calls Tryd.prog 31 #[.pointer (some ⟨sb, 0, none⟩), .int .i64 (k : Int), .int .i64 (i : Int)] wy fun e w' => e = .returned (.tuple #[.agg (vb (List.replicate 106 0)).toArray, .bool false]) ∧ Below wy.heap.size wy w' := fun k hk wy hby => by
      have hbwy : Below w.heap.size w wy := hbw.trans (hby.mono hbw.size)
      exact sread_none wy d g F N _ free fuse (h.below hbwy) (hT.below hbwy) sb k i x0 x1 x2 x3 (nameX k) (hA.below (hbx.trans (hby.mono hbx.size))) hk (hidn rfl) (nameX_size k hk) E (hidn (hM.len k hk)) (by omega) (List.replicate 106 0) (hidn rfl)
    refine spart_lost wx sb e f i (by omega) hf.symm hi.symm (List.replicate 106 0) (restS (fun _ => List.replicate 106 0) (fun _ => false) 4) rfl rfl (wrongS (fun _ => false) 4) (countS (fun _ => false) 4) (by rw [countF]; omega) (hidn (hrd f (by omega))) (hidn ?_)
    intro wy hby
    exact look_any wy sb i (fun _ => List.replicate 106 0) (fun _ => false) (hidn (fun _ _ => ⟨rfl, fun x hx => by rw [List.eq_of_mem_replicate hx]; omega⟩)) (hidn (fun k hk wz hbz => hrd k hk wz (hby.trans (hbz.mono hby.size)))) _ (hidn rfl) _ _ (hidn rfl) (hidn rfl)
end Go.Proofs.YtdbogbiklabmkaaDoor
