/- StripeOne: the law's walk. -/
import Derived.Test.YtdbogbiklabmkaaDoorMe
import Derived.Test.YtdbogbiklabmkaaDoorStrPartsX
import Derived.Test.YtdbogbiklabmkaaDoorDiskCopy
import Derived.Test.YtdbogbiklabmkaaDoorDiskDamD
namespace Go.Proofs.YtdbogbiklabmkaaDoor
open Go.RowKit Go.Maps
set_option linter.unusedVariables false
theorem DiskOf.other {w w' : World} {d N : Nat} {F : Nat → Prop} {M : List UInt8 → List Ext} {free fuse : Int} (h : DiskOf w d F N M free fuse) (hb : ∀ k, F k → w'.heap[k]? = w.heap[k]?) : DiskOf w' d F N M free fuse := by
  obtain ⟨bm, D, G, C, h1, h2, h3, h4, h5, h6, h7⟩ := h
  refine ⟨bm, D, G, C, (hb d h2).trans h1, h2, h3, ?_, h5, fun s hs => ?_, h7⟩
  · obtain ⟨es, clock, hbk, Ft, hs, hD⟩ := h4
    exact ⟨es, clock, (hb bm h3.1).trans hbk, Ft, hs, hD⟩
  · obtain ⟨a1, a2, a3⟩ := h6 s hs
    refine ⟨a1, ?_, a3⟩
    obtain ⟨hl, hr⟩ := a2
    refine ⟨hl, ?_⟩
    rcases hr with hr | ⟨g, cap, cur, hv, hg, hh, r⟩
    · exact .inl hr
    · refine .inr ⟨g, cap, cur, hv, hg, ?_, r⟩
      cases hv
      exact (hb _ (h3.2 s hs)).trans hh
theorem partsI (w : World) (d : Nat) (F : Nat → Prop) (N : Nat) (M : List UInt8 → List Ext) (free fuse : Int) (g : Nat) (pp : List Nat) (E m : Nat) (h : DiskOf w d F N M free fuse) (hT : CrcTab w) (hm : pp.length = m) (hm1 : m ≤ 1500) (HE : Hid (E = grpB m)) (hpb : ∀ x ∈ pp, x < 256) (hg : g ≤ 4611686018427387904) (bad : Nat → Nat → Bool) (hM : Turned M g pp E bad) (hone : ∀ j f k, j < E → f < 4 → k < 4 → bad f j = true → k ≠ f → bad k j = false) :
    ∀ w5 sb, StripeAt w5 sb d x0 x1 x2 x3 g → Below w.heap.size w w5 → ∀ e, 105 * e ≤ m → e / 3 < E → PartGood w5 sb pp e := by
  intro w5 sb hA hb e he hi3
  obtain ⟨f, hf⟩ : ∃ f, f = e % 3 := ⟨_, rfl⟩
  obtain ⟨i, hi⟩ : ∃ i, i = e / 3 := ⟨_, rfl⟩
  have hE : 1 ≤ E ∧ m ≤ 315 * E ∧ E ≤ 5 := by
    rw [HE.out]; unfold grpB
    split <;> omega
  have hiE : i < E := by rw [hi]; exact hi3
  have e1 : partS pp f i = partT pp e := partS_eq pp f i e (by omega)
  have l1 : (partT pp e).length ≤ 105 := by unfold partT; rw [List.length_take]; omega
  have b1 : ∀ x ∈ partT pp e, x < 256 := fun x hx => hpb x (List.mem_of_mem_drop (List.mem_of_mem_take hx))
  have eF : slotF pp f i = slotB (partT pp e) := by unfold slotF; rw [if_pos (by omega), e1]
  intro wx hbx
  have hbw : Below w.heap.size w wx := hb.trans (hbx.mono hb.size)
  have hread : ∀ wy, Below wx.heap.size wx wy → Calls Tryd.prog 31 #[.pointer (some ⟨sb, 0, none⟩), .int .i64 (f : Int), .int .i64 (i : Int)] wy fun e w' => e = .returned (.tuple #[.agg (vb (slotX pp bad i f)).toArray, .bool (!bad f i)]) ∧ Below wy.heap.size wy w' := fun wy hby => by
    have hbwy : Below w.heap.size w wy := hbw.trans (hby.mono hbw.size)
    exact readT wy d F N M free fuse (h.below hbwy) (hT.below hbwy) g hg pp hpb E (by omega) bad hM sb f i (hA.below (hbx.trans (hby.mono hbx.size))) (by omega) hiE
  cases hbf : bad f i with
  | false =>
    have e3 : slotX pp bad i f = slotB (partT pp e) := by unfold slotX; rw [hbf, if_neg (by decide), eF]
    refine spart_ok wx sb e f i (by omega) hf.symm hi.symm (slotB (partT pp e)) (partT pp e) _ rfl l1 b1 (hidn rfl) (hidn (fun wy hby => ?_))
    have := hread wy hby
    rw [e3, hbf] at this
    exact this
  | true =>
    obtain ⟨r1, r2, r3⟩ := rest_one hpb bad i f (by omega) hbf (fun k hk hne => hone i f k hiE (by omega) hk hbf hne)
    refine spart_rest wx sb e f i (by omega) hf.symm hi.symm (slotX pp bad i f) (slotB (partT pp e)) (partT pp e) (slotX_ok hpb bad i f).1 f 1 (by omega) _ rfl l1 b1 (hidn rfl) (hidn (fun wy hby => ?_)) (hidn (fun wy hby => ?_))
    · have := hread wy hby
      rw [hbf] at this
      exact this
    · have hbwy : Below w.heap.size w wy := hbw.trans (hby.mono hbw.size)
      have := lookT wy d F N M free fuse (h.below hbwy) (hT.below hbwy) g hg pp hpb E (by omega) bad hM sb i (hA.below (hbx.trans (hby.mono hbx.size))) hiE
      rw [r1, r2, r3, eF] at this
      exact this
theorem partsO2 (w : World) (d : Nat) (F : Nat → Prop) (N : Nat) (M : List UInt8 → List Ext) (free fuse : Int) (g : Nat) (pp : List Nat) (E m : Nat) (h : DiskOf w d F N M free fuse) (hT : CrcTab w) (hm : pp.length = m) (hm1 : m ≤ 1500) (HE : Hid (E = grpB m)) (hpb : ∀ x ∈ pp, x < 256) (hg : g ≤ 4611686018427387904) (bad : Nat → Nat → Bool) (hM : Turned M g pp E bad) (hone : ∀ j f k, j < E → f < 4 → k < 4 → bad f j = true → k ≠ f → bad k j = false) :
    ∀ w5 sb, StripeAt w5 sb d x0 x1 x2 x3 g → Below w.heap.size w w5 → ∀ e, 105 * e ≤ m → PartGood w5 sb pp e ∨ (PartNone w5 sb e ∧ (105 * e < m → False)) := by
  intro w5 sb hA hb e he
  obtain ⟨f, hf⟩ : ∃ f, f = e % 3 := ⟨_, rfl⟩
  obtain ⟨i, hi⟩ : ∃ i, i = e / 3 := ⟨_, rfl⟩
  have hE : 1 ≤ E ∧ m ≤ 315 * E ∧ E ≤ 5 := by
    rw [HE.out]; unfold grpB
    split <;> omega
  have hsz : ∀ k, k < 4 → (nameX k).size ≤ maxLen := nameX_size
  have hlen := hM.len
  by_cases hiE : i < E
  · left
    exact partsI w d F N M free fuse g pp E m h hT hm hm1 HE hpb hg bad hM hone w5 sb hA hb e he (by rw [← hi]; exact hiE)
  · right
    refine ⟨fun wx hbx => ?_, fun hh => by omega⟩
    have hbw : Below w.heap.size w wx := hb.trans (hbx.mono hb.size)
    have hrd : ∀ k : Nat, k < 4 → ∀ wy, Below wx.heap.size wx wy → Calls Tryd.prog 31 #[.pointer (some ⟨sb, 0, none⟩), .int .i64 (k : Int), .int .i64 (i : Int)] wy fun e w' => e = .returned (.tuple #[.agg (vb (List.replicate 106 0)).toArray, .bool false]) ∧ Below wy.heap.size wy w' := fun k hk wy hby => by
      have hbwy : Below w.heap.size w wy := hbw.trans (hby.mono hbw.size)
      exact sread_none wy d g F N _ free fuse (h.below hbwy) (hT.below hbwy) sb k i x0 x1 x2 x3 (nameX k) (hA.below (hbx.trans (hby.mono hbx.size))) hk (hidn rfl) (hsz k hk) E (hidn (hlen k hk)) (by omega) (List.replicate 106 0) (hidn rfl)
    refine spart_lost wx sb e f i (by omega) hf.symm hi.symm (List.replicate 106 0) (restS (fun _ => List.replicate 106 0) (fun _ => false) 4) rfl rfl (wrongS (fun _ => false) 4) (countS (fun _ => false) 4) (by rw [countF]; omega) (hidn (hrd f (by omega))) (hidn ?_)
    intro wy hby
    exact look_any wy sb i (fun _ => List.replicate 106 0) (fun _ => false) (hidn (fun _ _ => ⟨rfl, fun x hx => by rw [List.eq_of_mem_replicate hx]; omega⟩)) (hidn (fun k hk wz hbz => hrd k hk wz (hby.trans (hbz.mono hby.size)))) _ (hidn rfl) _ _ (hidn rfl) (hidn rfl)
/-- Numbers that came in. -/
def Ils (w : World) (a : Option Addr) (len : Nat) (xs : List Int) : Prop :=
  xs.length = len ∧ len ≤ maxLen ∧ (a = none → len = 0) ∧ ∀ x, a = some x → ∀ j b, xs[j]? = some b → w.cell? (x.add j) = some (.int .i64 b)
theorem Ils.below {w w' : World} {a : Option Addr} {len : Nat} {bs : List Int} (h : Ils w a len bs) (hb : Below w.heap.size w w') : Ils w' a len bs := by
  obtain ⟨h1, h2, h3, h4⟩ := h
  refine ⟨h1, h2, h3, fun x hx j b hj => ?_⟩
  have := h4 x hx j b hj
  exact (hb.cell (block_lt_of_cell this)).trans this
theorem Ils.at {w : World} {a : Option Addr} {len j : Nat} {bs : List Int} {c : Int} (h : Ils w a len bs) (hj : bs[j]? = some c) : ∃ b off, a = some ⟨b, off, none⟩ ∧ w.cell? ⟨b, off + j, none⟩ = some (.int .i64 c) := by
  obtain ⟨h1, h2, h3, h4⟩ := h
  have hjl : j < bs.length := (List.getElem?_eq_some_iff.1 hj).1
  cases a with
  | none => have := h3 rfl; omega
  | some x =>
    obtain ⟨b, off, spot⟩ := x
    obtain ⟨c0, hc0⟩ : ∃ c0, bs[0]? = some c0 := ⟨_, List.getElem?_eq_getElem (by omega)⟩
    have hspot : spot = none := by simpa [Addr.add] using World.cell?_spot (h4 _ rfl 0 c0 hc0)
    subst hspot
    have := h4 _ rfl j c hj
    rw [add_none] at this
    exact ⟨b, off, rfl, this⟩
theorem uwrap6 (x : Int) : ∃ u : Nat, IntKind.u64.wrap x = (u : Int) ∧ u < 18446744073709551616 := by
  refine ⟨(IntKind.u64.wrap x).toNat, ?_, ?_⟩ <;> rw [IntKind.wrap_u64] <;> omega
def FilesAt (w : World) (fb : Nat) : Prop := w.heap[fb]? = some (.cells #[.string x0, .string x1, .string x2, .string x3] 9 (0, 0))
theorem FilesAt.at {w : World} {fb : Nat} (h : FilesAt w fb) (f : Nat) (hf : f < 4) : w.cell? ⟨fb, f, none⟩ = some (.string (nameX f)) := by
  rw [cell_of_row _ _ _ _ _ _ h]
  match f, hf with
  | 0, _ => rfl
  | 1, _ => rfl
  | 2, _ => rfl
  | 3, _ => rfl
theorem FilesAt.lt {w : World} {fb : Nat} (h : FilesAt w fb) : fb < w.heap.size := (Array.getElem?_eq_some_iff.1 h).1
/-- No other files, and all that is not bad is durable as it was synced. -/
structure Clean (M : List UInt8 → List Ext) (E : Nat) (bad : Nat → Nat → Bool) : Prop where
  other : ∀ s, (∀ k, k < 4 → s ≠ (nameX k).data.toList) → M s = []
  ext : ∀ k, k < 4 → ∀ j, j < E → bad k j = false → ∀ x, (M (nameX k).data.toList)[j]? = some x → x.dur = x.syn
/-- All but the first few of the chosen ones are mended, up to a group. -/
def bdO (fs : Nat → Nat) (lo hi : Nat) : Nat → Nat → Bool := fun k j => decide (lo ≤ j ∧ j < hi) && (k == fs j)
theorem bdO_more (fs : Nat → Nat) (i : Nat) : (fun k' j' => bdO fs 0 i k' j' || (k' == fs i && j' == i)) = bdO fs 0 (i + 1) := by
  funext k j
  unfold bdO
  by_cases hj : j = i
  · subst hj
    simp
  · have e1 : (j == i) = false := by simpa using hj
    rw [e1, Bool.and_false, Bool.or_false, show decide (0 ≤ j ∧ j < i) = decide (0 ≤ j ∧ j < i + 1) from decide_eq_decide.2 (by omega)]
theorem bdO_less (fs : Nat → Nat) (i W : Nat) (hi : i < W) : (fun k' j' => bdO fs i W k' j' && !(k' == fs i && j' == i)) = bdO fs (i + 1) W := by
  funext k j
  unfold bdO
  by_cases hj : j = i
  · subst hj
    by_cases hk : k = fs j
    · rw [show decide (j + 1 ≤ j ∧ j < W) = false from decide_eq_false (by omega)]
      simp [hk]
    · have e1 : (k == fs j) = false := by simpa using hk
      simp [e1]
  · have e1 : (j == i) = false := by simpa using hj
    rw [e1, Bool.and_false, Bool.not_false, Bool.and_true, show decide (i ≤ j ∧ j < W) = decide (i + 1 ≤ j ∧ j < W) from decide_eq_decide.2 (by omega)]
theorem bdO_idle (fs : Nat → Nat) (i W : Nat) (hi : ¬ i < W) : bdO fs i W = bdO fs (i + 1) W := by
  funext k j
  unfold bdO
  rw [show decide (i ≤ j ∧ j < W) = decide (i + 1 ≤ j ∧ j < W) from decide_eq_decide.2 (by omega)]
theorem bdO_none (fs : Nat → Nat) (i W : Nat) (hi : W ≤ i) : bdO fs i W = fun _ _ => false := by
  funext k j
  unfold bdO
  have : decide (i ≤ j ∧ j < W) = false := decide_eq_false (by omega)
  rw [this]
  rfl
theorem bdO_one (fs : Nat → Nat) (lo hi j f k : Nat) (hb : bdO fs lo hi f j = true) (hne : k ≠ f) : bdO fs lo hi k j = false := by
  unfold bdO at hb ⊢
  simp at hb
  have : (k == fs j) = false := by simp; omega
  rw [this, Bool.and_false]
theorem nameX_other (k : Nat) (hk : k < 4) {s : List UInt8} (h : ∀ k, k < 4 → s ≠ (nameX k).data.toList) : s ≠ (nameX k).data.toList := h k hk
theorem clean_rot {M : List UInt8 → List Ext} {E : Nat} {bad : Nat → Nat → Bool} (hC : Clean M E bad) (k j : Nat) (hk : k < 4) (x : Ext) (p m : Nat) :
    Clean (upd M (nameX k).data.toList ((M (nameX k).data.toList).set j (x.rot p m))) E (fun k' j' => bad k' j' || (k' == k && j' == j)) where
  other := fun s hs => by rw [upd_other _ _ _ _ (hs k hk)]; exact hC.other s hs
  ext := fun k' hk' j' hj' hb y hy => by
    rw [Bool.or_eq_false_iff] at hb
    by_cases hkk : k' = k
    · subst hkk
      rw [upd_same] at hy
      have hjj : j' ≠ j := by
        intro e
        have := hb.2
        simp [e] at this
      rw [List.getElem?_set_ne (fun e => hjj e.symm)] at hy
      exact hC.ext k' hk' j' hj' hb.1 y hy
    · rw [upd_other _ _ _ _ (nameX_ne k' hk' k hk hkk)] at hy
      exact hC.ext k' hk' j' hj' hb.1 y hy
theorem synced_clean {x : Ext} (h : x.dur = x.syn) : x.synced.dur = x.synced.syn := by
  unfold Ext.synced
  split
  · rfl
  · exact h
theorem clean_mend {M : List UInt8 → List Ext} {E : Nat} {bad : Nat → Nat → Bool} (hC : Clean M E bad) (k j : Nat) (hk : k < 4) (x : Ext) (z : List Nat) :
    Clean (upd M (nameX k).data.toList (((M (nameX k).data.toList).set j (x.wrote z)).map Ext.synced)) E (fun k' j' => bad k' j' && !(k' == k && j' == j)) where
  other := fun s hs => by rw [upd_other _ _ _ _ (hs k hk)]; exact hC.other s hs
  ext := fun k' hk' j' hj' hb y hy => by
    by_cases hkk : k' = k
    · subst hkk
      rw [upd_same, List.getElem?_map] at hy
      obtain ⟨z', hz', rfl⟩ := Option.map_eq_some_iff.1 hy
      by_cases hjj : j' = j
      · subst hjj
        rw [List.getElem?_set] at hz'
        simp only [if_true] at hz'
        split at hz'
        · cases hz'
          rw [synced_wrote]
        · cases hz'
      · rw [List.getElem?_set_ne (fun e => hjj e.symm)] at hz'
        have e1 : (j' == j) = false := by simpa using hjj
        rw [e1, Bool.and_false, Bool.not_false, Bool.and_true] at hb
        exact synced_clean (hC.ext k' hk' j' hj' hb z' hz')
    · rw [upd_other _ _ _ _ (nameX_ne k' hk' k hk hkk)] at hy
      have e1 : (k' == k) = false := by simpa using hkk
      rw [e1, Bool.false_and, Bool.not_false, Bool.and_true] at hb
      exact hC.ext k' hk' j' hj' hb y hy
theorem clean_diskX (g : Nat) (pp : List Nat) (E : Nat) : Clean (diskX g pp E 4) E (fun _ _ => false) where
  other := fun s hs => by
    rw [diskX_succ, upd_other _ _ _ _ (hs 3 (by omega)), diskX_succ, upd_other _ _ _ _ (hs 2 (by omega)), diskX_succ, upd_other _ _ _ _ (hs 1 (by omega)), diskX_succ, upd_other _ _ _ _ (hs 0 (by omega))]
    rfl
  ext := fun k hk j hj _ x hx => by
    rw [diskX_at g pp E 4 k hk (Nat.le_refl _), fileS_get _ _ _ _ _ _ hj] at hx
    cases hx
    rfl
/-- The file that each of some numbers chooses. -/
def fsOf (xs : List Int) (j : Nat) : Nat := (IntKind.u64.wrap (xs.getD j 0)).toNat % 4
theorem fs4 (xs : List Int) (j : Nat) : fsOf xs j < 4 := Nat.mod_lt _ (by omega)
theorem diskX_len (g : Nat) (pp : List Nat) (E : Nat) (hE : E ≤ 1000000) (s : List UInt8) : (diskX g pp E 4 s).length ≤ 1000000 := by
  by_cases h : ∀ k, k < 4 → s ≠ (nameX k).data.toList
  · rw [(clean_diskX g pp E).other s h]
    exact Nat.zero_le _
  · have : ∃ k, k < 4 ∧ s = (nameX k).data.toList := by
      by_cases h0 : s = (nameX 0).data.toList
      · exact ⟨0, by omega, h0⟩
      by_cases h1 : s = (nameX 1).data.toList
      · exact ⟨1, by omega, h1⟩
      by_cases h2 : s = (nameX 2).data.toList
      · exact ⟨2, by omega, h2⟩
      by_cases h3 : s = (nameX 3).data.toList
      · exact ⟨3, by omega, h3⟩
      exact absurd (fun k hk => by
        match k, hk with
        | 0, _ => exact h0
        | 1, _ => exact h1
        | 2, _ => exact h2
        | 3, _ => exact h3) h
    obtain ⟨k, hk, rfl⟩ := this
    rw [← (turned_diskX g pp E).len k hk]
    exact hE
/-- A disk some extents of whose four files are bad, its copy, and the list of the files' names. -/
def OneI (d dc fb : Nat) (F Fc : Nat → Prop) (N : Nat) (free : Int) (pp : List Nat) (E : Nat) (bad : Nat → Nat → Bool) (w : World) : Prop :=
  ∃ M, DiskOf w d F N M free (-1) ∧ Turned M 4 pp E bad ∧ Clean M E bad ∧ Sound5 w F ∧ DiskOf w dc Fc N (diskX 4 pp E 4) free (-1) ∧ FilesAt w fb ∧ ∀ k, Fc k → k < w.heap.size
theorem OneI.below {d dc fb N E : Nat} {F Fc : Nat → Prop} {free : Int} {pp : List Nat} {bad : Nat → Nat → Bool} {w w' : World} (h : OneI d dc fb F Fc N free pp E bad w) (hb : Below w.heap.size w w') : OneI d dc fb F Fc N free pp E bad w' := by
  obtain ⟨M, h1, h2, h3, h4, h5, h6, h7⟩ := h
  exact ⟨M, h1.below hb, h2, h3, h4.below hb, h5.below hb, (hb.block _ h6.lt).trans h6, fun k hk => Nat.lt_of_lt_of_le (h7 k hk) hb.size⟩
theorem oneI_next {d dc fb N E : Nat} {F Fc : Nat → Prop} {free : Int} {pp : List Nat} {bad' : Nat → Nat → Bool} {w w' : World} {M' : List UInt8 → List Ext} (hNC : ∀ k, Fc k → ¬ F k) (hnf : ¬ F fb) (h4 : Sound5 w F) (h5 : DiskOf w dc Fc N (diskX 4 pp E 4) free (-1)) (h6 : FilesAt w fb) (h7 : ∀ k, Fc k → k < w.heap.size)
    (hG : Gr F F w w') (hD : DiskOf w' d F N M' free (-1)) (hT : Turned M' 4 pp E bad') (hC : Clean M' E bad') : OneI d dc fb F Fc N free pp E bad' w' :=
  ⟨M', hD, hT, hC, h4.gr hG, h5.other (fun k hk => hG.1.block k (h7 k hk) (hNC k hk)), (hG.1.block _ h6.lt hnf).trans h6, fun k hk => Nat.lt_of_lt_of_le (h7 k hk) hG.1.size⟩
theorem name_cases (s : List UInt8) : (∀ k, k < 4 → s ≠ (nameX k).data.toList) ∨ ∃ k, k < 4 ∧ s = (nameX k).data.toList := by
  by_cases h0 : s = (nameX 0).data.toList
  · exact .inr ⟨0, by omega, h0⟩
  by_cases h1 : s = (nameX 1).data.toList
  · exact .inr ⟨1, by omega, h1⟩
  by_cases h2 : s = (nameX 2).data.toList
  · exact .inr ⟨2, by omega, h2⟩
  by_cases h3 : s = (nameX 3).data.toList
  · exact .inr ⟨3, by omega, h3⟩
  refine .inl (fun k hk => ?_)
  match k, hk with
  | 0, _ => exact h0
  | 1, _ => exact h1
  | 2, _ => exact h2
  | 3, _ => exact h3
/-- How often a name is among some. -/
def cntN (n : List UInt8) (ts : List (List UInt8)) : Nat := (ts.map fun s => if s = n then 1 else 0).sum
theorem cntN_cons (n s : List UInt8) (ts : List (List UInt8)) : cntN n (s :: ts) = (if s = n then 1 else 0) + cntN n ts := by
  unfold cntN
  rw [List.map_cons, List.sum_cons]
theorem cntN_not {n : List UInt8} : ∀ {ts : List (List UInt8)}, n ∉ ts → cntN n ts = 0
  | [], _ => rfl
  | t :: r, h => by
    simp at h
    rw [cntN_cons, if_neg (fun e => h.1 e.symm), cntN_not h.2]
theorem cntN_le {n : List UInt8} : ∀ {ts : List (List UInt8)}, ts.Nodup → cntN n ts ≤ 1
  | [], _ => Nat.zero_le _
  | t :: r, h => by
    rw [List.nodup_cons] at h
    rw [cntN_cons]
    by_cases e : t = n
    · subst e
      rw [cntN_not h.1, if_pos rfl]
      exact Nat.le_refl _
    · rw [if_neg e, Nat.zero_add]
      exact cntN_le h.2
theorem tot_four {M : List UInt8 → List Ext} {E : Nat} (hE : E ≤ 5) (hl : ∀ k, k < 4 → E = (M (nameX k).data.toList).length) (ho : ∀ s, (∀ k, k < 4 → s ≠ (nameX k).data.toList) → M s = []) : ∀ ts : List (List UInt8), ts.Nodup → (ts.map fun s => (M s).length).sum ≤ 1000000 := by
  have h1 : ∀ ts : List (List UInt8), (ts.map fun s => (M s).length).sum ≤ 5 * (cntN (nameX 0).data.toList ts + cntN (nameX 1).data.toList ts + cntN (nameX 2).data.toList ts + cntN (nameX 3).data.toList ts) := by
    intro ts
    induction ts with
    | nil => exact Nat.zero_le _
    | cons t r ih =>
      rw [List.map_cons, List.sum_cons, cntN_cons, cntN_cons, cntN_cons, cntN_cons]
      rcases name_cases t with h | ⟨k, hk, rfl⟩
      · rw [ho t h, if_neg (h 0 (by omega)), if_neg (h 1 (by omega)), if_neg (h 2 (by omega)), if_neg (h 3 (by omega))]
        simp only [List.length_nil]
        omega
      · rw [← hl k hk]
        match k, hk with
        | 0, _ => rw [if_pos rfl]; omega
        | 1, _ => rw [if_pos (show (nameX 1).data.toList = (nameX 1).data.toList from rfl)]; omega
        | 2, _ => rw [if_pos (show (nameX 2).data.toList = (nameX 2).data.toList from rfl)]; omega
        | 3, _ => rw [if_pos (show (nameX 3).data.toList = (nameX 3).data.toList from rfl)]; omega
  intro ts hnd
  have h2 := h1 ts
  have c0 := cntN_le (n := (nameX 0).data.toList) hnd
  have c1 := cntN_le (n := (nameX 1).data.toList) hnd
  have c2 := cntN_le (n := (nameX 2).data.toList) hnd
  have c3 := cntN_le (n := (nameX 3).data.toList) hnd
  omega
theorem clean_none {M : List UInt8 → List Ext} {E : Nat} (hl : ∀ k, k < 4 → E = (M (nameX k).data.toList).length) (hC : Clean M E (fun _ _ => false)) : ∀ s, ∀ x ∈ M s, x.bad = false := by
  intro s x hx
  rcases name_cases s with h | ⟨k, hk, rfl⟩
  · rw [hC.other s h] at hx
    cases hx
  · obtain ⟨j, hj, he⟩ := List.mem_iff_getElem.1 hx
    have := hC.ext k hk j (by rw [hl k hk]; exact hj) rfl x (by rw [List.getElem?_eq_getElem hj, he])
    unfold Ext.bad
    rw [decide_eq_true this]
    rfl
end Go.Proofs.YtdbogbiklabmkaaDoor
