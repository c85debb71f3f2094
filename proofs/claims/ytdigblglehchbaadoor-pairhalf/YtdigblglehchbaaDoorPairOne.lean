/- Pairs: a disk one file of which was turned, its mending. -/
import Derived.Test.YtdigblglehchbaaDoorPairMend
import Derived.Test.YtdigblglehchbaaDoorPairTold2
import Derived.Test.YtdigblglehchbaaDoorDiskCopy
import Derived.Test.YtdigblglehchbaaDoorDiskDamD
namespace Go.Proofs.YtdigblglehchbaaDoor
open Go.RowKit Go.Maps
set_option linter.unusedVariables false
def fullE (z : List Nat) : Ext := ⟨z, z, z, false⟩
theorem fullE_new (z : List Nat) : (zeroE.wrote z).synced = fullE z := by simp [Ext.synced, Ext.wrote, fullE]
def zF (s : ByteArray) (g : Nat) (pp : List Nat) (j : Nat) : List Nat := frameB (nums s) j g (partP pp j)
def filesF (s : ByteArray) (g : Nat) (zs : List Nat) (E : Nat) : List Ext := (List.range E).map fun j => fullE (zF s g zs j)
theorem filesF_eq (s : ByteArray) (g : Nat) (zs : List Nat) (E : Nat) : (fileL s g zs E).map Ext.synced = filesF s g zs E := by
  simp [fileL, filesF, fullE_new, zF]
theorem filesF_length (s : ByteArray) (g : Nat) (zs : List Nat) (E : Nat) : (filesF s g zs E).length = E := by simp [filesF]
theorem filesF_at (s : ByteArray) (g : Nat) (zs : List Nat) (E i : Nat) (hi : i < E) : (filesF s g zs E)[i]? = some (fullE (zF s g zs i)) := by simp [filesF, hi]
theorem partP_le (zs : List Nat) (i : Nat) : (partP zs i).length ≤ 106 := by unfold partP; rw [List.length_take]; omega
theorem partP_mem {zs : List Nat} (h : ∀ x ∈ zs, x < 256) (i : Nat) : ∀ x ∈ partP zs i, x < 256 := fun x hx => h x (List.mem_of_mem_drop (List.mem_of_mem_take hx))
def nmA : ByteArray := ⟨#[120, 46, 97]⟩
def nmB : ByteArray := ⟨#[120, 46, 98]⟩
theorem fileA_x : fileA nmX = nmA := by decide +kernel
theorem fileB_x : fileB nmX = nmB := by decide +kernel
theorem nmB_ne : nmB.data.toList ≠ nmA.data.toList := by decide +kernel
theorem nm_empty : [] ≠ nmA.data.toList ∧ [] ≠ nmB.data.toList := by constructor <;> decide +kernel
theorem zF_ok (s : ByteArray) (g : Nat) (pp : List Nat) (hz : ∀ x ∈ pp, x < 256) (j : Nat) : (zF s g pp j).length = 128 ∧ ∀ y ∈ zF s g pp j, y < 256 :=
  ⟨frameB_length _ _ _ _ (partP_le pp j), frameB_lt _ _ _ _ (partP_le pp j) (partP_mem hz j)⟩
theorem filesF_bad (s : ByteArray) (g : Nat) (pp : List Nat) (hz : ∀ x ∈ pp, x < 256) (E : Nat) : BadF (filesF s g pp E) E (zF s g pp) := by
  refine ⟨filesF_length _ _ _ _, fun j x hx => ?_⟩
  have hj : j < E := by have := (List.getElem?_eq_some_iff.1 hx).1; rw [filesF_length] at this; exact this
  rw [filesF_at s g pp E j hj] at hx
  cases hx
  have h := zF_ok s g pp hz j
  exact ⟨rfl, rfl, rfl, h, h, h⟩
/-- The disk behind Store. -/
def diskP (g : Nat) (pp : List Nat) (E : Nat) : List UInt8 → List Ext := upd (upd (fun _ => []) nmA.data.toList (filesF nmA g pp E)) nmB.data.toList (filesF nmB g pp E)
theorem diskP_A (g : Nat) (pp : List Nat) (E : Nat) : diskP g pp E nmA.data.toList = filesF nmA g pp E := by
  unfold diskP; rw [upd_other _ _ _ _ (Ne.symm nmB_ne), upd_same]
theorem diskP_B (g : Nat) (pp : List Nat) (E : Nat) : diskP g pp E nmB.data.toList = filesF nmB g pp E := by
  unfold diskP; rw [upd_same]
theorem diskP_o (g : Nat) (pp : List Nat) (E : Nat) (s : List UInt8) (ha : s ≠ nmA.data.toList) (hb : s ≠ nmB.data.toList) : diskP g pp E s = [] := by
  unfold diskP; rw [upd_other _ _ _ _ hb, upd_other _ _ _ _ ha]
theorem diskP_len (g : Nat) (pp : List Nat) (E : Nat) (s : List UInt8) : (diskP g pp E s).length ≤ E := by
  by_cases ha : s = nmA.data.toList
  · rw [ha, diskP_A, filesF_length]; exact Nat.le_refl _
  · by_cases hb : s = nmB.data.toList
    · rw [hb, diskP_B, filesF_length]; exact Nat.le_refl _
    · rw [diskP_o g pp E s ha hb]; exact Nat.zero_le _
/-- One of both is right, the other is right or opens not. -/
def OneOk (g : Nat) (pp : List Nat) (j : Nat) (xa xb : Ext) : Prop :=
  (xa.rd = zF nmA g pp j ∧ (xb.rd = zF nmB g pp j ∨ openB xb.rd (nums nmB) (j : Int) = none)) ∨ (xb.rd = zF nmB g pp j ∧ openB xa.rd (nums nmA) (j : Int) = none)
/-- The files of a pair, the first so many extents right. -/
structure PairS (M : List UInt8 → List Ext) (g : Nat) (pp : List Nat) (E k : Nat) : Prop where
  a : BadF (M nmA.data.toList) E (zF nmA g pp)
  b : BadF (M nmB.data.toList) E (zF nmB g pp)
  o : ∀ s, s ≠ nmA.data.toList → s ≠ nmB.data.toList → M s = []
  ok : ∀ j xa xb, (M nmA.data.toList)[j]? = some xa → (M nmB.data.toList)[j]? = some xb → OneOk g pp j xa xb
  done : ∀ j xa xb, j < k → (M nmA.data.toList)[j]? = some xa → (M nmB.data.toList)[j]? = some xb → xa.rd = zF nmA g pp j ∧ xb.rd = zF nmB g pp j
theorem BadF.at {l : List Ext} {E : Nat} {Z : Nat → List Nat} (h : BadF l E Z) {j : Nat} (hj : j < E) : ∃ x, l[j]? = some x := ⟨_, List.getElem?_eq_getElem (by rw [h.1]; exact hj)⟩
theorem BadF.lt {l : List Ext} {E : Nat} {Z : Nat → List Nat} (h : BadF l E Z) {j : Nat} {x : Ext} (hx : l[j]? = some x) : j < E := by
  have := (List.getElem?_eq_some_iff.1 hx).1; rw [h.1] at this; exact this
theorem told_pairA {g : Nat} {pp : List Nat} {E : Nat} (hz : ∀ x ∈ pp, x < 256) {l : List Ext} (hl : BadF l E (zF nmA g pp)) (hT : ∀ s, ToldAt (upd (diskP g pp E) nmA.data.toList l) (diskP g pp E) s (upd (diskP g pp E) nmA.data.toList l s).length) : PairS (upd (diskP g pp E) nmA.data.toList l) g pp E 0 := by
  refine ⟨by rw [upd_same]; exact hl, by rw [upd_other _ _ _ _ nmB_ne, diskP_B]; exact filesF_bad _ _ _ hz _, fun s ha hb => by rw [upd_other _ _ _ _ ha]; exact diskP_o g pp E s ha hb, ?_, fun j _ _ hj => absurd hj (Nat.not_lt_zero _)⟩
  intro j xa xb hxa hxb
  have h1 := hT nmA.data.toList j xa
  rw [upd_same] at hxa h1
  rw [upd_other _ _ _ _ nmB_ne, diskP_B] at hxb
  have hj := hl.lt hxa
  rw [filesF_at _ _ _ _ _ hj] at hxb
  cases hxb
  by_cases ho : openB xa.rd (nums nmA) (j : Int) = none
  · exact .inr ⟨rfl, ho⟩
  · have h2 := h1 (fullE (zF nmA g pp j)) (by rw [hl.1]; exact hj) hxa (by rw [diskP_A]; exact filesF_at _ _ _ _ _ hj) ho
    exact .inl ⟨h2, .inl rfl⟩
theorem told_pairB {g : Nat} {pp : List Nat} {E : Nat} (hz : ∀ x ∈ pp, x < 256) {l : List Ext} (hl : BadF l E (zF nmB g pp)) (hT : ∀ s, ToldAt (upd (diskP g pp E) nmB.data.toList l) (diskP g pp E) s (upd (diskP g pp E) nmB.data.toList l s).length) : PairS (upd (diskP g pp E) nmB.data.toList l) g pp E 0 := by
  refine ⟨by rw [upd_other _ _ _ _ (Ne.symm nmB_ne), diskP_A]; exact filesF_bad _ _ _ hz _, by rw [upd_same]; exact hl, fun s ha hb => by rw [upd_other _ _ _ _ hb]; exact diskP_o g pp E s ha hb, ?_, fun j _ _ hj => absurd hj (Nat.not_lt_zero _)⟩
  intro j xa xb hxa hxb
  have h1 := hT nmB.data.toList j xb
  rw [upd_same] at hxb h1
  rw [upd_other _ _ _ _ (Ne.symm nmB_ne), diskP_A] at hxa
  have hj := hl.lt hxb
  rw [filesF_at _ _ _ _ _ hj] at hxa
  cases hxa
  by_cases ho : openB xb.rd (nums nmB) (j : Int) = none
  · exact .inl ⟨rfl, .inr ho⟩
  · have h2 := h1 (fullE (zF nmB g pp j)) (by rw [hl.1]; exact hj) hxb (by rw [diskP_B]; exact filesF_at _ _ _ _ _ hj) ho
    exact .inl ⟨rfl, .inl h2⟩
theorem get_half (w : World) (d : Nat) (F : Nat → Prop) (N : Nat) (M : List UInt8 → List Ext) (free fuse : Int) (h : DiskOf w d F N M free fuse) (hT : CrcTab w) (g : Nat) (hg : g ≤ 4611686018427387904) (pp : List Nat) (hz : ∀ x ∈ pp, x < 256) (E k : Nat) (hE : E ≤ 1000) (hS : PairS M g pp E k) (i : Nat) (hi : i < E) :
    Calls Tryd.prog 26 #[.pointer (some ⟨d, 0, none⟩), .string nmX, .int .i64 i] w fun e w' => ∃ a c, e = .returned (.tuple #[.slice a (partP pp i).length c, .int .i64 g, .int .i64 0]) ∧ Bs w' a (partP pp i).length (partP pp i) ∧ Fr5 w.heap.size a ∧ Below w.heap.size w w' := by
  obtain ⟨xa, hxa⟩ := hS.a.at hi
  obtain ⟨xb, hxb⟩ := hS.b.at hi
  have hM0 : M [] = [] := hS.o _ nm_empty.1 nm_empty.2
  have hoA : openB (zF nmA g pp i) (nums nmA) (i : Int) = some (partP pp i, g) := openB_frame _ _ _ _ (by omega) hg (partP_le pp i)
  have hoB : openB (zF nmB g pp i) (nums nmB) (i : Int) = some (partP pp i, g) := openB_frame _ _ _ _ (by omega) hg (partP_le pp i)
  have hpz := partP_mem hz i
  have hsx : nmX.size ≤ 20 := by decide
  have hA' : (M (fileA nmX).data.toList)[i]? = some xa := by rw [fileA_x]; exact hxa
  have hB' : (M (fileB nmX).data.toList)[i]? = some xb := by rw [fileB_x]; exact hxb
  have lA : E = (M (fileA nmX).data.toList).length := by rw [fileA_x]; exact hS.a.1.symm
  have lB : E = (M (fileB nmX).data.toList).length := by rw [fileB_x]; exact hS.b.1.symm
  rcases hS.ok i xa xb hxa hxb with ⟨h1, h2 | h2⟩ | ⟨h1, h2⟩
  · exact get_bothF w d F N M free fuse h hT hM0 nmX hsx i E xa xb hA' hB' lA lB _ _ (hidn rfl) (hidn rfl) (partP pp i) (partP pp i) g g _ _ (hidn (by rw [fileA_x, h1]; exact hoA)) (hidn (by rw [fileB_x, h2]; exact hoB)) rfl rfl hpz hpz (Nat.le_refl _)
  · exact get_oneAF w d F N M free fuse h hT hM0 nmX hsx i E xa xb hA' hB' lA lB _ _ (hidn rfl) (hidn rfl) (partP pp i) g _ (hidn (by rw [fileA_x, h1]; exact hoA)) (hidn (by rw [fileB_x]; exact h2)) rfl hpz
  · exact get_oneBF w d F N M free fuse h hT hM0 nmX hsx i E xa xb hA' hB' lA lB _ _ (hidn rfl) (hidn rfl) (partP pp i) g _ (hidn (by rw [fileA_x]; exact h2)) (hidn (by rw [fileB_x, h1]; exact hoB)) rfl hpz
theorem BadF.synced {l : List Ext} {E : Nat} {Z : Nat → List Nat} (h : BadF l E Z) (i : Nat) (x : Ext) (hx : l[i]? = some x) (z : List Nat) (hzz : z = Z i) (hzo : z.length = 128 ∧ ∀ y ∈ z, y < 256) :
    BadF ((l.set i (x.wrote z)).map Ext.synced) E Z ∧ ∀ j, ((l.set i (x.wrote z)).map Ext.synced)[j]? = if j = i then some (fullE z) else l[j]? := by
  have hil := (List.getElem?_eq_some_iff.1 hx).1
  have hat : ∀ j, ((l.set i (x.wrote z)).map Ext.synced)[j]? = if j = i then some (fullE z) else l[j]? := by
    intro j
    rw [List.getElem?_map]
    by_cases hj : j = i
    · subst hj
      rw [List.getElem?_set_self hil, if_pos rfl]
      rfl
    · rw [List.getElem?_set_ne (fun e => hj e.symm), if_neg hj]
      cases hy : l[j]? with
      | none => rfl
      | some y =>
        have hw := (h.2 j y hy).2.2.1
        show some y.synced = some y
        unfold Ext.synced
        rw [hw]
        rfl
  refine ⟨⟨by rw [List.length_map, List.length_set]; exact h.1, fun j y hy => ?_⟩, hat⟩
  rw [hat j] at hy
  by_cases hj : j = i
  · subst hj
    rw [if_pos rfl] at hy
    cases hy
    exact ⟨hzz, hzz, rfl, hzo, hzo, hzo⟩
  · rw [if_neg hj] at hy
    exact h.2 j y hy
/-- A file behind a mending. -/
theorem mendF_file {M : List UInt8 → List Ext} {f : List UInt8} {E : Nat} {Z : Nat → List Nat} (h : BadF (M f) E Z) (i : Nat) (x : Ext) (hx : (M f)[i]? = some x) (z : List Nat) (hzz : z = Z i) (hzo : z.length = 128 ∧ ∀ y ∈ z, y < 256) :
    BadF (mendF M f i x z f) E Z ∧ (∀ j, j ≠ i → (mendF M f i x z f)[j]? = (M f)[j]?) ∧ ∀ y, (mendF M f i x z f)[i]? = some y → y.rd = z := by
  unfold mendF
  split
  · next hr => exact ⟨h, fun _ _ => rfl, fun y hy => by rw [hx] at hy; cases hy; exact hr⟩
  · rw [upd_same]
    obtain ⟨h1, h2⟩ := h.synced i x hx z hzz hzo
    exact ⟨h1, fun j hj => by rw [h2 j, if_neg hj], fun y hy => by rw [h2 i, if_pos rfl] at hy; cases hy; rfl⟩
theorem pairS_mend {M : List UInt8 → List Ext} {g : Nat} {pp : List Nat} {E i : Nat} (hz : ∀ x ∈ pp, x < 256) (hS : PairS M g pp E i) (xa xb : Ext) (hxa : (M nmA.data.toList)[i]? = some xa) (hxb : (M nmB.data.toList)[i]? = some xb) :
    PairS (mendF (mendF M nmA.data.toList i xa (zF nmA g pp i)) nmB.data.toList i xb (zF nmB g pp i)) g pp E (i + 1) := by
  obtain ⟨a1, a2, a3⟩ := mendF_file hS.a i xa hxa (zF nmA g pp i) rfl (zF_ok _ _ _ hz _)
  have eB : mendF M nmA.data.toList i xa (zF nmA g pp i) nmB.data.toList = M nmB.data.toList := mendF_other _ _ _ _ _ _ nmB_ne
  have hb1 : BadF (mendF M nmA.data.toList i xa (zF nmA g pp i) nmB.data.toList) E (zF nmB g pp) := by rw [eB]; exact hS.b
  obtain ⟨b1, b2, b3⟩ := mendF_file hb1 i xb (by rw [eB]; exact hxb) (zF nmB g pp i) rfl (zF_ok _ _ _ hz _)
  have eA : mendF (mendF M nmA.data.toList i xa (zF nmA g pp i)) nmB.data.toList i xb (zF nmB g pp i) nmA.data.toList = mendF M nmA.data.toList i xa (zF nmA g pp i) nmA.data.toList := mendF_other _ _ _ _ _ _ (Ne.symm nmB_ne)
  have hdone : ∀ j ya yb, (mendF (mendF M nmA.data.toList i xa (zF nmA g pp i)) nmB.data.toList i xb (zF nmB g pp i) nmA.data.toList)[j]? = some ya → (mendF (mendF M nmA.data.toList i xa (zF nmA g pp i)) nmB.data.toList i xb (zF nmB g pp i) nmB.data.toList)[j]? = some yb → (j = i → ya.rd = zF nmA g pp j ∧ yb.rd = zF nmB g pp j) ∧ (j ≠ i → (M nmA.data.toList)[j]? = some ya ∧ (M nmB.data.toList)[j]? = some yb) := by
    intro j ya yb hya hyb
    rw [eA] at hya
    refine ⟨fun hj => ?_, fun hj => ?_⟩
    · subst hj
      exact ⟨a3 ya hya, b3 yb hyb⟩
    · rw [a2 j hj] at hya
      rw [b2 j hj, eB] at hyb
      exact ⟨hya, hyb⟩
  refine ⟨by rw [eA]; exact a1, b1, fun s ha hb => by rw [mendF_other _ _ _ _ _ _ hb, mendF_other _ _ _ _ _ _ ha]; exact hS.o s ha hb, ?_, ?_⟩
  · intro j ya yb hya hyb
    by_cases hj : j = i
    · obtain ⟨h1, h2⟩ := (hdone j ya yb hya hyb).1 hj
      exact .inl ⟨h1, .inl h2⟩
    · obtain ⟨h1, h2⟩ := (hdone j ya yb hya hyb).2 hj
      exact hS.ok j ya yb h1 h2
  · intro j ya yb hjk hya hyb
    by_cases hj : j = i
    · exact (hdone j ya yb hya hyb).1 hj
    · obtain ⟨h1, h2⟩ := (hdone j ya yb hya hyb).2 hj
      exact hS.done j ya yb (by omega) h1 h2
theorem bad_of {l : List Ext} {E : Nat} {Z : Nat → List Nat} (h : BadF l E Z) {j : Nat} {x : Ext} (hx : l[j]? = some x) (hr : x.rd = Z j) : x.bad = false := by
  obtain ⟨h1, h2, h3, _⟩ := h.2 j x hx
  unfold Ext.rd at hr
  rw [h3] at hr
  have hd : x.dur = x.syn := by rw [h1]; exact hr
  unfold Ext.bad
  rw [decide_eq_true hd]
  rfl
theorem pairS_bad {M : List UInt8 → List Ext} {g : Nat} {pp : List Nat} {E : Nat} (hS : PairS M g pp E E) : ∀ s, ∀ x ∈ M s, x.bad = false := by
  intro s x hx
  by_cases ha : s = nmA.data.toList
  · subst ha
    obtain ⟨j, hj⟩ := List.getElem?_of_mem hx
    have hjE := hS.a.lt hj
    obtain ⟨xb, hxb⟩ := hS.b.at hjE
    exact bad_of hS.a hj (hS.done j x xb hjE hj hxb).1
  · by_cases hb : s = nmB.data.toList
    · subst hb
      obtain ⟨j, hj⟩ := List.getElem?_of_mem hx
      have hjE := hS.b.lt hj
      obtain ⟨xa, hxa⟩ := hS.a.at hjE
      exact bad_of hS.b hj (hS.done j xa x hjE hxa hj).2
    · rw [hS.o s ha hb] at hx
      cases hx
def cntN (n : List UInt8) (ts : List (List UInt8)) : Nat := ts.count n
theorem cntN_le {n : List UInt8} {ts : List (List UInt8)} (h : ts.Nodup) : cntN n ts ≤ 1 := List.nodup_iff_count.1 h n
theorem cntN_cons (n t : List UInt8) (r : List (List UInt8)) : cntN n (t :: r) = cntN n r + if t = n then 1 else 0 := by
  unfold cntN
  rw [List.count_cons]
  congr 1
  by_cases h : t = n <;> simp [h]
theorem tot_two {M : List UInt8 → List Ext} {g : Nat} {pp : List Nat} {E k : Nat} (hE : E ≤ 6) (hS : PairS M g pp E k) : ∀ ts : List (List UInt8), ts.Nodup → (ts.map fun s => (M s).length).sum ≤ 1000000 := by
  have h1 : ∀ ts : List (List UInt8), (ts.map fun s => (M s).length).sum ≤ 6 * (cntN nmA.data.toList ts + cntN nmB.data.toList ts) := by
    intro ts
    induction ts with
    | nil => exact Nat.zero_le _
    | cons t r ih =>
      rw [List.map_cons, List.sum_cons, cntN_cons, cntN_cons]
      by_cases ha : t = nmA.data.toList
      · rw [if_pos ha, ha, hS.a.1]; omega
      · by_cases hb : t = nmB.data.toList
        · rw [if_pos hb, hb, hS.b.1]; omega
        · rw [hS.o t ha hb, if_neg ha, if_neg hb]
          simp only [List.length_nil]
          omega
  intro ts hnd
  have h2 := h1 ts
  have c0 := cntN_le (n := nmA.data.toList) hnd
  have c1 := cntN_le (n := nmB.data.toList) hnd
  omega
end Go.Proofs.YtdigblglehchbaaDoor
