/- slices.Clone of a file's extents: the same in new memory. -/
import Derived.Test.YtocfbokgbpaneaaMd
import Derived.Test.YtocfbokgbpaneaaMj
import Derived.Test.YtocfbokgbpaneaaMf
import Derived.Maps.RangeWalk
namespace Go.Proofs.Ytocfbokgbpaneaa
open Go.RowKit Go.Maps
set_option linter.unusedVariables false

set_option maxHeartbeats 1000000 in
theorem extClone_any (w : World) (x : Addr) (len cap : Nat) (xs : List Value) (hl : xs.length = len * 385) (hc : ∀ j u, xs[j]? = some u → w.cell? (x.add j) = some u) (h1 : ∀ u ∈ xs, u.oneCell' = true) (hm : len ≤ 1000000) :
    Calls Try.prog 12 #[.slice (some x) len cap] w fun e w' => ∃ v, e = .returned v ∧ w'.ownsRow w.heap.size 49 385 v len xs ∧ Below w.heap.size w w' := by
  obtain ⟨i0, hi, hz0, hz1, hz2⟩ := info_parts Try.infoExt3
  have heq := fun (wx : World) (aa : Option Addr) (n c : Nat) => Lib.run_eql_slice_nil (P := Try.prog) wx 44 49 aa n c 0 0 Try.underlying44
  have hown := World.ownsRow_lit (base := w.heap.size) (e := 49) (size := 385) w #[] 0 (Nat.le_refl _) (Nat.zero_le _) rfl
  have hzc : (Value.agg zeroE.cells.toArray).cells.size = 385 := by kernel_rfl
  have HC := hidn hc
  have H1 := hidn h1
  clear hc h1
  go_enter Try.func12, Try.ntmps12
  go_wp2_with (at_builtin; refine wpList_append_own _ rfl _ _ 44 rfl w.heap.size 49 i0 (.agg zeroE.cells.toArray) 385 385 Try.underlying44 hi hz0 hz1 hz2 hzc (by decide) _ 0 [] rfl hown x len cap xs rfl hl ?c1 H1.out (by unfold maxLen; omega) (by omega) (by simp) ?_)
  case c1 =>
    intro j u hj
    exact Lib.cell?_alloc_some _ (HC.out j u hj)
  intro v' w1 hown1 hgrow1 _
  clear hown
  go_wp2
  go_ret
  refine ⟨_, rfl, by simpa using hown1, ?_⟩
  refine ((Below.refl _ _).alloc (Nat.le_refl _) _).grown hgrow1 (by simp) ?_
  intro k hk
  simp [Value.ownBlock] at hk
  omega
end Go.Proofs.Ytocfbokgbpaneaa

namespace Go.Proofs.Ytocfbokgbpaneaa
open Go.RowKit Go.Maps
set_option linter.unusedVariables false
theorem cp_inv {x : ByteArray} {kl : Lit} (h : keyOf Try.prog 9 (.string x) = some kl) : x.size ≤ maxLen ∧ kl = .string x.data.toList := by
  simp [keyOf, Try.underlying9, mapKey] at h
  exact ⟨h.1, h.2.symm⟩
theorem cp_form {key : Value} {kl : Lit} (h : keyOf Try.prog 9 key = some kl) : ∃ x, key = Value.string x := by
  cases key <;> simp [keyOf, Try.underlying9, mapKey] at h
  exact ⟨_, rfl⟩
theorem cp_hint {t k e : TypeId} (hu : Try.prog.underlying t = some (.map k e)) (n : Int) (w : World) : (Instr.makeMap t (some (.int .i64 n))).run Try.prog w = .ok (.map (some w.heap.size)) (w.alloc (.map #[] 0)) := by
  simp [Instr.makeMap, run_underlying hu, asInt, asIntOf]
theorem own_zero {w : World} {base e size n : Nat} {v : Value} {xs : List Value} (h : w.ownsRow base e size v n xs) : w.ownsRow 0 e size v n xs := by
  obtain ⟨hl, hr⟩ := h
  refine ⟨hl, ?_⟩
  rcases hr with hr | ⟨g, cap, cur, hv, hg, r⟩
  · exact .inl hr
  · exact .inr ⟨g, cap, cur, hv, Nat.zero_le _, r⟩
/-- A map of files at block bm. -/
def FilesOf (w : World) (bm : Nat) (F : Nat → Prop) (N : Nat) (M : List UInt8 → List Ext) : Prop :=
  ∃ (D : DataW Unit) (G C : List UInt8 → Nat), (F bm ∧ ∀ s, M s ≠ [] → F (G s)) ∧ w.ownsMap Try.prog 9 hd bm N D ∧
    (∀ s, M s = [] → Maps.has D (.string s) = false) ∧
    (∀ s, M s ≠ [] → (∀ z, D.atKey (.string s) z = encS (G s) (M s).length (C s)) ∧
      w.ownsRow 0 49 385 (.slice (some ⟨G s, 0, none⟩) (M s).length (C s)) (M s).length (cellsE (M s)) ∧ ∀ x ∈ M s, x.ok) ∧
    (∀ s s', M s ≠ [] → M s' ≠ [] → s ≠ s' → G s ≠ G s')
theorem FilesOf.other {w w' : World} {bm N : Nat} {F : Nat → Prop} {M : List UInt8 → List Ext} (h : FilesOf w bm F N M) (hb : ∀ k, F k → w'.heap[k]? = w.heap[k]?) : FilesOf w' bm F N M := by
  obtain ⟨D, G, C, h3, h4, h5, h6, h7⟩ := h
  refine ⟨D, G, C, h3, ?_, h5, fun s hs => ?_, h7⟩
  · obtain ⟨es, clock, hbk, Ft, hs, hD⟩ := h4
    exact ⟨es, clock, (hb bm h3.1).trans hbk, Ft, hs, hD⟩
  · obtain ⟨a1, a2, a3⟩ := h6 s hs
    refine ⟨a1, ?_, a3⟩
    obtain ⟨hl, hr⟩ := a2
    refine ⟨hl, ?_⟩
    rcases hr with hr | ⟨g, cap, cur, hv, hg, hh, r⟩
    · exact .inl hr
    · refine .inr ⟨g, cap, cur, hv, hg, ?_, r⟩
      cases hv
      exact (hb _ (h3.2 s hs)).trans hh
theorem FilesOf.disk {w : World} {bm d N : Nat} {F : Nat → Prop} {M : List UInt8 → List Ext} {free fuse : Int} (h : FilesOf w bm F N M) (hlt : bm < d) (hd : w.heap[d]? = some (.cells #[.map (some bm), .int .i64 free, .int .i64 fuse] 43 (0, 0))) : DiskOf w d (fun k => F k ∨ k = d) N M free fuse := by
  obtain ⟨D, G, C, h3, h4, h5, h6, h7⟩ := h
  exact ⟨bm, D, G, C, hd, ⟨Or.inr (Eq.refl d), hlt⟩, ⟨.inl h3.1, fun s hs => .inl (h3.2 s hs)⟩, h4, h5, h6, h7⟩
/-- A file more. -/
theorem FilesOf.put {w : World} {bm N : Nat} {F : Nat → Prop} {M : List UInt8 → List Ext} (h : FilesOf w bm F N M) (s : ByteArray) (hs : s.size ≤ maxLen) (hno : M s.data.toList = []) (hN : N < maxLen) (l : List Ext) (hl : l ≠ []) (g c : Nat) (hg : ¬ F g) (hgb : g ≠ bm) (hok : ∀ x ∈ l, x.ok)
    (hrow : w.ownsRow 0 49 385 (.slice (some ⟨g, 0, none⟩) l.length c) l.length (cellsE l)) :
    ∃ w', (Instr.mapUpdate 41 (.map (some bm)) (.string s) (.slice (some ⟨g, 0, none⟩) l.length c)).run Try.prog w = .ok () w' ∧ FilesOf w' bm (fun k => F k ∨ k = g) (N + 1) (upd M s.data.toList l) ∧ w.grownBy w' (some bm) := by
  obtain ⟨D, G, C, h3, h4, h5, h6, h7⟩ := h
  obtain ⟨w', hrun, hown, hgr⟩ := h4.update lawS Try.underlying41 hN (Go.WideMaps.keyOf_string_mk Try.underlying9 hs) (hd_mk g l.length c)
  have hne : ∀ t, t ≠ s.data.toList → (Lit.string t) ≠ Lit.string s.data.toList := fun t ht e => ht (by simpa using e)
  have hkey : WideAt.IsKeyLit (.string s.data.toList) := by first | trivial | exact ⟨_, rfl⟩ | decide
  have hkeep : ∀ {q : Nat} {e size n cc : Nat} {xs : List Value}, w.ownsRow 0 e size (.slice (some ⟨q, 0, none⟩) n cc) n xs → w'.ownsRow 0 e size (.slice (some ⟨q, 0, none⟩) n cc) n xs := by
    intro q e size n cc xs hr
    obtain ⟨hl', hr'⟩ := hr
    refine ⟨hl', ?_⟩
    rcases hr' with hr' | ⟨g', cap, cur, hv, hg0, hh, r⟩
    · exact .inl hr'
    · refine .inr ⟨g', cap, cur, hv, hg0, ?_, r⟩
      rw [hgr.block g' (Array.getElem?_eq_some_iff.1 hh).1 (fun e => by
        obtain ⟨es, clock, hbk, _⟩ := h4
        rw [Option.some.inj e] at hh
        rw [hh] at hbk
        cases hbk)]
      exact hh
  refine ⟨w', hrun, ⟨D.put (.string s.data.toList) (encS g l.length c), fun t => if t = s.data.toList then g else G t, fun t => if t = s.data.toList then c else C t, ⟨.inl h3.1, fun t ht => ?_⟩, hown, fun t ht => ?_, fun t ht => ?_, fun t t' ht ht' hn => ?_⟩, hgr⟩
  · by_cases e1 : t = s.data.toList
    · show F (if t = s.data.toList then g else G t) ∨ (if t = s.data.toList then g else G t) = g
      rw [if_pos e1]; exact .inr rfl
    · rw [upd_other _ _ _ _ e1] at ht
      simp only [if_neg e1]
      exact .inl (h3.2 t ht)
  · by_cases e1 : t = s.data.toList
    · rw [e1, upd_same] at ht; exact absurd ht hl
    · rw [upd_other _ _ _ _ e1] at ht
      rw [has_put_other (hne t e1)]
      exact h5 t ht
  · by_cases e1 : t = s.data.toList
    · subst e1
      rw [upd_same]
      simp only [if_true]
      exact ⟨fun z => atKey_put_same h4.isMap hkey _ _, hkeep hrow, hok⟩
    · rw [upd_other _ _ _ _ e1] at ht ⊢
      simp only [if_neg e1]
      obtain ⟨a1, a2, a3⟩ := h6 t ht
      exact ⟨fun z => by rw [atKey_put_other (hne t e1)]; exact a1 z, hkeep a2, a3⟩
  · by_cases e1 : t = s.data.toList
    · by_cases e2 : t' = s.data.toList
      · exact absurd (e1.trans e2.symm) hn
      · rw [upd_other _ _ _ _ e2] at ht'
        simp only [if_pos e1, if_neg e2]
        intro e
        exact hg (e ▸ h3.2 t' ht')
    · rw [upd_other _ _ _ _ e1] at ht
      by_cases e2 : t' = s.data.toList
      · simp only [if_neg e1, if_pos e2]
        intro e
        exact hg (e ▸ h3.2 t ht)
      · rw [upd_other _ _ _ _ e2] at ht'
        simp only [if_neg e1, if_neg e2]
        exact h7 t t' ht ht' hn
/-- The files that a loop has passed. -/
def gone (M : List UInt8 → List Ext) (left : Lit → Bool) : List UInt8 → List Ext := fun s => if left (.string s) then [] else M s
theorem gone_next (M : List UInt8 → List Ext) (left : Lit → Bool) (s : List UInt8) : upd (gone M left) s (M s) = gone M (fun z => left z && !z.sameKey (.string s)) := by
  funext t
  by_cases h : t = s
  · subst h
    rw [upd_same]
    simp [gone, Lit.sameKey]
  · rw [upd_other _ _ _ _ h]
    have : (Lit.string t).sameKey (.string s) = false := by simp [Lit.sameKey, h]
    simp [gone, this]
theorem gone_end (M : List UInt8 → List Ext) {left : Lit → Bool} (h : ∀ kl, left kl = false) : gone M left = M := by
  funext s
  simp [gone, h]
theorem gone_start {w : World} {d N : Nat} {F : Nat → Prop} {M : List UInt8 → List Ext} {free fuse : Int} {bm : Nat} {D : DataW Unit} {G C : List UInt8 → Nat} (h : DiskIs w d F N M free fuse bm D G C) : gone M (Maps.has D) = fun _ => [] := by
  funext s
  unfold gone
  split
  · rfl
  · rename_i hh
    by_cases hs : M s = []
    · exact hs
    · exact absurd (has_true_of_atKey (h.2.2.2.2.2.1 s hs).1) hh
def CopyPost (w : World) (N : Nat) (M : List UInt8 → List Ext) (free fuse : Int) (d' : Nat) (w' : World) : Prop :=
  ∃ F', DiskOf w' d' F' N M free fuse ∧ ∀ k, F' k → w.heap.size ≤ k ∧ k < w'.heap.size
set_option maxHeartbeats 4000000 in
set_option maxRecDepth 100000 in
theorem copy_disk (w : World) (d : Nat) (F : Nat → Prop) (N : Nat) (M : List UInt8 → List Ext) (free fuse : Int) (h : DiskOf w d F N M free fuse) (hN : N ≤ 1000000) (hM : ∀ s, (M s).length ≤ 1000000) :
    Calls Try.prog 5 #[.pointer (some ⟨d, 0, none⟩)] w fun e w' => ∃ d', e = .returned (.pointer (some ⟨d', 0, none⟩)) ∧ CopyPost w N M free fuse d' w' ∧ Below w.heap.size w w' := by
  obtain ⟨bm, D, G, C, hI⟩ := h.is
  have hmm := fun n w => cp_hint Try.underlying41 n w
  have c0 := hI.c0
  have hln := hI.2.2.2.1.len Try.underlying41 3
  have hbm : bm < w.heap.size := hI.2.2.2.1.lt
  have HI := hidn hI
  have hown1 := (hI.below ((Below.refl _ w).alloc (Nat.le_refl _) (.map #[] 0))).2.2.2.1
  have c0' := (hI.below ((Below.refl _ w).alloc (Nat.le_refl _) (.map #[] 0))).c0
  clear hI
  go_enter Try.func5, Try.ntmps5
  go_wp2_with fail
  refine (isMade_any _ d F N M free fuse h).mono ?_
  rintro e w0 ⟨rfl, rfl⟩
  clear h
  go_wp2_with (at_range; refine wpList_range_own _ rfl _ 41 rfl 9 44 lawS Try.underlying41 hd bm N D rfl hown1 ?_; intro w2 hrg hg2 hs2)
  go_frame
  obtain ⟨bn, hbn⟩ : ∃ bn, bn = w0.heap.size := ⟨_, rfl⟩
  have hr0 : (w0.alloc (.map #[] 0)).heap.size = bn + 1 := by rw [World.size_alloc, hbn]
  rw [hr0] at hrg
  have hb1 : Below w0.heap.size w0 (w0.alloc (.map #[] 0)) := (Below.refl _ _).alloc (Nat.le_refl _) _
  have hb2 : Below w0.heap.size w0 w2 := hb1.grown hg2 (by rw [hr0, hbn]; omega) (fun k hk => by cases hk)
  have hF1 : FilesOf (w0.alloc (.map #[] 0)) bn (fun k => k = bn) 0 (fun _ => []) := ⟨.map [], fun _ => 0, fun _ => 0, ⟨rfl, fun s h => absurd rfl h⟩, by rw [hbn]; exact World.ownsMap_made _ _ _ _, fun s _ => rfl, fun s h => absurd rfl h, fun s _ h => absurd rfl h⟩
  have hF2 : FilesOf w2 bn (fun k => k = bn) 0 (fun _ => []) := hF1.other (fun k hk => by rw [hk]; exact hg2.block _ (by rw [hr0]; omega) (by simp))
  have HSZ : Hid (Maps.size D ≤ N) := hidn HI.out.2.2.2.1.size_le
  have HRG := hidn hrg
  have HF2 := hidn hF2
  have HB2 := hidn hb2
  have HS2 : Hid (w2.heap.size = bn + 2) := hidn (by rw [hs2, hr0])
  have HBN := hidn hbn
  have HBM : Hid (bm < bn) := hidn (by rw [hbn]; exact hbm)
  rw [← hbn]
  rw [hr0]
  clear hrg hg2 hs2 hb1 hb2 hF1 hF2 hr0 hbn hown1 c0 c0' hln hmm hbm
  go_loopw [20] (fun iv wr => ∃ (left : Lit → Bool) (cnt Nc : Nat) (F' : Nat → Prop), Hid (wr.ranges Try.prog 9 hd bm (bn + 1) N D left cnt) ∧ Hid (FilesOf wr bn F' Nc (gone M left)) ∧ Hid (Nc + cnt ≤ N) ∧ Hid (∀ k, F' k → bn ≤ k ∧ k < wr.heap.size ∧ k ≠ bn + 1) ∧ Hid (Below w0.heap.size w0 wr) ∧ Hid (∀ kl, left kl = true → Maps.has D kl = true)) (fun _ wr => wr.rangeLeft bm (bn + 1))
  case atStart =>
    refine ⟨Maps.has D, _, 0, (fun k => k = bn), HRG, ?_, hidn (by have := HSZ.out; omega), hidn (fun k hk => by have := HS2.out; omega), HB2, hidn (fun _ h => h)⟩
    rw [gone_start HI.out]
    exact HF2
  case round =>
    obtain ⟨left, cnt, Nc, F', HG3, HF3, HC3, HK3, HB3, HL3⟩ := hrel
    go_wp2_with (at_next; refine wpList_next_ranges _ rfl _ rfl 9 lawS hd Value.string id (fun key kl hk => cp_form hk) (fun v y hv => ⟨v, rfl⟩) bm (bn + 1) N D left cnt rfl HG3.out ?_ ?_)
    · intro hc0 hl0
      have HL0 := hidn hl0
      have HIw := HI.out.below HB3.out
      have c0 := HIw.c0
      have c1 := HIw.c1
      have c2 : wr.cell? ⟨d, 2, none⟩ = some (.int .i64 fuse) := by rw [cell_of_row _ _ _ _ _ _ HIw.1]; rfl
      clear hc0 hl0 HIw
      /-MARK-/
      have HS : Hid (wr.drew.cell? ⟨d, 1, none⟩ = some (.int .i64 free) ∧ wr.drew.cell? ⟨d, 2, none⟩ = some (.int .i64 fuse)) := hidn ⟨c1, c2⟩
      go_wp2_with fail
      clear c0 c1 c2
      refine wp_region_noPanic ?_
      refine wp_region_held_drew (S := fun w' => w'.cell? ⟨d, 1, none⟩ = some (.int .i64 free) ∧ w'.cell? ⟨d, 2, none⟩ = some (.int .i64 fuse)) (by kernel_rfl) HS.out (fun hHeld => ?_)
      refine drawn_take (i := 0) (v := .map (some bn)) (some 29) rfl rfl (by kernel_rfl) (by kernel_rfl) (by kernel_rfl) (fun _ _ _ h => h) (Or.inl ⟨by kernel_rfl, fun wq hw => by go_simp⟩) hHeld ?_
      simp only [Act.put, List.setIfInBounds_toArray, List.set_cons_succ, List.set_cons_zero]
      refine drawn_take (i := 1) (v := .pointer (some ⟨d, 0, none⟩)) (some 30) rfl rfl (by kernel_rfl) (by kernel_rfl) (by kernel_rfl) (fun _ _ _ h => h) (Or.inl ⟨by kernel_rfl, fun wq hw => by go_simp⟩) hHeld ?_
      simp only [Act.put, List.setIfInBounds_toArray, List.set_cons_succ, List.set_cons_zero]
      refine drawn_take (i := 2) (v := .pointer (some ⟨d, 0, none⟩)) (some 31) rfl rfl (by kernel_rfl) (by kernel_rfl) (by kernel_rfl) (fun _ _ _ h => h) (Or.inl ⟨by kernel_rfl, fun wq hw => by go_simp⟩) hHeld ?_
      simp only [Act.put, List.setIfInBounds_toArray, List.set_cons_succ, List.set_cons_zero]
      refine drawn_take (i := 3) (v := .pointer (some ⟨d, 1, none⟩)) (some 32) rfl rfl (by kernel_rfl) (by kernel_rfl) (by kernel_rfl) (fun _ _ _ h => h) (Or.inl ⟨by kernel_rfl, fun wq hw => by go_simp⟩) hHeld ?_
      simp only [Act.put, List.setIfInBounds_toArray, List.set_cons_succ, List.set_cons_zero]
      refine drawn_take (i := 4) (v := .int .i64 free) (some 33) rfl rfl (by kernel_rfl) (by kernel_rfl) (by kernel_rfl) (fun _ _ _ h => h) (Or.inl ⟨by kernel_rfl, fun wq hw => by have q := hw.1; go_simp⟩) hHeld ?_
      simp only [Act.put, List.setIfInBounds_toArray, List.set_cons_succ, List.set_cons_zero]
      refine drawn_take (i := 5) (v := .pointer (some ⟨d, 0, none⟩)) (some 34) rfl rfl (by kernel_rfl) (by kernel_rfl) (by kernel_rfl) (fun _ _ _ h => h) (Or.inl ⟨by kernel_rfl, fun wq hw => by go_simp⟩) hHeld ?_
      simp only [Act.put, List.setIfInBounds_toArray, List.set_cons_succ, List.set_cons_zero]
      refine drawn_take (i := 6) (v := .pointer (some ⟨d, 0, none⟩)) (some 35) rfl rfl (by kernel_rfl) (by kernel_rfl) (by kernel_rfl) (fun _ _ _ h => h) (Or.inl ⟨by kernel_rfl, fun wq hw => by go_simp⟩) hHeld ?_
      simp only [Act.put, List.setIfInBounds_toArray, List.set_cons_succ, List.set_cons_zero]
      refine drawn_take (i := 7) (v := .pointer (some ⟨d, 2, none⟩)) (some 36) rfl rfl (by kernel_rfl) (by kernel_rfl) (by kernel_rfl) (fun _ _ _ h => h) (Or.inl ⟨by kernel_rfl, fun wq hw => by go_simp⟩) hHeld ?_
      simp only [Act.put, List.setIfInBounds_toArray, List.set_cons_succ, List.set_cons_zero]
      refine drawn_take (i := 8) (v := .int .i64 fuse) (some 37) rfl rfl (by kernel_rfl) (by kernel_rfl) (by kernel_rfl) (fun _ _ _ h => h) (Or.inl ⟨by kernel_rfl, fun wq hw => by have q := hw.2; go_simp⟩) hHeld ?_
      simp only [Act.put, List.setIfInBounds_toArray, List.set_cons_succ, List.set_cons_zero]
      refine drawn_take (i := 9) (v := .agg #[.map (some bn), .int .i64 free, .int .i64 fuse]) (some 38) rfl rfl (by kernel_rfl) (by kernel_rfl) (by kernel_rfl) (fun _ _ _ h => h) (Or.inl ⟨by kernel_rfl, fun wq hw => by go_simp⟩) hHeld ?_
      simp only [Act.put, List.setIfInBounds_toArray, List.set_cons_succ, List.set_cons_zero]
      refine wpAnyH_ready (rs := [10]) (by kernel_rfl) (by simp) ?_
      have bA : Below wr.drew.heap.size wr.drew (wr.drew.alloc (.cells #[.map (some bn), .int .i64 free, .int .i64 fuse] 43)) := (Below.refl _ _).alloc (Nat.le_refl _) _
      refine rdy_val (i := 10) rfl rfl (some 39) rfl (.pointer (some ⟨wr.heap.size, 0, none⟩)) (wr.drew.alloc (.cells #[.map (some bn), .int .i64 free, .int .i64 fuse] 43)) (by go_simp) ⟨(bA.cell (block_lt_of_cell hHeld.1)).trans hHeld.1, (bA.cell (block_lt_of_cell hHeld.2)).trans hHeld.2⟩ (fun hHeld => ?_) rdy_nil
      simp only [Act.put, List.setIfInBounds_toArray, List.set_cons_succ, List.set_cons_zero]
      refine drawn_take (i := 11) (v := .pointer (some ⟨wr.heap.size, 0, none⟩)) (some 2) rfl rfl (by kernel_rfl) (by kernel_rfl) (by kernel_rfl) (fun _ _ _ h => h) (Or.inl ⟨by kernel_rfl, fun wq hw => by go_simp⟩) hHeld ?_
      simp only [Act.put, List.setIfInBounds_toArray, List.set_cons_succ, List.set_cons_zero]
      refine wpAnyH_done (by kernel_rfl) ?_ _
      refine NoPanic.normal ?_
      have hnew := heap_alloc_new wr.drew (.cells #[.map (some bn), .int .i64 free, .int .i64 fuse] 43)
      have hF := (HF3.out.other (w' := wr.drew.alloc (.cells #[.map (some bn), .int .i64 free, .int .i64 fuse] 43)) (fun k hk => (bA.block k (HK3.out k hk).2.1)))
      rw [gone_end M HL0.out] at hF
      have hbnlt : bn < wr.drew.heap.size := by
        obtain ⟨_, _, _, h3, _⟩ := hF
        exact (HK3.out _ h3.1).2.1
      have HD : Hid (CopyPost w0 N M free fuse wr.heap.size (wr.drew.alloc (.cells #[.map (some bn), .int .i64 free, .int .i64 fuse] 43))) := hidn ⟨_, (hF.disk hbnlt hnew).mono (by have := HC3.out; omega), fun k hk => by
        have h1 := bA.size
        have h2 : wr.drew.heap.size < (wr.drew.alloc (.cells #[.map (some bn), .int .i64 free, .int .i64 fuse] 43)).heap.size := by rw [World.size_alloc]; omega
        have h4 : wr.drew.heap.size = wr.heap.size := rfl
        have h5 := HB3.out.size
        rcases hk with hk | rfl
        · have h3 := HK3.out k hk
          have := HBN.out
          omega
        · omega⟩
      have HBz : Hid (Below w0.heap.size w0 (wr.drew.alloc (.cells #[.map (some bn), .int .i64 free, .int .i64 fuse] 43))) := hidn (HB3.out.drew.alloc HB3.out.size _)
      clear hnew hF bA hHeld
      go_wp2_with fail
      go_ret
      exact ⟨_, rfl, HD.out, HBz.out⟩
    · intro x c kl y1 y2 w4 cnt4 hkey hlk hv hat hrg4 hlt4 hg4 hs4 hen
      obtain ⟨hxs, rfl⟩ := cp_inv hkey
      have HB4 := hidn (HB3.out.grown hg4 HB3.out.size (fun k hk => by cases hk; have := HBN.out; omega))
      have hI4 := HI.out.below HB4.out
      have hne : M x.data.toList ≠ [] := by
        intro he
        have h1 := HL3.out _ hlk
        rw [HI.out.2.2.2.2.1 _ he] at h1
        cases h1
      obtain ⟨hyes, hrowx, hokx⟩ := hI4.2.2.2.2.2.1 x.data.toList hne
      have hy1 : encS (G x.data.toList) (M x.data.toList).length (C x.data.toList) = y1 := (hyes .nil).symm.trans (hat .nil)
      have hc : c = .slice (some ⟨G x.data.toList, 0, none⟩) (M x.data.toList).length (C x.data.toList) := hd_inv (ps := y2) (by rw [hy1]; exact hv)
      subst hc
      obtain ⟨n, hn⟩ : ∃ n, n = (M x.data.toList).length := ⟨_, rfl⟩
      have hlen := hM x.data.toList
      have hn0 : 0 < n := by rw [hn]; exact List.length_pos_iff.2 hne
      have hcl : (cellsE (M x.data.toList)).length = n * 385 := by rw [cellsE_length hokx, hn]
      have HCL := hidn (extClone_any w4 ⟨G x.data.toList, 0, none⟩ n (C x.data.toList) (cellsE (M x.data.toList)) hcl (fun j u hj => hrowx.cells (g := G x.data.toList) rfl j u hj) (cellsE_one _) (by omega))
      have HF4 := hidn (HF3.out.other (fun k hk => hg4.block k (HK3.out k hk).2.1 (fun e => (HK3.out k hk).2.2 (Option.some.inj e))))
      have HK4 : Hid (∀ k, F' k → bn ≤ k ∧ k < w4.heap.size ∧ k ≠ bn + 1) := hidn (fun k hk => by have := HK3.out k hk; omega)
      rw [← hn] at hen hlen
      rw [← hn]
      have HN := hidn hn
      have HG4 := hidn hrg4
      have HLT4 := hidn hlt4
      have HNE := hidn hne
      have HOK := hidn hokx
      have HLK := hidn hlk
      generalize G x.data.toList = gx at *
      generalize C x.data.toList = cx at *
      clear hn hne hyes hrowx hokx hy1 hv hat hrg4 hlt4 hg4 hs4 hkey hlk hcl hI4
      go_wp2_with fail
      refine HCL.out.mono ?_
      rintro e w5 ⟨v5, rfl, hown5, hb5⟩
      obtain ⟨g5, c5, rfl, hg5⟩ : ∃ g c, v5 = .slice (some ⟨g, 0, none⟩) n c ∧ w4.heap.size ≤ g := by
        rcases hown5.2 with ⟨h1, h2⟩ | ⟨g, cap, cur, h1, hg, _⟩
        · omega
        · exact ⟨g, cap, h1, hg⟩
      have hlt5 : g5 < w5.heap.size := ownRow_lt hown5
      have hF5 := HF4.out.other (w' := w5) (fun k hk => hb5.block k (HK4.out k hk).2.1)
      have hgone : gone M left x.data.toList = [] := by unfold gone; rw [if_pos HLK.out]
      rw [HN.out] at hown5
      obtain ⟨w6, hup, hF6, hg6⟩ := hF5.put x hxs hgone (by have := HC3.out; have := HLT4.out; unfold maxLen; omega) (M x.data.toList) HNE.out g5 c5 (fun hF => by have := (HK4.out _ hF).2.1; omega) (by have := HB4.out.size; have := HBN.out; have h2 := HG4.out.lt; omega) HOK.out (own_zero hown5)
      rw [gone_next] at hF6
      rw [← HN.out] at hup
      have HF6 := hidn hF6
      have hs6 := hg6.size
      have HK6 : Hid (∀ k, (F' k ∨ k = g5) → bn ≤ k ∧ k < w6.heap.size ∧ k ≠ bn + 1) := hidn (fun k hk => by
        have h2 := HG4.out.lt
        have h3 := hb5.size
        rcases hk with hk | rfl
        · have := HK4.out k hk
          omega
        · omega)
      have HC6 : Hid (Nc + 1 + cnt4 ≤ N) := hidn (by have := HC3.out; have := HLT4.out; omega)
      have HG5 := HG4.out.kept (row := none) ⟨hb5.os, hb5.tape, hb5.output, hb5.size, fun i hi _ => hb5.block i hi⟩ (by simp) (by simp)
      have HG6 := hidn (HG5.kept hg6 (fun e => by have := HBM.out; have := Option.some.inj e; omega) (fun e => by have := Option.some.inj e; omega))
      have HB6 := hidn ((HB4.out.trans (hb5.mono HB4.out.size)).grown hg6 (by have := HB4.out.size; have := hb5.size; omega) (fun k hk => by cases hk; rw [HBN.out]; exact Nat.le_refl _))
      have HL6 : Hid (∀ kl, (left kl && !kl.sameKey (.string x.data.toList)) = true → Maps.has D kl = true) := hidn (fun kl h => HL3.out kl (by rw [Bool.and_eq_true] at h; exact h.1))
      have HM6 : Hid (w6.rangeLeft bm (bn + 1) < wr.rangeLeft bm (bn + 1)) := hidn (by rw [HG6.out.left_eq, HG3.out.left_eq]; exact HLT4.out)
      clear hF5 hgone hown5 hb5 hF6 hg6 HG5 hs6 hlt5 hg5
      go_wp2_with fail
      exact ⟨⟨_, cnt4, Nc + 1, _, HG6, HF6, HC6, HK6, HB6, HL6⟩, HM6.out⟩
end Go.Proofs.Ytocfbokgbpaneaa
