/- The disk as a plain state: what a write and a sync make of it, and answer. -/
import Derived.Test.YtoopdmfijbbfdaaDoorPairStore
namespace Go.Proofs.YtoopdmfijbbfdaaDoor
open Go.RowKit Go.Maps
set_option linter.unusedVariables false

/-- What a disk holds, what is free, the fuse. -/
structure St where
  M : List UInt8 → List Ext
  free : Int
  fuse : Int

def wrD (st : St) (nm : List UInt8) (i : Nat) (z : List Nat) : St × Int :=
  if (st.M nm).length < i then (st, 1)
  else if st.fuse = 0 then (st, 31)
  else match (st.M nm)[i]? with
    | some x => (⟨upd st.M nm ((st.M nm).set i (x.wrote z)), st.free, burnt st.fuse⟩, 0)
    | none => if st.free = 0 then (⟨st.M, st.free, burnt st.fuse⟩, 4) else (⟨upd st.M nm (st.M nm ++ [zeroE.wrote z]), st.free - 1, burnt st.fuse⟩, 0)

def syD (st : St) (nm : List UInt8) : St × Int :=
  if st.M nm = [] then (st, 30)
  else if st.fuse = 0 then (st, 31)
  else (⟨upd st.M nm ((st.M nm).map Ext.synced), st.free, burnt st.fuse⟩, 0)

def DiskS (w : World) (d : Nat) (F : Nat → Prop) (N : Nat) (st : St) : Prop := DiskOf w d F N st.M st.free st.fuse

theorem DiskS.below {w w' : World} {d N : Nat} {F : Nat → Prop} {st : St} (h : DiskS w d F N st) (hb : Below w.heap.size w w') : DiskS w' d F N st := DiskOf.below h hb
theorem DiskS.mono {w : World} {d N N' : Nat} {F : Nat → Prop} {st : St} (h : DiskS w d F N st) (hn : N ≤ N') : DiskS w d F N' st := DiskOf.mono h hn

def WrPost (w : World) (d : Nat) (F : Nat → Prop) (N : Nat) (r : St × Int) (e : Ending) (w' : World) : Prop :=
  e = .returned (.int .i64 r.2) ∧ ∃ F', DiskS w' d F' N r.1 ∧ Gr F F' w w'

theorem write_st (w : World) (d : Nat) (F : Nat → Prop) (N : Nat) (st : St) (h : DiskS w d F N st) (s : ByteArray) (hs : nameB s.data.toList = true) (i n : Nat) (HN : Hid (n = (st.M s.data.toList).length)) (b cap : Nat) (zs : List Nat) (hb : BsF F w (some ⟨b, 0, none⟩) 128 zs) (hf : -1 ≤ st.fuse) (hf2 : st.fuse ≤ 9223372036854775807) (hn : n ≤ 1000000) (hNm : N < maxLen) (hfr0 : 0 ≤ st.free) (hfr : st.free ≤ 1000000) :
    Calls Tryd.prog 66 #[.pointer (some ⟨d, 0, none⟩), .string s, .int .i64 (i : Int), .slice (some ⟨b, 0, none⟩) 128 cap] w (WrPost w d F (N + 1) (wrD st s.data.toList i zs)) := by
  have hsm : s.size ≤ maxLen := by have := (name_size hs).2; unfold maxLen; omega
  by_cases h1 : n < i
  · refine (write_arg w d F N st.M st.free st.fuse h s hsm i n HN _ 128 cap (Or.inr (Or.inr (Or.inr (by omega))))).mono ?_
    rintro e w' ⟨rfl, rfl⟩
    have e1 : wrD st s.data.toList i zs = (st, 1) := by unfold wrD; rw [if_pos (by rw [← HN.out]; exact h1)]
    rw [e1]
    exact ⟨rfl, F, DiskOf.mono h (by omega), Gr.refl _ _⟩
  · obtain ⟨M, free, fuse⟩ := st
    simp only at HN hf hf2 hfr0 hfr
    by_cases h2 : fuse = 0
    · subst h2
      refine (write_dead w d F N M free h s hs i n HN (by omega) _ cap).mono ?_
      rintro e w' ⟨rfl, rfl⟩
      have e1 : wrD ⟨M, free, 0⟩ s.data.toList i zs = (⟨M, free, 0⟩, 31) := by unfold wrD; rw [if_neg (by show ¬ (M s.data.toList).length < i; rw [← HN.out]; exact h1), if_pos rfl]
      rw [e1]
      exact ⟨rfl, F, DiskOf.mono h (by omega), Gr.refl _ _⟩
    · by_cases h3 : i < n
      · obtain ⟨x, hx⟩ : ∃ x, (M s.data.toList)[i]? = some x := ⟨_, List.getElem?_eq_getElem (by rw [← HN.out]; exact h3)⟩
        refine (write_old w d F N M free fuse h s hs i n (i * 385) HN h3 rfl b 0 cap zs hb h2 hf hf2 x (hidn hx)).mono ?_
        rintro e w' ⟨rfl, hD, hG⟩
        have e1 : wrD ⟨M, free, fuse⟩ s.data.toList i zs = (⟨upd M s.data.toList ((M s.data.toList).set i (x.wrote zs)), free, burnt fuse⟩, 0) := by
          unfold wrD
          rw [if_neg (by show ¬ (M s.data.toList).length < i; rw [← HN.out]; exact h1), if_neg h2]
          simp only [hx]
        rw [e1]
        exact ⟨rfl, F, DiskOf.mono hD (by omega), hG⟩
      · have hin : i = n := by omega
        subst hin
        have hx : (M s.data.toList)[i]? = none := List.getElem?_eq_none (by rw [← HN.out]; omega)
        by_cases h4 : free = 0
        · subst h4
          refine (write_full w d F N M fuse h s hs i HN _ cap h2 hf hf2).mono ?_
          rintro e w' ⟨rfl, hD, hG⟩
          have e1 : wrD ⟨M, 0, fuse⟩ s.data.toList i zs = (⟨M, 0, burnt fuse⟩, 4) := by
            unfold wrD
            rw [if_neg (by show ¬ (M s.data.toList).length < i; rw [← HN.out]; exact h1), if_neg h2]
            simp only [hx, if_true]
          rw [e1]
          exact ⟨rfl, F, DiskOf.mono hD (by omega), hG⟩
        · refine (write_new w d F N M free fuse h s hs i (i * 385) HN rfl b 0 cap zs hb h2 hf hf2 hn hNm (by omega) hfr).mono ?_
          rintro e w' ⟨rfl, F', hD, hG⟩
          have e1 : wrD ⟨M, free, fuse⟩ s.data.toList i zs = (⟨upd M s.data.toList (M s.data.toList ++ [zeroE.wrote zs]), free - 1, burnt fuse⟩, 0) := by
            unfold wrD
            rw [if_neg (by show ¬ (M s.data.toList).length < i; rw [← HN.out]; exact h1), if_neg h2]
            simp only [hx]
            rw [if_neg h4]
          rw [e1]
          exact ⟨rfl, F', hD, hG⟩

theorem sync_st (w : World) (d : Nat) (F : Nat → Prop) (N : Nat) (st : St) (h : DiskS w d F N st) (s : ByteArray) (hsm : s.size ≤ maxLen) (hf : -1 ≤ st.fuse) (hf2 : st.fuse ≤ 9223372036854775807) :
    Calls Tryd.prog 57 #[.pointer (some ⟨d, 0, none⟩), .string s] w (WrPost w d F N (syD st s.data.toList)) := by
  by_cases h1 : st.M s.data.toList = []
  · refine (sync_none w d F N st.M st.free st.fuse h s hsm h1).mono ?_
    rintro e w' ⟨rfl, rfl⟩
    have e1 : syD st s.data.toList = (st, 30) := by unfold syD; rw [if_pos h1]
    rw [e1]
    exact ⟨rfl, F, h, Gr.refl _ _⟩
  · obtain ⟨M, free, fuse⟩ := st
    by_cases h2 : fuse = 0
    · subst h2
      refine (sync_dead w d F N M free h s hsm h1).mono ?_
      rintro e w' ⟨rfl, rfl⟩
      have e1 : syD ⟨M, free, 0⟩ s.data.toList = (⟨M, free, 0⟩, 31) := by unfold syD; rw [if_neg h1, if_pos rfl]
      rw [e1]
      exact ⟨rfl, F, h, Gr.refl _ _⟩
    · refine (sync_disk w d F N M free fuse h s hsm h1 h2 hf hf2).mono ?_
      rintro e w' ⟨rfl, hD, hG⟩
      have e1 : syD ⟨M, free, fuse⟩ s.data.toList = (⟨upd M s.data.toList ((M s.data.toList).map Ext.synced), free, burnt fuse⟩, 0) := by unfold syD; rw [if_neg h1, if_neg h2]
      rw [e1]
      exact ⟨rfl, F, hD, hG⟩

/-- Parts written one behind the other, from an extent on. -/
def wrStep (s : ByteArray) (g : Nat) (acc : St × Int) (q : List Nat × Nat) : St × Int :=
  if acc.2 = 0 then wrD acc.1 s.data.toList q.2 (frameB (nums s) q.2 g q.1) else acc

def wrAll (st : St) (s : ByteArray) (at' g : Nat) (ps : List (List Nat)) : St × Int := (ps.zipIdx at').foldl (wrStep s g) (st, 0)

theorem wrAll_snoc (st : St) (s : ByteArray) (at' g : Nat) (ps : List (List Nat)) (p : List Nat) : wrAll st s at' g (ps ++ [p]) = wrStep s g (wrAll st s at' g ps) (p, at' + ps.length) := by
  unfold wrAll
  rw [List.zipIdx_append, List.foldl_append]
  rfl

theorem wrStep_stuck (s : ByteArray) (g : Nat) : ∀ (l : List (List Nat × Nat)) (acc : St × Int), acc.2 ≠ 0 → l.foldl (wrStep s g) acc = acc
  | [], acc, _ => rfl
  | q :: l, acc, h => by
    rw [List.foldl_cons, show wrStep s g acc q = acc from by unfold wrStep; rw [if_neg h]]
    exact wrStep_stuck s g l acc h

theorem wrAll_stuck (s : ByteArray) (g : Nat) (st : St) (at' : Nat) (ps : List (List Nat)) (h : (wrAll st s at' g ps).2 ≠ 0) (qs : List (List Nat)) : wrAll st s at' g (ps ++ qs) = wrAll st s at' g ps := by
  unfold wrAll at h ⊢
  rw [List.zipIdx_append, List.foldl_append]
  exact wrStep_stuck s g _ _ h

/-- What a half of a record makes of a disk. -/
def halfD (st : St) (s : ByteArray) (at' g : Nat) (ps : List (List Nat)) : St × Int :=
  if (wrAll st s at' g ps).2 = 0 then syD (wrAll st s at' g ps).1 s.data.toList else wrAll st s at' g ps

/-- What stays within its bounds. -/
structure StOK (st : St) (k : Nat) : Prop where
  fuse : -1 ≤ st.fuse
  fuse2 : st.fuse ≤ 9223372036854775807
  free : 0 ≤ st.free
  free2 : st.free ≤ 1000000
  len : ∀ nm, (st.M nm).length ≤ k

theorem burnt_ok {f : Int} (h : -1 ≤ f) (h0 : f ≠ 0) (h2 : f ≤ 9223372036854775807) : -1 ≤ burnt f ∧ burnt f ≤ 9223372036854775807 := by
  unfold burnt
  split <;> omega

theorem upd_len {M : List UInt8 → List Ext} {k : Nat} (h : ∀ nm, (M nm).length ≤ k) (s : List UInt8) (l : List Ext) (hl : l.length ≤ k + 1) : ∀ nm, (upd M s l nm).length ≤ k + 1 := by
  intro nm
  unfold upd
  split
  · exact hl
  · have := h nm; omega

theorem StOK.mono {st : St} {k k' : Nat} (h : StOK st k) (hk : k ≤ k') : StOK st k' := ⟨h.fuse, h.fuse2, h.free, h.free2, fun nm => Nat.le_trans (h.len nm) hk⟩

theorem StOK.wr {st : St} {k : Nat} (h : StOK st k) (nm : List UInt8) (i : Nat) (z : List Nat) : StOK (wrD st nm i z).1 (k + 1) := by
  unfold wrD
  split
  · exact h.mono (by omega)
  · split
    · exact h.mono (by omega)
    · next h0 =>
      have hb := burnt_ok h.fuse h0 h.fuse2
      split
      · exact ⟨hb.1, hb.2, h.free, h.free2, upd_len h.len _ _ (by rw [List.length_set]; have := h.len nm; omega)⟩
      · split
        · exact ⟨hb.1, hb.2, h.free, h.free2, fun nm => by have := h.len nm; show (st.M nm).length ≤ k + 1; omega⟩
        · next hf => exact ⟨hb.1, hb.2, by have := h.free; show 0 ≤ st.free - 1; omega, by have := h.free2; show st.free - 1 ≤ 1000000; omega, upd_len h.len _ _ (by rw [List.length_append, List.length_singleton]; have := h.len nm; omega)⟩

theorem StOK.sy {st : St} {k : Nat} (h : StOK st k) (nm : List UInt8) : StOK (syD st nm).1 k := by
  unfold syD
  split
  · exact h
  · split
    · exact h
    · next h0 =>
      have hb := burnt_ok h.fuse h0 h.fuse2
      refine ⟨hb.1, hb.2, h.free, h.free2, fun t => ?_⟩
      show (upd st.M nm ((st.M nm).map Ext.synced) t).length ≤ k
      unfold upd
      split
      · rw [List.length_map]; exact h.len nm
      · exact h.len t

theorem StOK.fold (s : ByteArray) (g : Nat) : ∀ (l : List (List Nat × Nat)) (acc : St × Int) (k : Nat), StOK acc.1 k → StOK (l.foldl (wrStep s g) acc).1 (k + l.length)
  | [], acc, k, h => h
  | q :: l, acc, k, h => by
    rw [List.foldl_cons, List.length_cons, show k + (l.length + 1) = k + 1 + l.length from by omega]
    refine StOK.fold s g l _ _ ?_
    unfold wrStep
    split
    · exact h.wr _ _ _
    · exact h.mono (by omega)

theorem StOK.all {st : St} {k : Nat} (h : StOK st k) (s : ByteArray) (at' g : Nat) (ps : List (List Nat)) : StOK (wrAll st s at' g ps).1 (k + ps.length) := by
  have := StOK.fold s g (ps.zipIdx at') (st, 0) k h
  rw [List.length_zipIdx] at this
  exact this
end Go.Proofs.YtoopdmfijbbfdaaDoor
