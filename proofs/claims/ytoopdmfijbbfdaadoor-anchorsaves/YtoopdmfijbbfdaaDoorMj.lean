/- The disk as a plain state: what a write and a sync make of it, and answer. -/
import Derived.Test.YtoopdmfijbbfdaaDoorPairStore
namespace Go.Proofs.YtoopdmfijbbfdaaDoor
open Go.RowKit Go.Maps
set_option linter.unusedVariables false

/-- What a disk holds, what is free, the fuse. -/
structure St where
  M : List UInt8 → List Ext
  free : Int
  fuse : Int

def wrD (st : St) (nm : List UInt8) (i : Nat) (z : List Nat) : St × Int :=
  if (st.M nm).length < i then (st, 1)
  else if st.fuse = 0 then (st, 31)
  else match (st.M nm)[i]? with
    | some x => (⟨upd st.M nm ((st.M nm).set i (x.wrote z)), st.free, burnt st.fuse⟩, 0)
    | none => if st.free = 0 then (⟨st.M, st.free, burnt st.fuse⟩, 4) else (⟨upd st.M nm (st.M nm ++ [zeroE.wrote z]), st.free - 1, burnt st.fuse⟩, 0)

def syD (st : St) (nm : List UInt8) : St × Int :=
  if st.M nm = [] then (st, 30)
  else if st.fuse = 0 then (st, 31)
  else (⟨upd st.M nm ((st.M nm).map Ext.synced), st.free, burnt st.fuse⟩, 0)

def DiskS (w : World) (d : Nat) (F : Nat → Prop) (N : Nat) (st : St) : Prop := DiskOf w d F N st.M st.free st.fuse

theorem DiskS.below {w w' : World} {d N : Nat} {F : Nat → Prop} {st : St} (h : DiskS w d F N st) (hb : Below w.heap.size w w') : DiskS w' d F N st := DiskOf.below h hb
theorem DiskS.mono {w : World} {d N N' : Nat} {F : Nat → Prop} {st : St} (h : DiskS w d F N st) (hn : N ≤ N') : DiskS w d F N' st := DiskOf.mono h hn

def WrPost (w : World) (d : Nat) (F : Nat → Prop) (N : Nat) (r : St × Int) (e : Ending) (w' : World) : Prop :=
  e = .returned (.int .i64 r.2) ∧ ∃ F', DiskS w' d F' N r.1 ∧ Gr F F' w w'

theorem write_st (w : World) (d : Nat) (F : Nat → Prop) (N : Nat) (st : St) (h : DiskS w d F N st) (s : ByteArray) (hs : nameB s.data.toList = true) (i n : Nat) (HN : Hid (n = (st.M s.data.toList).length)) (b cap : Nat) (zs : List Nat) (hb : BsF F w (some ⟨b, 0, none⟩) 128 zs) (hf : -1 ≤ st.fuse) (hf2 : st.fuse ≤ 9223372036854775807) (hn : n ≤ 1000000) (hNm : N < maxLen) (hfr0 : 0 ≤ st.free) (hfr : st.free ≤ 1000000) :
    Calls Tryd.prog 66 #[.pointer (some ⟨d, 0, none⟩), .string s, .int .i64 (i : Int), .slice (some ⟨b, 0, none⟩) 128 cap] w (WrPost w d F (N + 1) (wrD st s.data.toList i zs)) := by
  have hsm : s.size ≤ maxLen := by have := (name_size hs).2; unfold maxLen; omega
  by_cases h1 : n < i
  · refine (write_arg w d F N st.M st.free st.fuse h s hsm i n HN _ 128 cap (Or.inr (Or.inr (Or.inr (by omega))))).mono ?_
    rintro e w' ⟨rfl, rfl⟩
    have e1 : wrD st s.data.toList i zs = (st, 1) := by unfold wrD; rw [if_pos (by rw [← HN.out]; exact h1)]
    rw [e1]
    exact ⟨rfl, F, DiskOf.mono h (by omega), Gr.refl _ _⟩
  · obtain ⟨M, free, fuse⟩ := st
    simp only at HN hf hf2 hfr0 hfr
    by_cases h2 : fuse = 0
    · subst h2
      refine (write_dead w d F N M free h s hs i n HN (by omega) _ cap).mono ?_
      rintro e w' ⟨rfl, rfl⟩
      have e1 : wrD ⟨M, free, 0⟩ s.data.toList i zs = (⟨M, free, 0⟩, 31) := by unfold wrD; rw [if_neg (by show ¬ (M s.data.toList).length < i; rw [← HN.out]; exact h1), if_pos rfl]
      rw [e1]
      exact ⟨rfl, F, DiskOf.mono h (by omega), Gr.refl _ _⟩
    · by_cases h3 : i < n
      · obtain ⟨x, hx⟩ : ∃ x, (M s.data.toList)[i]? = some x := ⟨_, List.getElem?_eq_getElem (by rw [← HN.out]; exact h3)⟩
        refine (write_old w d F N M free fuse h s hs i n (i * 385) HN h3 rfl b 0 cap zs hb h2 hf hf2 x (hidn hx)).mono ?_
        rintro e w' ⟨rfl, hD, hG⟩
        have e1 : wrD ⟨M, free, fuse⟩ s.data.toList i zs = (⟨upd M s.data.toList ((M s.data.toList).set i (x.wrote zs)), free, burnt fuse⟩, 0) := by
          unfold wrD
          rw [if_neg (by show ¬ (M s.data.toList).length < i; rw [← HN.out]; exact h1), if_neg h2]
          simp only [hx]
        rw [e1]
        exact ⟨rfl, F, DiskOf.mono hD (by omega), hG⟩
      · have hin : i = n := by omega
        subst hin
        have hx : (M s.data.toList)[i]? = none := List.getElem?_eq_none (by rw [← HN.out]; omega)
        by_cases h4 : free = 0
        · subst h4
          refine (write_full w d F N M fuse h s hs i HN _ cap h2 hf hf2).mono ?_
          rintro e w' ⟨rfl, hD, hG⟩
          have e1 : wrD ⟨M, 0, fuse⟩ s.data.toList i zs = (⟨M, 0, burnt fuse⟩, 4) := by
            unfold wrD
            rw [if_neg (by show ¬ (M s.data.toList).length < i; rw [← HN.out]; exact h1), if_neg h2]
            simp only [hx, if_true]
          rw [e1]
          exact ⟨rfl, F, DiskOf.mono hD (by omega), hG⟩
        · refine (write_new w d F N M free fuse h s hs i (i * 385) HN rfl b 0 cap zs hb h2 hf hf2 hn hNm (by omega) hfr).mono ?_
          rintro e w' ⟨rfl, F', hD, hG⟩
          have e1 : wrD ⟨M, free, fuse⟩ s.data.toList i zs = (⟨upd M s.data.toList (M s.data.toList ++ [zeroE.wrote zs]), free - 1, burnt fuse⟩, 0) := by
            unfold wrD
            rw [if_neg (by show ¬ (M s.data.toList).length < i; rw [← HN.out]; exact h1), if_neg h2]
            simp only [hx]
            rw [if_neg h4]
          rw [e1]
          exact ⟨rfl, F', hD, hG⟩

theorem sync_st (w : World) (d : Nat) (F : Nat → Prop) (N : Nat) (st : St) (h : DiskS w d F N st) (s : ByteArray) (hsm : s.size ≤ maxLen) (hf : -1 ≤ st.fuse) (hf2 : st.fuse ≤ 9223372036854775807) :
    Calls Tryd.prog 57 #[.pointer (some ⟨d, 0, none⟩), .string s] w (WrPost w d F N (syD st s.data.toList)) := by
  by_cases h1 : st.M s.data.toList = []
  · refine (sync_none w d F N st.M st.free st.fuse h s hsm h1).mono ?_
    rintro e w' ⟨rfl, rfl⟩
    have e1 : syD st s.data.toList = (st, 30) := by unfold syD; rw [if_pos h1]
    rw [e1]
    exact ⟨rfl, F, h, Gr.refl _ _⟩
  · obtain ⟨M, free, fuse⟩ := st
    by_cases h2 : fuse = 0
    · subst h2
      refine (sync_dead w d F N M free h s hsm h1).mono ?_
      rintro e w' ⟨rfl, rfl⟩
      have e1 : syD ⟨M, free, 0⟩ s.data.toList = (⟨M, free, 0⟩, 31) := by unfold syD; rw [if_neg h1, if_pos rfl]
      rw [e1]
      exact ⟨rfl, F, h, Gr.refl _ _⟩
    · refine (sync_disk w d F N M free fuse h s hsm h1 h2 hf hf2).mono ?_
      rintro e w' ⟨rfl, hD, hG⟩
      have e1 : syD ⟨M, free, fuse⟩ s.data.toList = (⟨upd M s.data.toList ((M s.data.toList).map Ext.synced), free, burnt fuse⟩, 0) := by unfold syD; rw [if_neg h1, if_neg h2]
      rw [e1]
      exact ⟨rfl, F, hD, hG⟩

/-- Parts written one behind the other, from an extent on. -/
def wrStep (s : ByteArray) (g : Nat) (acc : St × Int) (q : List Nat × Nat) : St × Int :=
  if acc.2 = 0 then wrD acc.1 s.data.toList q.2 (frameB (nums s) q.2 g q.1) else acc

def wrAll (st : St) (s : ByteArray) (at' g : Nat) (ps : List (List Nat)) : St × Int := (ps.zipIdx at').foldl (wrStep s g) (st, 0)

theorem wrAll_snoc (st : St) (s : ByteArray) (at' g : Nat) (ps : List (List Nat)) (p : List Nat) : wrAll st s at' g (ps ++ [p]) = wrStep s g (wrAll st s at' g ps) (p, at' + ps.length) := by
  unfold wrAll
  rw [List.zipIdx_append, List.foldl_append]
  rfl

theorem wrStep_stuck (s : ByteArray) (g : Nat) : ∀ (l : List (List Nat × Nat)) (acc : St × Int), acc.2 ≠ 0 → l.foldl (wrStep s g) acc = acc
  | [], acc, _ => rfl
  | q :: l, acc, h => by
    rw [List.foldl_cons, show wrStep s g acc q = acc from by unfold wrStep; rw [if_neg h]]
    exact wrStep_stuck s g l acc h

theorem wrAll_stuck (s : ByteArray) (g : Nat) (st : St) (at' : Nat) (ps : List (List Nat)) (h : (wrAll st s at' g ps).2 ≠ 0) (qs : List (List Nat)) : wrAll st s at' g (ps ++ qs) = wrAll st s at' g ps := by
  unfold wrAll at h ⊢
  rw [List.zipIdx_append, List.foldl_append]
  exact wrStep_stuck s g _ _ h

/-- What a half of a record makes of a disk. -/
def halfD (st : St) (s : ByteArray) (at' g : Nat) (ps : List (List Nat)) : St × Int :=
  if (wrAll st s at' g ps).2 = 0 then syD (wrAll st s at' g ps).1 s.data.toList else wrAll st s at' g ps

/-- What stays within its bounds. -/
structure StOK (st : St) (k : Nat) : Prop where
  fuse : -1 ≤ st.fuse
  fuse2 : st.fuse ≤ 9223372036854775807
  free : 0 ≤ st.free
  free2 : st.free ≤ 1000000
  len : ∀ nm, (st.M nm).length ≤ k

theorem burnt_ok {f : Int} (h : -1 ≤ f) (h0 : f ≠ 0) (h2 : f ≤ 9223372036854775807) : -1 ≤ burnt f ∧ burnt f ≤ 9223372036854775807 := by
  unfold burnt
  split <;> omega

theorem upd_len {M : List UInt8 → List Ext} {k : Nat} (h : ∀ nm, (M nm).length ≤ k) (s : List UInt8) (l : List Ext) (hl : l.length ≤ k + 1) : ∀ nm, (upd M s l nm).length ≤ k + 1 := by
  intro nm
  unfold upd
  split
  · exact hl
  · have := h nm; omega

theorem StOK.mono {st : St} {k k' : Nat} (h : StOK st k) (hk : k ≤ k') : StOK st k' := ⟨h.fuse, h.fuse2, h.free, h.free2, fun nm => Nat.le_trans (h.len nm) hk⟩

theorem StOK.wr {st : St} {k : Nat} (h : StOK st k) (nm : List UInt8) (i : Nat) (z : List Nat) : StOK (wrD st nm i z).1 (k + 1) := by
  unfold wrD
  split
  · exact h.mono (by omega)
  · split
    · exact h.mono (by omega)
    · next h0 =>
      have hb := burnt_ok h.fuse h0 h.fuse2
      split
      · exact ⟨hb.1, hb.2, h.free, h.free2, upd_len h.len _ _ (by rw [List.length_set]; have := h.len nm; omega)⟩
      · split
        · exact ⟨hb.1, hb.2, h.free, h.free2, fun nm => by have := h.len nm; show (st.M nm).length ≤ k + 1; omega⟩
        · next hf => exact ⟨hb.1, hb.2, by have := h.free; show 0 ≤ st.free - 1; omega, by have := h.free2; show st.free - 1 ≤ 1000000; omega, upd_len h.len _ _ (by rw [List.length_append, List.length_singleton]; have := h.len nm; omega)⟩

theorem StOK.sy {st : St} {k : Nat} (h : StOK st k) (nm : List UInt8) : StOK (syD st nm).1 k := by
  unfold syD
  split
  · exact h
  · split
    · exact h
    · next h0 =>
      have hb := burnt_ok h.fuse h0 h.fuse2
      refine ⟨hb.1, hb.2, h.free, h.free2, fun t => ?_⟩
      show (upd st.M nm ((st.M nm).map Ext.synced) t).length ≤ k
      unfold upd
      split
      · rw [List.length_map]; exact h.len nm
      · exact h.len t

theorem StOK.fold (s : ByteArray) (g : Nat) : ∀ (l : List (List Nat × Nat)) (acc : St × Int) (k : Nat), StOK acc.1 k → StOK (l.foldl (wrStep s g) acc).1 (k + l.length)
  | [], acc, k, h => h
  | q :: l, acc, k, h => by
    rw [List.foldl_cons, List.length_cons, show k + (l.length + 1) = k + 1 + l.length from by omega]
    refine StOK.fold s g l _ _ ?_
    unfold wrStep
    split
    · exact h.wr _ _ _
    · exact h.mono (by omega)

theorem StOK.all {st : St} {k : Nat} (h : StOK st k) (s : ByteArray) (at' g : Nat) (ps : List (List Nat)) : StOK (wrAll st s at' g ps).1 (k + ps.length) := by
  have := StOK.fold s g (ps.zipIdx at') (st, 0) k h
  rw [List.length_zipIdx] at this
  exact this
end Go.Proofs.YtoopdmfijbbfdaaDoor

namespace Go.Proofs.YtoopdmfijbbfdaaDoor
open Go.RowKit Go.Maps
set_option linter.unusedVariables false

theorem WrPost.open {w w' : World} {d N : Nat} {F : Nat → Prop} {st : St} {v : Int} {e : Ending} (h : WrPost w d F N (st, v) e w') : e = .returned (.int .i64 v) ∧ ∃ F', DiskS w' d F' N st ∧ Gr F F' w w' := h

/-- What writing one file of a pair, and its sync, make of a disk. -/
def put1 (st : St) (s : ByteArray) (i g : Nat) (p : List Nat) : St × Int :=
  if (wrD st s.data.toList i (frameB (nums s) i g p)).2 = 0 then syD (wrD st s.data.toList i (frameB (nums s) i g p)).1 s.data.toList else wrD st s.data.toList i (frameB (nums s) i g p)

def putD (st : St) (s : ByteArray) (i g : Nat) (p : List Nat) : St × Int :=
  if (put1 st (fileA s) i g p).2 = 0 then put1 (put1 st (fileA s) i g p).1 (fileB s) i g p else put1 st (fileA s) i g p

theorem put1_w {st s1 : St} {s : ByteArray} {i g : Nat} {p z : List Nat} {v : Int} (hz : z = frameB (nums s) i g p) (h : (s1, v) = wrD st s.data.toList i z) (h0 : v ≠ 0) : put1 st s i g p = (s1, v) := by
  unfold put1
  rw [← hz, ← h, if_neg h0]

theorem put1_s {st s1 s2 : St} {s : ByteArray} {i g : Nat} {p z : List Nat} {v : Int} (hz : z = frameB (nums s) i g p) (h : (s1, 0) = wrD st s.data.toList i z) (h2 : (s2, v) = syD s1 s.data.toList) : put1 st s i g p = (s2, v) := by
  unfold put1
  rw [← hz, ← h, if_pos rfl, h2]

theorem putD_a {st s1 : St} {s : ByteArray} {i g : Nat} {p : List Nat} {v : Int} (h : put1 st (fileA s) i g p = (s1, v)) (h0 : v ≠ 0) : putD st s i g p = (s1, v) := by
  unfold putD
  rw [h, if_neg h0]

theorem putD_b {st s1 s2 : St} {s : ByteArray} {i g : Nat} {p : List Nat} {v : Int} (h : put1 st (fileA s) i g p = (s1, 0)) (h2 : put1 s1 (fileB s) i g p = (s2, v)) : putD st s i g p = (s2, v) := by
  unfold putD
  rw [h, if_pos rfl, h2]

set_option maxHeartbeats 1000000 in
theorem pairWrite_st (w : World) (d : Nat) (F : Nat → Prop) (N : Nat) (st : St) (h : DiskS w d F N st) (hS : Sound5 w F) (K : Nat) (hok : StOK st K) (hK : K ≤ 1000000) (hN : N < maxLen) (s : ByteArray) (hs : nameB s.data.toList = true) (i g : Nat) (hi2 : i ≤ 2147483647)
    (a : Option Addr) (len cap : Nat) (p fz : List Nat) (hB : Bs w a len p) (hl : len ≤ 106) (hg : g ≤ 4611686018427387904) (HF : Hid (fz = frameB (nums s) i g p)) :
    Calls Tryd.prog 56 #[.pointer (some ⟨d, 0, none⟩), .string s, .int .i64 i, .int .i64 g, .slice a len cap] w (WrPost w d F (N + 1) (wrD st s.data.toList i fz)) := by
  have hsm : s.size ≤ maxLen := by have := (name_size hs).2; unfold maxLen; omega
  have HSN := hidn hs
  have HOK := hidn hok
  clear hs
  obtain ⟨r, hr⟩ : ∃ r, r = wrD st s.data.toList i fz := ⟨_, rfl⟩
  rw [← hr]
  have HR := hidn hr
  clear hr
  obtain ⟨st', rv⟩ := r
  go_enter Tryd.func56, Tryd.ntmps56
  go_wp2_with fail
  refine (frame_bs s i g i g rfl rfl a len cap p _ hB hS.tab hsm hi2 hg hl fz HF).mono ?_
  rintro e w1 ⟨b, rfl, hb, _, hB1, hb1⟩
  have HW := hidn (write_st w1 d F N st (h.below hb1) s HSN.out i _ (hidn rfl) b 128 fz (BsF.fresh hB1 hb hS.lt) HOK.out.fuse HOK.out.fuse2 (Nat.le_trans (HOK.out.len _) hK) hN HOK.out.free HOK.out.free2)
  rw [← HR.out] at HW
  go_wp2_with fail
  refine HW.out.mono ?_
  clear HW
  rintro e w2 hw2
  obtain ⟨rfl, F2, hD2, hG2⟩ := WrPost.open hw2
  clear hw2
  go_wp2
  go_ret
  exact ⟨rfl, F2, hD2, (Gr.of (Keeps.of_below hb1)).trans hG2⟩

set_option maxHeartbeats 2000000 in
theorem put_st (w : World) (d : Nat) (F : Nat → Prop) (N : Nat) (st : St) (h : DiskS w d F N st) (hS : Sound5 w F) (K : Nat) (hok : StOK st K) (hK : K + 2 ≤ 1000000) (hN : N + 2 < maxLen) (hM0 : st.M [] = []) (s : ByteArray) (hs : s.size ≤ 1000) (hnA : nameB (fileA s).data.toList = true) (hnB : nameB (fileB s).data.toList = true)
    (i g : Nat) (hi : i ≤ 2147483647) (hg : g ≤ 4611686018427387904) (a : Option Addr) (len cap : Nat) (p : List Nat) (hBz : BsF F w a len p) (hlen : len ≤ 106) :
    Calls Tryd.prog 38 #[.pointer (some ⟨d, 0, none⟩), .string s, .int .i64 i, .int .i64 g, .slice a len cap] w (WrPost w d F (N + 2) (putD st s i g p)) := by
  have HD := hidn h
  have HS := hidn hS
  have HOK := hidn hok
  have HnA := hidn hnA
  have HnB := hidn hnB
  have HBz := hidn hBz
  have hHv := fun wx => halves_any wx s hs
  clear hnA hnB hBz h hS hok
  go_enter Tryd.func38, Tryd.ntmps38
  go_wp2_with fail
  refine (pairMade _ d F N st.M st.free st.fuse HD.out hM0).mono ?_
  rintro e w1 ⟨rfl, hb1⟩
  go_wp2_with fail
  refine (hHv _).mono ?_
  rintro e w4 ⟨rfl, hb4⟩
  have hb14 : Below w.heap.size w w4 := hb1.trans (hb4.mono hb1.size)
  have HD4 := hidn (HD.out.below hb14)
  have HG4 := hidn (Gr.of (Keeps.of_below (F := F) hb14))
  clear hb1 hb4 hb14 hHv HD
  obtain ⟨fa, hfa⟩ : ∃ fa, fa = fileA s := ⟨_, rfl⟩
  obtain ⟨fb, hfb⟩ : ∃ fb, fb = fileB s := ⟨_, rfl⟩
  rw [← hfa] at HnA
  rw [← hfb] at HnB
  rw [← hfa, ← hfb]
  have HFA := hidn hfa
  have HFB := hidn hfb
  obtain ⟨za, hza⟩ : ∃ za, za = frameB (nums fa) i g p := ⟨_, rfl⟩
  obtain ⟨zb, hzb⟩ : ∃ zb, zb = frameB (nums fb) i g p := ⟨_, rfl⟩
  have HZA := hidn hza
  have HZB := hidn hzb
  clear hfa hfb hza hzb
  have hsA : fa.size ≤ maxLen := by have := (name_size HnA.out).2; unfold maxLen; omega
  have hsB : fb.size ≤ maxLen := by have := (name_size HnB.out).2; unfold maxLen; omega
  have hi0 : ∀ wx : World, (Instr.index 91 (.agg #[.string fa, .string fb]) (.int .i64 0)).run Tryd.prog wx = .ok (.string fa) wx := fun wx => by kernel_rfl
  have hi1 : ∀ wx : World, (Instr.index 91 (.agg #[.string fa, .string fb]) (.int .i64 1)).run Tryd.prog wx = .ok (.string fb) wx := fun wx => by kernel_rfl
  go_wp2_with fail
  go_loopw [20] (fun iv wr => ∃ (k : Nat) (F' : Nat → Prop) (stk : St), k ≤ 2 ∧ iv = .int .i64 k ∧ Hid (Gr F F' w wr) ∧ Hid (DiskS wr d F' (N + k) stk) ∧ Hid (StOK stk (K + k)) ∧ ((k = 0 ∧ Hid (stk = st)) ∨ (k = 1 ∧ Hid (put1 st fa i g p = (stk, 0))) ∨ (k = 2 ∧ Hid (putD st s i g p = (stk, 0))))) (fun iv _ => 2 - (intOf iv).toNat)
  case atStart => exact ⟨0, F, st, by omega, rfl, HG4, HD4, HOK, Or.inl ⟨rfl, hidn rfl⟩⟩
  case round =>
    clear HD4 HG4 HOK
    obtain ⟨k, F', stk, hk, rfl, HGk, HDk, HOk, (⟨rfl, HK⟩ | ⟨rfl, HK⟩ | ⟨rfl, HK⟩)⟩ := hrel
    · obtain rfl := HK.out
      obtain ⟨q, hq⟩ : ∃ q, q = wrD stk fa.data.toList i za := ⟨_, rfl⟩
      have HW := hidn (pairWrite_st wr d F' (N + 0) stk HDk.out (HS.out.gr HGk.out) (K + 0) HOk.out (by omega) (by omega) fa HnA.out i g hi a len cap p za (HBz.out.gr HGk.out).1 hlen hg HZA)
      have hok1 := HOk.out.wr fa.data.toList i za
      rw [← hq] at HW hok1
      have HQ := hidn hq
      clear hq
      obtain ⟨s1, v1⟩ := q
      have HO1 := hidn hok1
      clear hok1
      go_wp2_with fail
      refine HW.out.mono ?_
      clear HW
      rintro e w6 hw6
      obtain ⟨rfl, F6, hD6, hG6⟩ := WrPost.open hw6
      have HD6 := hidn hD6
      have HG6 := hidn (HGk.out.trans hG6)
      clear hD6 hG6 hw6
      by_cases h0 : v1 = 0
      · subst h0
        obtain ⟨q2, hq2⟩ : ∃ q, q = syD s1 fa.data.toList := ⟨_, rfl⟩
        have HSY := hidn (sync_st w6 d F6 (N + 0 + 1) s1 HD6.out fa hsA HO1.out.fuse HO1.out.fuse2)
        have hok2 := HO1.out.sy fa.data.toList
        rw [← hq2] at HSY hok2
        have HQ2 := hidn hq2
        clear hq2
        obtain ⟨s2, v2⟩ := q2
        have HO7 : Hid (StOK s2 (K + 1)) := hidn hok2
        clear hok2
        go_wp2_with fail
        refine HSY.out.mono ?_
        clear HSY
        rintro e w7 hw7
        obtain ⟨rfl, F7, hD7, hG7⟩ := WrPost.open hw7
        have HD7 : Hid (DiskS w7 d F7 (N + 1) s2) := hidn hD7
        have HG7 := hidn (HG6.out.trans hG7)
        clear hD7 hG7 hw7
        by_cases h2 : v2 = 0
        · subst h2
          have HP : Hid (put1 stk fa i g p = (s2, 0)) := hidn ((put1_s (z := za) HZA.out HQ.out HQ2.out))
          go_wp2
          go_roundw
          case rel => exact ⟨1, F7, s2, by omega, by first | rfl | go_num | simp, HG7, HD7, HO7, Or.inr (Or.inl ⟨rfl, HP⟩)⟩
          case measure => simp [intOf]
        · have h2' : (v2 != 0) = true := bne_iff_ne.2 h2
          have HP := hidn (putD_a (HFA.out ▸ (put1_s (z := za) HZA.out HQ.out HQ2.out)) h2)
          go_wp2
          go_ret
          rw [HP.out]
          exact ⟨rfl, F7, HD7.out.mono (by omega), HG7.out⟩
      · have h0' : (v1 != 0) = true := bne_iff_ne.2 h0
        have HP := hidn (putD_a (HFA.out ▸ (put1_w (z := za) HZA.out HQ.out h0)) h0)
        go_wp2
        go_ret
        rw [HP.out]
        exact ⟨rfl, F6, HD6.out.mono (by omega), HG6.out⟩
    · skip
      obtain ⟨q, hq⟩ : ∃ q, q = wrD stk fb.data.toList i zb := ⟨_, rfl⟩
      have HW := hidn (pairWrite_st wr d F' (N + 1) stk HDk.out (HS.out.gr HGk.out) (K + 1) HOk.out (by omega) (by omega) fb HnB.out i g hi a len cap p zb (HBz.out.gr HGk.out).1 hlen hg HZB)
      have hok1 := HOk.out.wr fb.data.toList i zb
      rw [← hq] at HW hok1
      have HQ := hidn hq
      clear hq
      obtain ⟨s1, v1⟩ := q
      have HO1 := hidn hok1
      clear hok1
      go_wp2_with fail
      refine HW.out.mono ?_
      clear HW
      rintro e w6 hw6
      obtain ⟨rfl, F6, hD6, hG6⟩ := WrPost.open hw6
      have HD6 := hidn hD6
      have HG6 := hidn (HGk.out.trans hG6)
      clear hD6 hG6 hw6
      by_cases h0 : v1 = 0
      · subst h0
        obtain ⟨q2, hq2⟩ : ∃ q, q = syD s1 fb.data.toList := ⟨_, rfl⟩
        have HSY := hidn (sync_st w6 d F6 (N + 1 + 1) s1 HD6.out fb hsB HO1.out.fuse HO1.out.fuse2)
        have hok2 := HO1.out.sy fb.data.toList
        rw [← hq2] at HSY hok2
        have HQ2 := hidn hq2
        clear hq2
        obtain ⟨s2, v2⟩ := q2
        have HO7 : Hid (StOK s2 (K + 2)) := hidn hok2
        clear hok2
        go_wp2_with fail
        refine HSY.out.mono ?_
        clear HSY
        rintro e w7 hw7
        obtain ⟨rfl, F7, hD7, hG7⟩ := WrPost.open hw7
        have HD7 : Hid (DiskS w7 d F7 (N + 2) s2) := hidn hD7
        have HG7 := hidn (HG6.out.trans hG7)
        clear hD7 hG7 hw7
        by_cases h2 : v2 = 0
        · subst h2
          have HP : Hid (putD st s i g p = (s2, 0)) := hidn (putD_b (HFA.out ▸ HK.out) (HFB.out ▸ (put1_s (z := zb) HZB.out HQ.out HQ2.out)))
          go_wp2
          go_roundw
          case rel => exact ⟨2, F7, s2, by omega, by first | rfl | go_num | simp, HG7, HD7, HO7, Or.inr (Or.inr ⟨rfl, HP⟩)⟩
          case measure => simp [intOf]
        · have h2' : (v2 != 0) = true := bne_iff_ne.2 h2
          have HP := hidn (putD_b (HFA.out ▸ HK.out) (HFB.out ▸ (put1_s (z := zb) HZB.out HQ.out HQ2.out)))
          go_wp2
          go_ret
          rw [HP.out]
          exact ⟨rfl, F7, HD7.out.mono (by omega), HG7.out⟩
      · have h0' : (v1 != 0) = true := bne_iff_ne.2 h0
        have HP := hidn (putD_b (HFA.out ▸ HK.out) (HFB.out ▸ (put1_w (z := zb) HZB.out HQ.out h0)))
        go_wp2
        go_ret
        rw [HP.out]
        exact ⟨rfl, F6, HD6.out.mono (by omega), HG6.out⟩
    · go_wp2
      go_ret
      rw [HK.out]
      exact ⟨rfl, F', HDk.out, HGk.out⟩
end Go.Proofs.YtoopdmfijbbfdaaDoor
