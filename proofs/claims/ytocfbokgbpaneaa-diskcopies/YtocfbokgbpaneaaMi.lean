/- The disk as a plain state: what a write and a sync make of it, and answer. -/
import Derived.Test.YtocfbokgbpaneaaMf
import Derived.Test.YtocfbokgbpaneaaMh
namespace Go.Proofs.Ytocfbokgbpaneaa
open Go.RowKit Go.Maps
set_option linter.unusedVariables false

/-- What a disk holds, what is free, the fuse. -/
structure St where
  M : List UInt8 → List Ext
  free : Int
  fuse : Int

def wrD (st : St) (nm : List UInt8) (i : Nat) (z : List Nat) : St × Int :=
  if (st.M nm).length < i then (st, 1)
  else if st.fuse = 0 then (st, 31)
  else match (st.M nm)[i]? with
    | some x => (⟨upd st.M nm ((st.M nm).set i (x.wrote z)), st.free, burnt st.fuse⟩, 0)
    | none => if st.free = 0 then (⟨st.M, st.free, burnt st.fuse⟩, 4) else (⟨upd st.M nm (st.M nm ++ [zeroE.wrote z]), st.free - 1, burnt st.fuse⟩, 0)

def syD (st : St) (nm : List UInt8) : St × Int :=
  if st.M nm = [] then (st, 30)
  else if st.fuse = 0 then (st, 31)
  else (⟨upd st.M nm ((st.M nm).map Ext.synced), st.free, burnt st.fuse⟩, 0)

def DiskS (w : World) (d : Nat) (F : Nat → Prop) (N : Nat) (st : St) : Prop := DiskOf w d F N st.M st.free st.fuse

theorem DiskS.below {w w' : World} {d N : Nat} {F : Nat → Prop} {st : St} (h : DiskS w d F N st) (hb : Below w.heap.size w w') : DiskS w' d F N st := DiskOf.below h hb
theorem DiskS.mono {w : World} {d N N' : Nat} {F : Nat → Prop} {st : St} (h : DiskS w d F N st) (hn : N ≤ N') : DiskS w d F N' st := DiskOf.mono h hn

def WrPost (w : World) (d : Nat) (F : Nat → Prop) (N : Nat) (r : St × Int) (e : Ending) (w' : World) : Prop :=
  e = .returned (.int .i64 r.2) ∧ ∃ F', DiskS w' d F' N r.1 ∧ Gr F F' w w'

theorem write_sto (w : World) (d : Nat) (F : Nat → Prop) (N : Nat) (st : St) (h : DiskS w d F N st) (s : ByteArray) (hs : nameB s.data.toList = true) (i n : Nat) (HN : Hid (n = (st.M s.data.toList).length)) (b boff cap : Nat) (zs : List Nat) (hb : BsF F w (some ⟨b, boff, none⟩) 128 zs) (hf : -1 ≤ st.fuse) (hf2 : st.fuse ≤ 9223372036854775807) (hn : n ≤ 1000000) (hNm : N < maxLen) (hfr0 : 0 ≤ st.free) (hfr : st.free ≤ 1000000) :
    Calls Try.prog 14 #[.pointer (some ⟨d, 0, none⟩), .string s, .int .i64 (i : Int), .slice (some ⟨b, boff, none⟩) 128 cap] w (WrPost w d F (N + 1) (wrD st s.data.toList i zs)) := by
  have hsm : s.size ≤ maxLen := by have := (name_size hs).2; unfold maxLen; omega
  by_cases h1 : n < i
  · refine (write_arg w d F N st.M st.free st.fuse h s hsm i n HN _ 128 cap (Or.inr (Or.inr (Or.inr (by omega))))).mono ?_
    rintro e w' ⟨rfl, rfl⟩
    have e1 : wrD st s.data.toList i zs = (st, 1) := by unfold wrD; rw [if_pos (by rw [← HN.out]; exact h1)]
    rw [e1]
    exact ⟨rfl, F, DiskOf.mono h (by omega), Gr.refl _ _⟩
  · obtain ⟨M, free, fuse⟩ := st
    simp only at HN hf hf2 hfr0 hfr
    by_cases h2 : fuse = 0
    · subst h2
      refine (write_dead w d F N M free h s hs i n HN (by omega) _ cap).mono ?_
      rintro e w' ⟨rfl, rfl⟩
      have e1 : wrD ⟨M, free, 0⟩ s.data.toList i zs = (⟨M, free, 0⟩, 31) := by unfold wrD; rw [if_neg (by show ¬ (M s.data.toList).length < i; rw [← HN.out]; exact h1), if_pos rfl]
      rw [e1]
      exact ⟨rfl, F, DiskOf.mono h (by omega), Gr.refl _ _⟩
    · by_cases h3 : i < n
      · obtain ⟨x, hx⟩ : ∃ x, (M s.data.toList)[i]? = some x := ⟨_, List.getElem?_eq_getElem (by rw [← HN.out]; exact h3)⟩
        refine (write_old w d F N M free fuse h s hs i n (i * 385) HN h3 rfl b boff cap zs hb h2 hf hf2 x (hidn hx)).mono ?_
        rintro e w' ⟨rfl, hD, hG⟩
        have e1 : wrD ⟨M, free, fuse⟩ s.data.toList i zs = (⟨upd M s.data.toList ((M s.data.toList).set i (x.wrote zs)), free, burnt fuse⟩, 0) := by
          unfold wrD
          rw [if_neg (by show ¬ (M s.data.toList).length < i; rw [← HN.out]; exact h1), if_neg h2]
          simp only [hx]
        rw [e1]
        exact ⟨rfl, F, DiskOf.mono hD (by omega), hG⟩
      · have hin : i = n := by omega
        subst hin
        have hx : (M s.data.toList)[i]? = none := List.getElem?_eq_none (by rw [← HN.out]; omega)
        by_cases h4 : free = 0
        · subst h4
          refine (write_full w d F N M fuse h s hs i HN _ cap h2 hf hf2).mono ?_
          rintro e w' ⟨rfl, hD, hG⟩
          have e1 : wrD ⟨M, 0, fuse⟩ s.data.toList i zs = (⟨M, 0, burnt fuse⟩, 4) := by
            unfold wrD
            rw [if_neg (by show ¬ (M s.data.toList).length < i; rw [← HN.out]; exact h1), if_neg h2]
            simp only [hx, if_true]
          rw [e1]
          exact ⟨rfl, F, DiskOf.mono hD (by omega), hG⟩
        · refine (write_new w d F N M free fuse h s hs i (i * 385) HN rfl b boff cap zs hb h2 hf hf2 hn hNm (by omega) hfr).mono ?_
          rintro e w' ⟨rfl, F', hD, hG⟩
          have e1 : wrD ⟨M, free, fuse⟩ s.data.toList i zs = (⟨upd M s.data.toList (M s.data.toList ++ [zeroE.wrote zs]), free - 1, burnt fuse⟩, 0) := by
            unfold wrD
            rw [if_neg (by show ¬ (M s.data.toList).length < i; rw [← HN.out]; exact h1), if_neg h2]
            simp only [hx]
            rw [if_neg h4]
          rw [e1]
          exact ⟨rfl, F', hD, hG⟩

theorem write_st (w : World) (d : Nat) (F : Nat → Prop) (N : Nat) (st : St) (h : DiskS w d F N st) (s : ByteArray) (hs : nameB s.data.toList = true) (i n : Nat) (HN : Hid (n = (st.M s.data.toList).length)) (b cap : Nat) (zs : List Nat) (hb : BsF F w (some ⟨b, 0, none⟩) 128 zs) (hf : -1 ≤ st.fuse) (hf2 : st.fuse ≤ 9223372036854775807) (hn : n ≤ 1000000) (hNm : N < maxLen) (hfr0 : 0 ≤ st.free) (hfr : st.free ≤ 1000000) :
    Calls Try.prog 14 #[.pointer (some ⟨d, 0, none⟩), .string s, .int .i64 (i : Int), .slice (some ⟨b, 0, none⟩) 128 cap] w (WrPost w d F (N + 1) (wrD st s.data.toList i zs)) :=
  write_sto w d F N st h s hs i n HN b 0 cap zs hb hf hf2 hn hNm hfr0 hfr

theorem sync_st (w : World) (d : Nat) (F : Nat → Prop) (N : Nat) (st : St) (h : DiskS w d F N st) (s : ByteArray) (hsm : s.size ≤ maxLen) (hf : -1 ≤ st.fuse) (hf2 : st.fuse ≤ 9223372036854775807) :
    Calls Try.prog 17 #[.pointer (some ⟨d, 0, none⟩), .string s] w (WrPost w d F N (syD st s.data.toList)) := by
  by_cases h1 : st.M s.data.toList = []
  · refine (sync_none w d F N st.M st.free st.fuse h s hsm h1).mono ?_
    rintro e w' ⟨rfl, rfl⟩
    have e1 : syD st s.data.toList = (st, 30) := by unfold syD; rw [if_pos h1]
    rw [e1]
    exact ⟨rfl, F, h, Gr.refl _ _⟩
  · obtain ⟨M, free, fuse⟩ := st
    by_cases h2 : fuse = 0
    · subst h2
      refine (sync_dead w d F N M free h s hsm h1).mono ?_
      rintro e w' ⟨rfl, rfl⟩
      have e1 : syD ⟨M, free, 0⟩ s.data.toList = (⟨M, free, 0⟩, 31) := by unfold syD; rw [if_neg h1, if_pos rfl]
      rw [e1]
      exact ⟨rfl, F, h, Gr.refl _ _⟩
    · refine (sync_disk w d F N M free fuse h s hsm h1 h2 hf hf2).mono ?_
      rintro e w' ⟨rfl, hD, hG⟩
      have e1 : syD ⟨M, free, fuse⟩ s.data.toList = (⟨upd M s.data.toList ((M s.data.toList).map Ext.synced), free, burnt fuse⟩, 0) := by unfold syD; rw [if_neg h1, if_neg h2]
      rw [e1]
      exact ⟨rfl, F, hD, hG⟩

/-- What stays within its bounds. -/
structure StOK (st : St) (k : Nat) : Prop where
  fuse : -1 ≤ st.fuse
  fuse2 : st.fuse ≤ 9223372036854775807
  free : 0 ≤ st.free
  free2 : st.free ≤ 1000000
  len : ∀ nm, (st.M nm).length ≤ k

theorem burnt_ok {f : Int} (h : -1 ≤ f) (h0 : f ≠ 0) (h2 : f ≤ 9223372036854775807) : -1 ≤ burnt f ∧ burnt f ≤ 9223372036854775807 := by
  unfold burnt
  split <;> omega

theorem upd_len {M : List UInt8 → List Ext} {k : Nat} (h : ∀ nm, (M nm).length ≤ k) (s : List UInt8) (l : List Ext) (hl : l.length ≤ k + 1) : ∀ nm, (upd M s l nm).length ≤ k + 1 := by
  intro nm
  unfold upd
  split
  · exact hl
  · have := h nm; omega

theorem StOK.mono {st : St} {k k' : Nat} (h : StOK st k) (hk : k ≤ k') : StOK st k' := ⟨h.fuse, h.fuse2, h.free, h.free2, fun nm => Nat.le_trans (h.len nm) hk⟩

theorem StOK.wr {st : St} {k : Nat} (h : StOK st k) (nm : List UInt8) (i : Nat) (z : List Nat) : StOK (wrD st nm i z).1 (k + 1) := by
  unfold wrD
  split
  · exact h.mono (by omega)
  · split
    · exact h.mono (by omega)
    · next h0 =>
      have hb := burnt_ok h.fuse h0 h.fuse2
      split
      · exact ⟨hb.1, hb.2, h.free, h.free2, upd_len h.len _ _ (by rw [List.length_set]; have := h.len nm; omega)⟩
      · split
        · exact ⟨hb.1, hb.2, h.free, h.free2, fun nm => by have := h.len nm; show (st.M nm).length ≤ k + 1; omega⟩
        · next hf => exact ⟨hb.1, hb.2, by have := h.free; show 0 ≤ st.free - 1; omega, by have := h.free2; show st.free - 1 ≤ 1000000; omega, upd_len h.len _ _ (by rw [List.length_append, List.length_singleton]; have := h.len nm; omega)⟩

theorem StOK.sy {st : St} {k : Nat} (h : StOK st k) (nm : List UInt8) : StOK (syD st nm).1 k := by
  unfold syD
  split
  · exact h
  · split
    · exact h
    · next h0 =>
      have hb := burnt_ok h.fuse h0 h.fuse2
      refine ⟨hb.1, hb.2, h.free, h.free2, fun t => ?_⟩
      show (upd st.M nm ((st.M nm).map Ext.synced) t).length ≤ k
      unfold upd
      split
      · rw [List.length_map]; exact h.len nm
      · exact h.len t

end Go.Proofs.Ytocfbokgbpaneaa

namespace Go.Proofs.Ytocfbokgbpaneaa
open Go.RowKit Go.Maps
set_option linter.unusedVariables false
theorem DiskIs.freedI {w : World} {d N : Nat} {F : Nat → Prop} {M : List UInt8 → List Ext} {free fuse : Int} {bm : Nat} {D : DataW Unit} {G C : List UInt8 → Nat} (h : DiskIs w d F N M free fuse bm D G C) (f' : Int) : DiskIs (w.setCell ⟨d, 1, none⟩ (.int .i64 f')) d F N M f' fuse bm D G C := by
  obtain ⟨h1, h2, h3, h4, h5, h6, h7⟩ := h
  refine ⟨?_, h2, h3, h4.setCell (map_ne h4 h1) _, h5, fun s hs => ?_, h7⟩
  · rw [setCell_eq_setRow _ _ _ _ _ _ _ h1]; exact setRow_heap _ _ _ _ _ _ h1
  · obtain ⟨a1, a2, a3⟩ := h6 s hs
    exact ⟨a1, own_setCell (a := ⟨d, 1, none⟩) a2 (fun e => row_ne a2 h1 (Option.some.inj e)) _, a3⟩
/-- A name is struck off the map. -/
theorem DiskIs.struck {w : World} {d N : Nat} {F : Nat → Prop} {M : List UInt8 → List Ext} {free fuse : Int} {bm : Nat} {D : DataW Unit} {G C : List UInt8 → Nat} (h : DiskIs w d F N M free fuse bm D G C) (s : ByteArray) (hs : s.size ≤ maxLen) (ty : TypeId) :
    ∃ w', (Builtin.delete_ #[41, 9] ty #[.map (some bm), .string s]).run Try.prog w = .ok (.tuple #[]) w' ∧ DiskOf w' d F N (upd M s.data.toList []) free fuse ∧ Gr F F w w' := by
  obtain ⟨h1, h2, h3, h4, h5, h6, h7⟩ := h
  obtain ⟨w', hrun, hown, hmt⟩ := h4.drop lawS Try.underlying41 (Go.WideMaps.keyOf_string_mk Try.underlying9 hs) ty
  have hg := hmt.grown
  have hne : ∀ t, t ≠ s.data.toList → (Lit.string t) ≠ Lit.string s.data.toList := fun t ht e => ht (by simpa using e)
  refine ⟨w', hrun, ⟨bm, D.del (.string s.data.toList), G, C, ?_, h2, ⟨h3.1, fun t ht => ?_⟩, hown, fun t ht => ?_, fun t ht => ?_, fun t t' ht ht' hn => ?_⟩, Gr.of (Keeps.of_grown hg (fun k hk => by cases hk; exact h3.1))⟩
  · rw [hg.block d (Array.getElem?_eq_some_iff.1 h1).1 (fun e => map_ne h4 h1 (Option.some.inj e).symm)]
    exact h1
  · by_cases hts : t = s.data.toList
    · rw [hts, upd_same] at ht; exact absurd rfl ht
    · rw [upd_other _ _ _ _ hts] at ht; exact h3.2 t ht
  · by_cases hts : t = s.data.toList
    · rw [hts]; exact has_del_same
    · rw [upd_other _ _ _ _ hts] at ht
      rw [has_del_other (hne t hts)]
      exact h5 t ht
  · by_cases hts : t = s.data.toList
    · rw [hts, upd_same] at ht; exact absurd rfl ht
    · rw [upd_other _ _ _ _ hts] at ht ⊢
      obtain ⟨a1, a2, a3⟩ := h6 t ht
      refine ⟨fun z => by rw [atKey_del_other (hne t hts)]; exact a1 z, ?_, a3⟩
      obtain ⟨hl, hr⟩ := a2
      refine ⟨hl, ?_⟩
      rcases hr with hr | ⟨g, cap, cur, hv, hg0, hh, r⟩
      · exact .inl hr
      · refine .inr ⟨g, cap, cur, hv, hg0, ?_, r⟩
        rw [hg.block g (Array.getElem?_eq_some_iff.1 hh).1 (fun e => by
          obtain ⟨es, clock, hbk, _⟩ := h4
          rw [Option.some.inj e] at hh
          rw [hh] at hbk
          cases hbk)]
        exact hh
  · by_cases e1 : t = s.data.toList
    · rw [e1, upd_same] at ht; exact absurd rfl ht
    · by_cases e2 : t' = s.data.toList
      · rw [e2, upd_same] at ht'; exact absurd rfl ht'
      · rw [upd_other _ _ _ _ e1] at ht
        rw [upd_other _ _ _ _ e2] at ht'
        exact h7 t t' ht ht' hn
set_option maxHeartbeats 1000000 in
theorem removeR_none (w : World) (d : Nat) (F : Nat → Prop) (N : Nat) (M : List UInt8 → List Ext) (free fuse : Int) (h : DiskOf w d F N M free fuse) (s : ByteArray) (hs : s.size ≤ maxLen) (he : M s.data.toList = []) :
    Calls Try.prog 19 #[.pointer (some ⟨d, 0, none⟩), .string s] w fun e w' => e = .returned (.int .i64 30) ∧ w' = w := by
  obtain ⟨bm, D, G, C, hI⟩ := h.is
  have hlk := hI.look2_no s hs he
  have c0 := hI.c0
  clear hI he
  go_enter Try.func19, Try.ntmps19
  go_wp2_with fail
  refine (isMade_any _ d F N M free fuse h).mono ?_
  rintro e w1 ⟨rfl, rfl⟩
  go_wp2
  go_ret
  exact ⟨rfl, rfl⟩
set_option maxHeartbeats 2000000 in
set_option maxRecDepth 100000 in
theorem remove_disk (w : World) (d : Nat) (F : Nat → Prop) (N : Nat) (M : List UInt8 → List Ext) (free : Int) (h : DiskOf w d F N M free (-1)) (s : ByteArray) (hs : s.size ≤ maxLen) (n : Nat) (HN : Hid (n = (M s.data.toList).length)) (hne : M s.data.toList ≠ []) (hf0 : 0 ≤ free) (hf1 : free ≤ 1000000) (hn : n ≤ 1000000) :
    Calls Try.prog 19 #[.pointer (some ⟨d, 0, none⟩), .string s] w fun e w' => e = .returned (.int .i64 0) ∧ DiskOf w' d F N (upd M s.data.toList []) (free + n) (-1) ∧ Gr F F w w' := by
  obtain ⟨bm, D, G, C, hI⟩ := h.is
  have hlk := hI.look2 s hs hne
  rw [← HN.out] at hlk
  have c0 := hI.c0
  clear hne
  generalize G s.data.toList = gs at hlk
  generalize C s.data.toList = gc at hlk
  have hwr : IntKind.i64.wrap (free + (n : Int)) = free + (n : Int) := by rw [IntKind.wrap_i64]; omega
  go_enter Try.func19, Try.ntmps19
  go_wp2_with fail
  refine (isMade_any _ d F N M free (-1) h).mono ?_
  rintro e w1 ⟨rfl, rfl⟩
  go_wp2_with fail
  refine (burn_is hI (by omega) (by omega) (by omega)).mono ?_
  rintro e w2 ⟨rfl, hI2, hG2⟩
  rw [show burnt (-1) = -1 by decide] at hI2
  have hI3 := hI2.freedI (free + (n : Int))
  have c0' := hI2.c0
  have c1' := hI2.c1
  have f1' := frozen_of_row _ _ 1 _ _ hI2.1
  have c0'' := hI3.c0
  have hG3 : Gr F F w1 (w2.setCell ⟨d, 1, none⟩ (.int .i64 (free + (n : Int)))) := hG2.trans (Gr.of ((Keeps.refl _ _).setCell hI2.2.1.1 _))
  obtain ⟨w4, hdel, hD4, hG4⟩ := hI3.struck s hs 0
  have HD4 := hidn hD4
  have HG4 := hidn (hG3.trans hG4)
  clear hI hI2 hI3 hG2 hG3 hD4 hG4 hlk c0 h
  go_wp2_with fail
  go_ret
  exact ⟨rfl, HD4.out, HG4.out⟩
end Go.Proofs.Ytocfbokgbpaneaa
