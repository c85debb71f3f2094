/- The disk: a file is taken away (a disk without a fuse). -/
import Derived.Test.YtpiohhljcjobfaaMc
namespace Go.Proofs.Ytpiohhljcjobfaa
open Go.RowKit Go.Maps
set_option linter.unusedVariables false
theorem DiskIs.freedI {w : World} {d N : Nat} {F : Nat → Prop} {M : List UInt8 → List Ext} {free fuse : Int} {bm : Nat} {D : DataW Unit} {G C : List UInt8 → Nat} (h : DiskIs w d F N M free fuse bm D G C) (f' : Int) : DiskIs (w.setCell ⟨d, 1, none⟩ (.int .i64 f')) d F N M f' fuse bm D G C := by
  obtain ⟨h1, h2, h3, h4, h5, h6, h7⟩ := h
  refine ⟨?_, h2, h3, h4.setCell (map_ne h4 h1) _, h5, fun s hs => ?_, h7⟩
  · rw [setCell_eq_setRow _ _ _ _ _ _ _ h1]; exact setRow_heap _ _ _ _ _ _ h1
  · obtain ⟨a1, a2, a3⟩ := h6 s hs
    exact ⟨a1, own_setCell (a := ⟨d, 1, none⟩) a2 (fun e => row_ne a2 h1 (Option.some.inj e)) _, a3⟩
/-- A name is struck off the map. -/
theorem DiskIs.struck {w : World} {d N : Nat} {F : Nat → Prop} {M : List UInt8 → List Ext} {free fuse : Int} {bm : Nat} {D : DataW Unit} {G C : List UInt8 → Nat} (h : DiskIs w d F N M free fuse bm D G C) (s : ByteArray) (hs : s.size ≤ maxLen) (ty : TypeId) :
    ∃ w', (Builtin.delete_ #[52, 9] ty #[.map (some bm), .string s]).run Try.prog w = .ok (.tuple #[]) w' ∧ DiskOf w' d F N (upd M s.data.toList []) free fuse ∧ Gr F F w w' := by
  obtain ⟨h1, h2, h3, h4, h5, h6, h7⟩ := h
  obtain ⟨w', hrun, hown, hmt⟩ := h4.drop lawS Try.underlying52 (Go.WideMaps.keyOf_string_mk Try.underlying9 hs) ty
  have hg := hmt.grown
  have hne : ∀ t, t ≠ s.data.toList → (Lit.string t) ≠ Lit.string s.data.toList := fun t ht e => ht (by simpa using e)
  refine ⟨w', hrun, ⟨bm, D.del (.string s.data.toList), G, C, ?_, h2, ⟨h3.1, fun t ht => ?_⟩, hown, fun t ht => ?_, fun t ht => ?_, fun t t' ht ht' hn => ?_⟩, Gr.of (Keeps.of_grown hg (fun k hk => by cases hk; exact h3.1))⟩
  · rw [hg.block d (Array.getElem?_eq_some_iff.1 h1).1 (fun e => map_ne h4 h1 (Option.some.inj e).symm)]
    exact h1
  · by_cases hts : t = s.data.toList
    · rw [hts, upd_same] at ht; exact absurd rfl ht
    · rw [upd_other _ _ _ _ hts] at ht; exact h3.2 t ht
  · by_cases hts : t = s.data.toList
    · rw [hts]; exact has_del_same
    · rw [upd_other _ _ _ _ hts] at ht
      rw [has_del_other (hne t hts)]
      exact h5 t ht
  · by_cases hts : t = s.data.toList
    · rw [hts, upd_same] at ht; exact absurd rfl ht
    · rw [upd_other _ _ _ _ hts] at ht ⊢
      obtain ⟨a1, a2, a3⟩ := h6 t ht
      refine ⟨fun z => by rw [atKey_del_other (hne t hts)]; exact a1 z, ?_, a3⟩
      obtain ⟨hl, hr⟩ := a2
      refine ⟨hl, ?_⟩
      rcases hr with hr | ⟨g, cap, cur, hv, hg0, hh, r⟩
      · exact .inl hr
      · refine .inr ⟨g, cap, cur, hv, hg0, ?_, r⟩
        rw [hg.block g (Array.getElem?_eq_some_iff.1 hh).1 (fun e => by
          obtain ⟨es, clock, hbk, _⟩ := h4
          rw [Option.some.inj e] at hh
          rw [hh] at hbk
          cases hbk)]
        exact hh
  · by_cases e1 : t = s.data.toList
    · rw [e1, upd_same] at ht; exact absurd rfl ht
    · by_cases e2 : t' = s.data.toList
      · rw [e2, upd_same] at ht'; exact absurd rfl ht'
      · rw [upd_other _ _ _ _ e1] at ht
        rw [upd_other _ _ _ _ e2] at ht'
        exact h7 t t' ht ht' hn
set_option maxHeartbeats 1000000 in
theorem removeR_none (w : World) (d : Nat) (F : Nat → Prop) (N : Nat) (M : List UInt8 → List Ext) (free fuse : Int) (h : DiskOf w d F N M free fuse) (s : ByteArray) (hs : s.size ≤ maxLen) (he : M s.data.toList = []) :
    Calls Try.prog 30 #[.pointer (some ⟨d, 0, none⟩), .string s] w fun e w' => e = .returned (.int .i64 30) ∧ w' = w := by
  obtain ⟨bm, D, G, C, hI⟩ := h.is
  have hlk := hI.look2_no s hs he
  have c0 := hI.c0
  clear hI he
  go_enter Try.func30, Try.ntmps30
  go_wp2_with fail
  refine (isMade_any _ d F N M free fuse h).mono ?_
  rintro e w1 ⟨rfl, rfl⟩
  go_wp2
  go_ret
  exact ⟨rfl, rfl⟩
set_option maxHeartbeats 2000000 in
set_option maxRecDepth 100000 in
theorem remove_disk (w : World) (d : Nat) (F : Nat → Prop) (N : Nat) (M : List UInt8 → List Ext) (free : Int) (h : DiskOf w d F N M free (-1)) (s : ByteArray) (hs : s.size ≤ maxLen) (n : Nat) (HN : Hid (n = (M s.data.toList).length)) (hne : M s.data.toList ≠ []) (hf0 : 0 ≤ free) (hf1 : free ≤ 1000000) (hn : n ≤ 1000000) :
    Calls Try.prog 30 #[.pointer (some ⟨d, 0, none⟩), .string s] w fun e w' => e = .returned (.int .i64 0) ∧ DiskOf w' d F N (upd M s.data.toList []) (free + n) (-1) ∧ Gr F F w w' := by
  obtain ⟨bm, D, G, C, hI⟩ := h.is
  have hlk := hI.look2 s hs hne
  rw [← HN.out] at hlk
  have c0 := hI.c0
  clear hne
  generalize G s.data.toList = gs at hlk
  generalize C s.data.toList = gc at hlk
  have hwr : IntKind.i64.wrap (free + (n : Int)) = free + (n : Int) := by rw [IntKind.wrap_i64]; omega
  go_enter Try.func30, Try.ntmps30
  go_wp2_with fail
  refine (isMade_any _ d F N M free (-1) h).mono ?_
  rintro e w1 ⟨rfl, rfl⟩
  go_wp2_with fail
  refine (burn_is hI (by omega) (by omega) (by omega)).mono ?_
  rintro e w2 ⟨rfl, hI2, hG2⟩
  rw [show burnt (-1) = -1 by decide] at hI2
  have hI3 := hI2.freedI (free + (n : Int))
  have c0' := hI2.c0
  have c1' := hI2.c1
  have f1' := frozen_of_row _ _ 1 _ _ hI2.1
  have c0'' := hI3.c0
  have hG3 : Gr F F w1 (w2.setCell ⟨d, 1, none⟩ (.int .i64 (free + (n : Int)))) := hG2.trans (Gr.of ((Keeps.refl _ _).setCell hI2.2.1.1 _))
  obtain ⟨w4, hdel, hD4, hG4⟩ := hI3.struck s hs 0
  have HD4 := hidn hD4
  have HG4 := hidn (hG3.trans hG4)
  clear hI hI2 hI3 hG2 hG3 hD4 hG4 hlk c0 h
  go_wp2_with fail
  go_ret
  exact ⟨rfl, HD4.out, HG4.out⟩
end Go.Proofs.Ytpiohhljcjobfaa
