/- The disk's Sync: its contracts. -/
import Derived.Test.YtidlogeeophogaaDoorDiskSync
namespace Go.Proofs.YtidlogeeophogaaDoor
open Go.RowKit Go.Maps
set_option linter.unusedVariables false

section
variable {w : World} {d N : Nat} {F : Nat → Prop} {M : List UInt8 → List Ext} {free fuse : Int} {bm : Nat} {D : DataW Unit} {G C : List UInt8 → Nat}
theorem set_at {l : List Ext} {i : Nat} {x : Ext} (h : l[i]? = some x) : l.set i x = l := by
  obtain ⟨hi, he⟩ := List.getElem?_eq_some_iff.1 h
  rw [← he, List.set_getElem_self]
set_option maxHeartbeats 1000000 in
theorem sync_ext (h : DiskIs w d F N M free fuse bm D G C) (s : List UInt8) (i : Nat) (x : Ext) (hx : (M s)[i]? = some x) (o : Nat) (ho : i * 385 = o) :
    Calls Tryd.prog 72 #[.pointer (some ⟨G s, o, none⟩)] w fun e w' => e = .returned (.tuple #[]) ∧ DiskIs w' d F N (upd M s ((M s).set i x.synced)) free fuse bm D G C ∧ Gr F F w w' := by
  obtain ⟨p1, p2, p3, p4, p5, p6⟩ := h.parts s i x hx o ho
  have hsome : ∀ {l : List Ext} {y : Ext}, (M s).length = l.length → (upd M s (l.set i y) s)[i]? = some y := by
    intro l y hl
    obtain ⟨hi, _⟩ := List.getElem?_eq_some_iff.1 hx
    rw [upd_same, List.getElem?_set_self (by omega)]
  cases hw : x.waits with
  | true =>
    rw [hw] at p4
    refine (sync_wait w (G s) o x.wri p6.2.2.1 p3 (by simpa using h.thereAt s i x hx o ho 0 128 (by omega)) (h.thereAt s i x hx o ho 128 128 (by omega)) (h.thereAt s i x hx o ho 384 1 (by omega)) p4).mono ?_
    rintro e w' ⟨rfl, rfl⟩
    have hb : Below w.heap.size w w.drew := (Below.refl _ _).drew
    have h0 := h.below hb
    have hl := p6.2.2.1
    obtain ⟨h1, g1⟩ := h0.put s i x hx o ho 0 (vb x.wri) { x with dur := x.wri } ⟨p6.2.2, p6.2.1, p6.2.2⟩ (by rw [length_vb, hl]; omega) (cells_dur p6 _ hl)
    obtain ⟨h2, g2⟩ := h1.put s i _ (hsome rfl) o ho 128 (vb x.wri) { x with dur := x.wri, syn := x.wri } ⟨p6.2.2, p6.2.2, p6.2.2⟩ (by rw [length_vb, hl]; omega) (cells_syn (x := { x with dur := x.wri }) ⟨p6.2.2, p6.2.1, p6.2.2⟩ _ hl)
    rw [upd_upd, upd_same, List.set_set] at h2
    obtain ⟨h3, g3⟩ := h2.put s i _ (hsome rfl) o ho 384 [.bool false] ⟨x.wri, x.wri, x.wri, false⟩ ⟨p6.2.2, p6.2.2, p6.2.2⟩ (by simp) (cells_waits (x := { x with dur := x.wri, syn := x.wri }) ⟨p6.2.2, p6.2.2, p6.2.2⟩ false)
    rw [upd_upd, upd_same, List.set_set] at h3
    have e : x.synced = ⟨x.wri, x.wri, x.wri, false⟩ := by simp [Ext.synced, hw]
    rw [e]
    exact ⟨rfl, h3, (((Gr.of (Keeps.of_below hb)).trans g1).trans g2).trans g3⟩
  | false =>
    have e : x.synced = x := by simp [Ext.synced, hw]
    rw [e, set_at hx, upd_self M s _ rfl]
    rw [hw] at p4
    have H := hidn h
    clear h p1 p2 p3 p5 p6 hsome
    generalize G s = g at *
    go_enter Tryd.func72, Tryd.ntmps72
    go_wp2
    go_end0
    exact ⟨rfl, H.out, Gr.refl _ _⟩

theorem DiskIs.fused (h : DiskIs w d F N M free fuse bm D G C) (f' : Int) : DiskIs (w.setCell ⟨d, 2, none⟩ (.int .i64 f')) d F N M free f' bm D G C := by
  obtain ⟨h1, h2, h3, h4, h5, h6, h7⟩ := h
  refine ⟨?_, h2, h3, h4.setCell (map_ne h4 h1) _, h5, fun s hs => ?_, h7⟩
  · rw [setCell_eq_setRow _ _ _ _ _ _ _ h1]; exact setRow_heap _ _ _ _ _ _ h1
  · obtain ⟨a1, a2, a3⟩ := h6 s hs
    exact ⟨a1, own_setCell (a := ⟨d, 2, none⟩) a2 (fun e => row_ne a2 h1 (Option.some.inj e)) _, a3⟩
set_option maxHeartbeats 1000000 in
theorem burn_is (h : DiskIs w d F N M free fuse bm D G C) (h0 : fuse ≠ 0) (hf : -1 ≤ fuse) (hf2 : fuse ≤ 9223372036854775807) :
    Calls Tryd.prog 71 #[.pointer (some ⟨d, 0, none⟩)] w fun e w' => e = .returned (.bool true) ∧ DiskIs w' d F N M free (burnt fuse) bm D G C ∧ Gr F F w w' := by
  have hB := h.2.1.1
  have h' := hidn (h.fused (fuse - 1))
  have h'' := hidn h
  have h1 := h.1
  have c2 : w.cell? ⟨d, 2, none⟩ = some (.int .i64 fuse) := by rw [cell_of_row _ _ _ _ _ _ h1]; rfl
  have f2 := frozen_of_row _ _ 2 _ _ h1
  clear h1 h
  have e0 : (fuse == 0) = false := beq_eq_false_iff_ne.2 h0
  by_cases hm : fuse = -1
  · subst hm
    go_enter Tryd.func71, Tryd.ntmps71
    go_wp2
    go_ret
    exact ⟨rfl, h''.out, Gr.refl _ _⟩
  · have e1 : (fuse != -1) = true := bne_iff_ne.2 hm
    have hw : IntKind.i64.wrap (fuse - 1) = fuse - 1 := by rw [IntKind.wrap_i64]; omega
    have HE : Hid (burnt fuse = fuse - 1) := hidn (by unfold burnt; rw [if_neg hm])
    go_enter Tryd.func71, Tryd.ntmps71
    go_wp2
    go_ret
    rw [HE.out]
    exact ⟨rfl, h'.out, Gr.of ((Keeps.refl _ _).setCell hB _)⟩

theorem DiskIs.look2 (h : DiskIs w d F N M free fuse bm D G C) (s : ByteArray) (hs : s.size ≤ maxLen) (hne : M s.data.toList ≠ []) :
    (Instr.lookup 36 (.map (some bm)) (.string s) true).run Tryd.prog w = .ok (.tuple #[.slice (some ⟨G s.data.toList, 0, none⟩) (M s.data.toList).length (C s.data.toList), .bool true]) w := by
  obtain ⟨h1, h2, h3, h4, h5, h6, h7⟩ := h
  obtain ⟨v, ps, hrun, hv⟩ := h4.look_ok lawS Tryd.underlying36 (zeroSl w) hd_nil (Go.WideMaps.keyOf_string_mk Tryd.underlying9 hs)
  rw [(h6 _ hne).1] at hv
  rw [hd_inv hv, has_true_of_atKey (h6 _ hne).1] at hrun
  exact hrun
theorem DiskIs.look2_no (h : DiskIs w d F N M free fuse bm D G C) (s : ByteArray) (hs : s.size ≤ maxLen) (he : M s.data.toList = []) :
    (Instr.lookup 36 (.map (some bm)) (.string s) true).run Tryd.prog w = .ok (.tuple #[.slice none 0 0, .bool false]) w := by
  obtain ⟨h1, h2, h3, h4, h5, h6, h7⟩ := h
  obtain ⟨v, ps, hrun, hv⟩ := h4.look_ok lawS Tryd.underlying36 (zeroSl w) hd_nil (Go.WideMaps.keyOf_string_mk Tryd.underlying9 hs)
  rw [atKey_of_not_has (h5 _ he)] at hv
  rw [hd_inv_nil hv, h5 _ he] at hrun
  exact hrun
end

set_option maxHeartbeats 1000000 in
theorem sync_none (w : World) (d : Nat) (F : Nat → Prop) (N : Nat) (M : List UInt8 → List Ext) (free fuse : Int) (h : DiskOf w d F N M free fuse) (s : ByteArray) (hs : s.size ≤ maxLen) (he : M s.data.toList = []) :
    Calls Tryd.prog 45 #[.pointer (some ⟨d, 0, none⟩), .string s] w fun e w' => e = .returned (.int .i64 30) ∧ w' = w := by
  obtain ⟨bm, D, G, C, hI⟩ := h.is
  have hlk := hI.look2_no s hs he
  have c0 := hI.c0
  clear hI he
  go_enter Tryd.func45, Tryd.ntmps45
  go_wp2_with fail
  refine (isMade_any _ d F N M free fuse h).mono ?_
  rintro e w1 ⟨rfl, rfl⟩
  go_wp2
  go_ret
  exact ⟨rfl, rfl⟩

set_option maxHeartbeats 1000000 in
theorem sync_dead (w : World) (d : Nat) (F : Nat → Prop) (N : Nat) (M : List UInt8 → List Ext) (free : Int) (h : DiskOf w d F N M free 0) (s : ByteArray) (hs : s.size ≤ maxLen) (hne : M s.data.toList ≠ []) :
    Calls Tryd.prog 45 #[.pointer (some ⟨d, 0, none⟩), .string s] w fun e w' => e = .returned (.int .i64 31) ∧ w' = w := by
  obtain ⟨bm, D, G, C, hI⟩ := h.is
  have hlk := hI.look2 s hs hne
  have c0 := hI.c0
  clear hI hne
  go_enter Tryd.func45, Tryd.ntmps45
  go_wp2_with fail
  refine (isMade_any _ d F N M free 0 h).mono ?_
  rintro e w1 ⟨rfl, rfl⟩
  go_wp2_with fail
  refine (burn_zero _ d F N M free h).mono ?_
  rintro e w1 ⟨rfl, rfl⟩
  go_wp2
  go_ret
  exact ⟨rfl, rfl⟩

/-- A file with its first k extents synced. -/
def syncTo (l : List Ext) (k : Nat) : List Ext := (l.take k).map Ext.synced ++ l.drop k
theorem syncTo_zero (l : List Ext) : syncTo l 0 = l := by simp [syncTo]
theorem syncTo_all (l : List Ext) : syncTo l l.length = l.map Ext.synced := by simp [syncTo]
theorem syncTo_length (l : List Ext) (k : Nat) : (syncTo l k).length = l.length := by simp [syncTo]; omega
theorem syncTo_at (l : List Ext) (k : Nat) (hk : k < l.length) : (syncTo l k)[k]? = some l[k] := by
  unfold syncTo
  rw [List.getElem?_append_right (by simp; omega)]
  simp [Nat.min_eq_left (Nat.le_of_lt hk), List.getElem?_drop]
theorem syncTo_step (l : List Ext) (k : Nat) (hk : k < l.length) : (syncTo l k).set k l[k].synced = syncTo l (k + 1) := by
  unfold syncTo
  rw [List.set_append_right _ _ (by simp; omega), List.length_map, List.length_take, Nat.min_eq_left (by omega), Nat.sub_self, List.drop_eq_getElem_cons hk, List.set_cons_zero, List.take_succ_eq_append_getElem hk, List.map_append, List.append_assoc]
  rfl

set_option maxHeartbeats 2000000 in
theorem sync_disk (w : World) (d : Nat) (F : Nat → Prop) (N : Nat) (M : List UInt8 → List Ext) (free fuse : Int) (h : DiskOf w d F N M free fuse) (s : ByteArray) (hs : s.size ≤ maxLen) (hne : M s.data.toList ≠ []) (h0 : fuse ≠ 0) (hf : -1 ≤ fuse) (hf2 : fuse ≤ 9223372036854775807) :
    Calls Tryd.prog 45 #[.pointer (some ⟨d, 0, none⟩), .string s] w fun e w' => e = .returned (.int .i64 0) ∧ DiskOf w' d F N (upd M s.data.toList ((M s.data.toList).map Ext.synced)) free (burnt fuse) ∧ Gr F F w w' := by
  obtain ⟨bm, D, G, C, hI⟩ := h.is
  obtain ⟨n, hn⟩ : ∃ n, n = (M s.data.toList).length := ⟨_, rfl⟩
  have hlen := hI.len s.data.toList
  have hlk := hI.look2 s hs hne
  rw [← hn] at hlen hlk
  unfold maxLen at hlen
  have c0 := hI.c0
  have HN := hidn hn
  have HNE := hidn hne
  clear hne hn
  go_enter Tryd.func45, Tryd.ntmps45
  go_wp2_with fail
  refine (isMade_any _ d F N M free fuse h).mono ?_
  rintro e w1 ⟨rfl, rfl⟩
  go_wp2_with fail
  refine (burn_is hI h0 hf hf2).mono ?_
  rintro e w1 ⟨rfl, hI1, hG1⟩
  clear hlk c0 hI h
  obtain ⟨g, hg⟩ : ∃ g, g = G s.data.toList := ⟨_, rfl⟩
  rw [← hg]
  have HG := hidn hg
  clear hg
  generalize C s.data.toList = c
  have HI1 := hidn hI1
  have HG1 := hidn hG1
  clear hI1 hG1
  go_wp2_with fail
  go_loopw [27] (fun iv wr => ∃ k : Nat, k ≤ n ∧ iv = .int .i64 k ∧ Hid (DiskIs wr d F N (upd M s.data.toList (syncTo (M s.data.toList) k)) free (burnt fuse) bm D G C) ∧ Hid (Gr F F w1 wr)) (fun iv _ => n - (intOf iv).toNat)
  case atStart =>
    refine ⟨0, Nat.zero_le _, rfl, ?_, hidn (Gr.refl _ _)⟩
    rw [syncTo_zero, upd_self M _ _ rfl]
    exact HI1
  case round =>
    obtain ⟨k, hk, rfl, HK, HGK⟩ := hrel
    by_cases hlt : k < n
    · obtain ⟨o, ho⟩ : ∃ o, k * 385 = o := ⟨_, rfl⟩
      have hIX := ext_index g n c k o hlt ho
      have HO := hidn ho
      have hlt' : decide (k < n) = true := by simpa using hlt
      have HLT := hidn hlt
      clear ho
      go_wp2_with (with_reducible refine wpList_index (by rfl) 121 (.tmp 30) (.tmp 31) (by rfl) (.slice (some ⟨g, 0, none⟩) n c) (.int .i64 (k : Int)) (.pointer (some ⟨g, o, none⟩)) (by kernel_rfl) (by kernel_rfl) (hIX _) ?_)
      rw [HG.out]
      have hkl : k < (M s.data.toList).length := by rw [← HN.out]; exact HLT.out
      have hat : (upd M s.data.toList (syncTo (M s.data.toList) k) s.data.toList)[k]? = some (M s.data.toList)[k] := by rw [upd_same, syncTo_at _ _ hkl]
      refine (sync_ext HK.out s.data.toList k _ hat o HO.out).mono ?_
      rw [upd_upd, upd_same, syncTo_step _ _ hkl, ← HG.out]
      rintro e w5 ⟨rfl, hI5, hG5⟩
      have HI5 := hidn hI5
      have HG5 := hidn (HGK.out.trans hG5)
      clear hI5 hG5 hat hkl
      go_wp2
      go_roundw
      case rel => exact ⟨k + 1, HLT.out, by go_num, HI5, HG5⟩
      case measure => simp [intOf]; have := HLT.out; omega
    · obtain rfl : k = n := by omega
      have hlt' : decide (k < k) = false := by simp
      go_wp2
      go_ret
      have h1 := HK.out.of
      rw [HN.out, syncTo_all] at h1
      exact ⟨rfl, h1, HG1.out.trans HGK.out⟩
end Go.Proofs.YtidlogeeophogaaDoor
