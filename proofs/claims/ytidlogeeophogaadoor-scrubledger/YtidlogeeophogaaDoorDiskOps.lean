/- The disk's names, New, burn, at: their contracts. -/
import Derived.Test.YtidlogeeophogaaDoorDiskLeaf
namespace Go.Proofs.YtidlogeeophogaaDoor
open Go.RowKit Go.Maps
set_option linter.unusedVariables false

def inB (c : Nat) : Bool := decide ((97 ≤ c ∧ c ≤ 122) ∨ (48 ≤ c ∧ c ≤ 57) ∨ c = 46)
def nameB (l : List UInt8) : Bool := decide (1 ≤ l.length ∧ l.length ≤ 24) && l.all fun c => inB c.toNat

theorem own_setCell {w : World} {base e size n : Nat} {v : Value} {xs : List Value} (h : w.ownsRow base e size v n xs) {a : Addr} (ha : v.ownBlock ≠ some a.block) (u : Value) : (w.setCell a u).ownsRow base e size v n xs := by
  obtain ⟨hl, h1⟩ := h
  refine ⟨hl, ?_⟩
  rcases h1 with h1 | ⟨g, cap, cur, hv, hg, hh, r⟩
  · exact .inl h1
  · refine .inr ⟨g, cap, cur, hv, hg, ?_, r⟩
    subst hv
    rw [heap_setCell_other _ _ _ _ (fun e => ha (by rw [e]; rfl))]; exact hh
/-- No extents lie in the disk's own block. -/
theorem row_ne {w : World} {base n g c d : Nat} {xs : List Value} {cs : Array Value} (h : w.ownsRow base 124 385 (.slice (some ⟨g, 0, none⟩) n c) n xs) (hd : w.heap[d]? = some (.cells cs 38 (0, 0))) : g ≠ d := by
  rintro rfl
  rcases h.2 with ⟨h1, _⟩ | ⟨g', c', cur, hv, _, hh, _⟩
  · cases h1
  · cases hv
    rw [hd] at hh
    simp at hh
theorem map_ne {w : World} {k b n d : Nat} {D : DataW Unit} {cs : Array Value} {t : TypeId} {fr : Nat × Nat} (h : w.ownsMap Tryd.prog k hd b n D) (hd : w.heap[d]? = some (.cells cs t fr)) : b ≠ d := by
  rintro rfl
  obtain ⟨es, clock, hb, _⟩ := h
  rw [hd] at hb
  simp at hb
/-- A cell of the disk's own block is written: what is free (1), the fuse (2). -/
theorem DiskOf.fused {w : World} {d N : Nat} {F : Nat → Prop} {M : List UInt8 → List Ext} {free fuse : Int} (h : DiskOf w d F N M free fuse) (f' : Int) : DiskOf (w.setCell ⟨d, 2, none⟩ (.int .i64 f')) d F N M free f' := by
  obtain ⟨bm, D, G, C, h1, h2, h3, h4, h5, h6, h7⟩ := h
  refine ⟨bm, D, G, C, ?_, h2, h3, h4.setCell (map_ne h4 h1) _, h5, fun s hs => ?_, h7⟩
  · rw [setCell_eq_setRow _ _ _ _ _ _ _ h1]; exact setRow_heap _ _ _ _ _ _ h1
  · obtain ⟨a1, a2, a3⟩ := h6 s hs
    exact ⟨a1, own_setCell (a := ⟨d, 2, none⟩) a2 (fun e => row_ne a2 h1 (Option.some.inj e)) _, a3⟩
theorem DiskOf.freed {w : World} {d N : Nat} {F : Nat → Prop} {M : List UInt8 → List Ext} {free fuse : Int} (h : DiskOf w d F N M free fuse) (f' : Int) : DiskOf (w.setCell ⟨d, 1, none⟩ (.int .i64 f')) d F N M f' fuse := by
  obtain ⟨bm, D, G, C, h1, h2, h3, h4, h5, h6, h7⟩ := h
  refine ⟨bm, D, G, C, ?_, h2, h3, h4.setCell (map_ne h4 h1) _, h5, fun s hs => ?_, h7⟩
  · rw [setCell_eq_setRow _ _ _ _ _ _ _ h1]; exact setRow_heap _ _ _ _ _ _ h1
  · obtain ⟨a1, a2, a3⟩ := h6 s hs
    exact ⟨a1, own_setCell (a := ⟨d, 1, none⟩) a2 (fun e => row_ne a2 h1 (Option.some.inj e)) _, a3⟩
theorem DiskOf.base {w : World} {d N : Nat} {F : Nat → Prop} {M : List UInt8 → List Ext} {free fuse : Int} (h : DiskOf w d F N M free fuse) : F d := by
  obtain ⟨bm, D, G, C, h1, h2, _⟩ := h
  exact h2.1

/-- A change is taken off the fuse. -/
def burnt (fuse : Int) : Int := if fuse = -1 then -1 else fuse - 1

set_option maxHeartbeats 1000000 in
theorem burn_yes (w : World) (d : Nat) (F : Nat → Prop) (N : Nat) (M : List UInt8 → List Ext) (free fuse : Int) (h : DiskOf w d F N M free fuse) (h0 : fuse ≠ 0) (hf : -1 ≤ fuse) (hf2 : fuse ≤ 9223372036854775807) :
    Calls Tryd.prog 71 #[.pointer (some ⟨d, 0, none⟩)] w fun e w' => e = .returned (.bool true) ∧ DiskOf w' d F N M free (burnt fuse) ∧ Gr F F w w' := by
  have hB := h.base
  have h' := h.fused (fuse - 1)
  have h'' := h
  obtain ⟨bm, D, G, C, h1, _⟩ := h
  have c2 : w.cell? ⟨d, 2, none⟩ = some (.int .i64 fuse) := by rw [cell_of_row _ _ _ _ _ _ h1]; rfl
  have f2 := frozen_of_row _ _ 2 _ _ h1
  clear h1
  have e0 : (fuse == 0) = false := beq_eq_false_iff_ne.2 h0
  by_cases hm : fuse = -1
  · subst hm
    go_enter Tryd.func71, Tryd.ntmps71
    go_wp2
    go_ret
    exact ⟨rfl, h'', Gr.refl _ _⟩
  · have e1 : (fuse != -1) = true := bne_iff_ne.2 hm
    have hw : IntKind.i64.wrap (fuse - 1) = fuse - 1 := by rw [IntKind.wrap_i64]; omega
    have e2 : burnt fuse = fuse - 1 := by unfold burnt; rw [if_neg hm]
    have HE : Hid (burnt fuse = fuse - 1) := e2
    clear e2
    go_enter Tryd.func71, Tryd.ntmps71
    go_wp2
    go_ret
    rw [HE.out]
    exact ⟨rfl, h', Gr.of ((Keeps.refl _ _).setCell hB _)⟩

theorem diskOf_made (w : World) (r : Int) :
    DiskOf ((w.alloc (.map #[] 0)).alloc (.cells #[.map (some w.heap.size), .int .i64 r, .int .i64 (-1)] 38)) (w.heap.size + 1) (fun k => w.heap.size ≤ k ∧ k < w.heap.size + 2) 0 (fun _ => []) r (-1) := by
  refine ⟨w.heap.size, .map [], fun _ => 0, fun _ => 0, ?_, ⟨⟨by omega, by omega⟩, Nat.lt_succ_self _⟩, ⟨⟨Nat.le_refl _, by omega⟩, fun s h => absurd rfl h⟩, (World.ownsMap_made w _ _ _).alloc _, fun _ _ => rfl, fun s h => absurd rfl h, fun s s' h => absurd rfl h⟩
  rw [show w.heap.size + 1 = (w.alloc (.map #[] 0)).heap.size from by simp]
  exact heap_alloc_new _ _
set_option maxHeartbeats 1000000 in
theorem new_any (w : World) (r : Nat) (h : r ≤ 100000) :
    Calls Tryd.prog 20 #[.int .i64 r] w fun e w' => e = .returned (.tuple #[.pointer (some ⟨w.heap.size + 1, 0, none⟩), .int .i64 0]) ∧ DiskOf w' (w.heap.size + 1) (fun k => w.heap.size ≤ k ∧ k < w.heap.size + 2) 0 (fun _ => []) r (-1) ∧ Below w.heap.size w w' ∧ w'.heap.size = w.heap.size + 2 := by
  have hmm := @run_makeMap Tryd.prog
  have h1 : ¬ ((r : Int) < 0) := by omega
  have h2 : ¬ ((100000 : Int) < r) := by omega
  go_enter Tryd.func20, Tryd.ntmps20
  go_wp2
  go_ret2
  exact ⟨rfl, diskOf_made w r, ((Below.refl _ _).alloc (Nat.le_refl _) _).alloc (by simp) _, by simp⟩

set_option maxHeartbeats 1000000 in
theorem canName_loop (w : World) (s : ByteArray) (h1 : ((s.size : Int) == 0) = false) (h2 : ¬ (24 : Int) < s.size) (h3 : s.size ≤ 24) (r : Bool) (HR : Hid (r = s.data.toList.all fun c => inB c.toNat)) :
    Calls Tryd.prog 94 #[.string s] w fun e w' => e = .returned (.bool r) ∧ w' = w := by
  go_enter Tryd.func94, Tryd.ntmps94
  go_wp2
  go_loop [14] (fun iv => ∃ k : Nat, k ≤ s.size ∧ iv = .int .i64 k ∧ ((s.data.toList.take k).all fun c => inB c.toNat) = true) (fun iv => s.size - (intOf iv).toNat)
  case atStart => exact ⟨0, Nat.zero_le _, rfl, rfl⟩
  case round =>
    obtain ⟨k, hk, rfl, hall⟩ := hrel
    by_cases hlt : k < s.size
    · have hlt' : (k : Int) < (s.size : Int) := by omega
      have hstep : ((s.data.toList.take (k + 1)).all fun c => inB c.toNat) = inB s[k].toNat := by
        have hl : k < s.data.toList.length := hlt
        rw [List.take_succ_eq_append_getElem hl, List.all_append, hall, Bool.true_and]
        simp
        rfl
      have hfull : inB s[k].toNat = false → (s.data.toList.all fun c => inB c.toNat) = false := by
        intro hf
        rw [← hstep] at hf
        rw [Bool.eq_false_iff] at hf ⊢
        intro ha
        exact hf (List.all_eq_true.2 fun c hc => List.all_eq_true.1 ha c (List.mem_of_mem_take hc))
      have hc := s[k].toNat_lt
      have HS : Hid (_ = _) := hstep
      have HF : Hid (_ → _) := hfull
      clear hstep hfull
      go_wp2_with fail
      refine (canIn_any _ s[k].toNat hc).mono ?_
      rintro e w2 ⟨rfl, rfl⟩
      cases hb : decide ((97 ≤ s[k].toNat ∧ s[k].toNat ≤ 122) ∨ (48 ≤ s[k].toNat ∧ s[k].toNat ≤ 57) ∨ s[k].toNat = 46) with
      | true =>
        have HB : Hid (inB s[k].toNat = true) := hb
        clear hb
        go_wp2
        go_round
        case rel => exact ⟨k + 1, by omega, by go_num, by rw [HS.out]; exact HB.out⟩
        case measure => simp [intOf]; omega
      | false =>
        have HB : Hid (inB s[k].toNat = false) := hb
        clear hb
        go_wp2
        go_ret
        have e : r = false := HR.out.trans (HF.out HB.out)
        subst e
        exact ⟨rfl, rfl⟩
    · obtain rfl : k = s.size := by omega
      have ht : s.data.toList.take s.size = s.data.toList := List.take_of_length_le (Nat.le_of_eq rfl)
      have ha : (s.data.toList.all fun c => inB c.toNat) = true := by
        rw [ht] at hall
        exact hall
      clear ht
      have HA : Hid (_ = _) := ha
      clear ha hall
      go_wp2
      go_ret
      have e : r = true := HR.out.trans HA.out
      subst e
      exact ⟨rfl, rfl⟩
set_option maxHeartbeats 1000000 in
theorem canName_any (w : World) (s : ByteArray) (hm : s.size ≤ maxLen) :
    Calls Tryd.prog 94 #[.string s] w fun e w' => e = .returned (.bool (nameB s.data.toList)) ∧ w' = w := by
  unfold maxLen at hm
  have hl : s.data.toList.length = s.size := rfl
  by_cases h0 : s.size = 0
  · have e : nameB s.data.toList = false := by unfold nameB; rw [hl, decide_eq_false (by omega)]; rfl
    have h0' : ((s.size : Int) == 0) = true := by rw [beq_iff_eq]; omega
    rw [e]
    clear e
    go_enter Tryd.func94, Tryd.ntmps94
    go_wp2
    go_ret
    exact ⟨rfl, rfl⟩
  · have h0' : ((s.size : Int) == 0) = false := beq_eq_false_iff_ne.2 (by omega)
    by_cases h24 : 24 < s.size
    · have e : nameB s.data.toList = false := by unfold nameB; rw [hl, decide_eq_false (by omega)]; rfl
      have h24' : (24 : Int) < s.size := by omega
      rw [e]
      clear e
      go_enter Tryd.func94, Tryd.ntmps94
      go_wp2
      go_ret
      exact ⟨rfl, rfl⟩
    · have e : nameB s.data.toList = s.data.toList.all fun c => inB c.toNat := by unfold nameB; rw [hl, decide_eq_true (by omega), Bool.true_and]
      rw [e]
      exact canName_loop w s h0' (by omega) (by omega) _ rfl
end Go.Proofs.YtidlogeeophogaaDoor
