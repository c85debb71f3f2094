/- The small ones of the disk: isMade, burn, the names, New, Free, Fuse. -/
import Derived.Test.YtocfbokgbpaneaaDiskDef
import Derived.Laws.Cover3
import Derived.Laws.Pointers
import Derived.Laws.CopyOwn
import Derived.Maps.AppendAt
namespace Go.Proofs.Ytocfbokgbpaneaa
open Go.RowKit Go.Maps
set_option linter.unusedVariables false

set_option maxHeartbeats 1000000 in
theorem isMade_any (w : World) (d : Nat) (F : Nat → Prop) (N : Nat) (M : List UInt8 → List Ext) (free fuse : Int) (h : DiskOf w d F N M free fuse) :
    Calls Try.prog 11 #[.pointer (some ⟨d, 0, none⟩)] w fun e w' => e = .returned (.bool true) ∧ w' = w := by
  obtain ⟨bm, D, G, C, h1, _⟩ := h
  have c0 : w.cell? ⟨d, 0, none⟩ = some (.map (some bm)) := by rw [cell_of_row _ _ _ _ _ _ h1]; rfl
  clear h1
  have hmn := fun (wx : World) (m : Option Nat) => run_neq_map_nil (P := Try.prog) wx 41 9 44 m Try.underlying41
  have hpn := fun (wx : World) (p : Option Addr) => run_neq_pointer_nil (P := Try.prog) wx 23 p (by kernel_rfl)
  go_enter Try.func11, Try.ntmps11
  go_wp2
  go_ret
  exact ⟨rfl, rfl⟩

set_option maxHeartbeats 1000000 in
theorem burn_zero (w : World) (d : Nat) (F : Nat → Prop) (N : Nat) (M : List UInt8 → List Ext) (free : Int) (h : DiskOf w d F N M free 0) :
    Calls Try.prog 41 #[.pointer (some ⟨d, 0, none⟩)] w fun e w' => e = .returned (.bool false) ∧ w' = w := by
  obtain ⟨bm, D, G, C, h1, _⟩ := h
  have c2 : w.cell? ⟨d, 2, none⟩ = some (.int .i64 0) := by rw [cell_of_row _ _ _ _ _ _ h1]; rfl
  clear h1
  go_enter Try.func41, Try.ntmps41
  go_wp2
  go_ret
  exact ⟨rfl, rfl⟩

set_option maxHeartbeats 1000000 in
theorem canIn_any (w : World) (c : Nat) (hc : c < 256) :
    Calls Try.prog 54 #[.int .u8 c] w fun e w' => e = .returned (.bool (decide ((97 ≤ c ∧ c ≤ 122) ∨ (48 ≤ c ∧ c ≤ 57) ∨ c = 46))) ∧ w' = w := by
  by_cases h1 : 97 ≤ c
  · by_cases h2 : c ≤ 122
    · have e : decide ((97 ≤ c ∧ c ≤ 122) ∨ (48 ≤ c ∧ c ≤ 57) ∨ c = 46) = true := by simp [h1, h2]
      rw [e]
      clear e
      have h1' : (97 : Int) ≤ (c : Int) := by omega
      have h2' : (c : Int) ≤ 122 := by omega
      go_enter Try.func54, Try.ntmps54
      go_wp2
      go_ret
      exact ⟨rfl, rfl⟩
    · have e : decide ((97 ≤ c ∧ c ≤ 122) ∨ (48 ≤ c ∧ c ≤ 57) ∨ c = 46) = false := by simp; omega
      rw [e]
      clear e
      have h1' : (97 : Int) ≤ (c : Int) := by omega
      have h2' : ¬ (c : Int) ≤ 122 := by omega
      have h3' : (48 : Int) ≤ (c : Int) := by omega
      have h4' : ¬ (c : Int) ≤ 57 := by omega
      have h5' : ((c : Int) == 46) = false := beq_eq_false_iff_ne.2 (by omega)
      go_enter Try.func54, Try.ntmps54
      go_wp2
      go_ret
      exact ⟨rfl, rfl⟩
  · have h1' : ¬ (97 : Int) ≤ (c : Int) := by omega
    by_cases h3 : 48 ≤ c
    · have h3' : (48 : Int) ≤ (c : Int) := by omega
      by_cases h4 : c ≤ 57
      · have e : decide ((97 ≤ c ∧ c ≤ 122) ∨ (48 ≤ c ∧ c ≤ 57) ∨ c = 46) = true := by simp [h3, h4]
        rw [e]
        clear e
        have h4' : (c : Int) ≤ 57 := by omega
        go_enter Try.func54, Try.ntmps54
        go_wp2
        go_ret
        exact ⟨rfl, rfl⟩
      · have e : decide ((97 ≤ c ∧ c ≤ 122) ∨ (48 ≤ c ∧ c ≤ 57) ∨ c = 46) = false := by simp; omega
        rw [e]
        clear e
        have h4' : ¬ (c : Int) ≤ 57 := by omega
        have h5' : ((c : Int) == 46) = false := beq_eq_false_iff_ne.2 (by omega)
        go_enter Try.func54, Try.ntmps54
        go_wp2
        go_ret
        exact ⟨rfl, rfl⟩
    · have h3' : ¬ (48 : Int) ≤ (c : Int) := by omega
      by_cases h5 : c = 46
      · subst h5
        go_enter Try.func54, Try.ntmps54
        go_wp2
        go_ret
        exact ⟨rfl, rfl⟩
      · have e : decide ((97 ≤ c ∧ c ≤ 122) ∨ (48 ≤ c ∧ c ≤ 57) ∨ c = 46) = false := by simp; omega
        rw [e]
        clear e
        have h5' : ((c : Int) == 46) = false := beq_eq_false_iff_ne.2 (by omega)
        go_enter Try.func54, Try.ntmps54
        go_wp2
        go_ret
        exact ⟨rfl, rfl⟩
end Go.Proofs.Ytocfbokgbpaneaa

namespace Go.Proofs.Ytocfbokgbpaneaa
open Go.RowKit Go.Maps
set_option linter.unusedVariables false

/-- A pointer to no disk, or to one that is zero. -/
def Unmade (w : World) (v : Value) : Prop := v = .pointer none ∨ ∃ b, v = .pointer (some ⟨b, 0, none⟩) ∧ w.cell? ⟨b, 0, none⟩ = some (.map none) ∧ b < w.heap.size
theorem Unmade.below {w w' : World} {v : Value} (h : Unmade w v) (hb : Below w.heap.size w w') : Unmade w' v := by
  rcases h with h | ⟨b, h1, h2, h3⟩
  · exact .inl h
  · exact .inr ⟨b, h1, (hb.cell (p := ⟨b, 0, none⟩) h3).trans h2, Nat.lt_of_lt_of_le h3 hb.size⟩

set_option maxHeartbeats 1000000 in
theorem isMade_un (w : World) (v : Value) (h : Unmade w v) :
    Calls Try.prog 11 #[v] w fun e w' => e = .returned (.bool false) ∧ w' = w := by
  have hmn := fun (wx : World) (m : Option Nat) => run_neq_map_nil (P := Try.prog) wx 41 9 44 m Try.underlying41
  have hpn := fun (wx : World) (p : Option Addr) => run_neq_pointer_nil (P := Try.prog) wx 23 p (by kernel_rfl)
  rcases h with rfl | ⟨b, rfl, c0, _⟩
  · go_enter Try.func11, Try.ntmps11
    go_wp2
    go_ret
    exact ⟨rfl, rfl⟩
  · go_enter Try.func11, Try.ntmps11
    go_wp2
    go_ret
    exact ⟨rfl, rfl⟩

set_option maxHeartbeats 1000000 in
theorem read_un (w : World) (v : Value) (h : Unmade w v) (x y : Value) :
    Calls Try.prog 37 #[v, x, y] w fun e w' => e = .returned (.tuple #[.slice none 0 0, .int .i64 2]) ∧ Below w.heap.size w w' := by
  go_enter Try.func37, Try.ntmps37
  go_wp2_with fail
  refine (isMade_un _ v h).mono ?_
  rintro e w1 ⟨rfl, rfl⟩
  go_wp2
  exact bodyPost_ret (v := .tuple #[.slice none 0 0, .int .i64 2]) (by simp [results, Try.results37, go_sem]) rfl ⟨rfl, Below.refl _ _⟩

end Go.Proofs.Ytocfbokgbpaneaa

namespace Go.Proofs.Ytocfbokgbpaneaa
open Go.RowKit Go.Maps
set_option linter.unusedVariables false

def inB (c : Nat) : Bool := decide ((97 ≤ c ∧ c ≤ 122) ∨ (48 ≤ c ∧ c ≤ 57) ∨ c = 46)
def nameB (l : List UInt8) : Bool := decide (1 ≤ l.length ∧ l.length ≤ 24) && l.all fun c => inB c.toNat

theorem own_setCell {w : World} {base e size n : Nat} {v : Value} {xs : List Value} (h : w.ownsRow base e size v n xs) {a : Addr} (ha : v.ownBlock ≠ some a.block) (u : Value) : (w.setCell a u).ownsRow base e size v n xs := by
  obtain ⟨hl, h1⟩ := h
  refine ⟨hl, ?_⟩
  rcases h1 with h1 | ⟨g, cap, cur, hv, hg, hh, r⟩
  · exact .inl h1
  · refine .inr ⟨g, cap, cur, hv, hg, ?_, r⟩
    subst hv
    rw [heap_setCell_other _ _ _ _ (fun e => ha (by rw [e]; rfl))]; exact hh
/-- No extents lie in the disk's own block. -/
theorem row_ne {w : World} {base n g c d : Nat} {xs : List Value} {cs : Array Value} (h : w.ownsRow base 49 385 (.slice (some ⟨g, 0, none⟩) n c) n xs) (hd : w.heap[d]? = some (.cells cs 43 (0, 0))) : g ≠ d := by
  rintro rfl
  rcases h.2 with ⟨h1, _⟩ | ⟨g', c', cur, hv, _, hh, _⟩
  · cases h1
  · cases hv
    rw [hd] at hh
    simp at hh
theorem map_ne {w : World} {k b n d : Nat} {D : DataW Unit} {cs : Array Value} {t : TypeId} {fr : Nat × Nat} (h : w.ownsMap Try.prog k hd b n D) (hd : w.heap[d]? = some (.cells cs t fr)) : b ≠ d := by
  rintro rfl
  obtain ⟨es, clock, hb, _⟩ := h
  rw [hd] at hb
  simp at hb
/-- A cell of the disk's own block is written: what is free (1), the fuse (2). -/
theorem DiskOf.fused {w : World} {d N : Nat} {F : Nat → Prop} {M : List UInt8 → List Ext} {free fuse : Int} (h : DiskOf w d F N M free fuse) (f' : Int) : DiskOf (w.setCell ⟨d, 2, none⟩ (.int .i64 f')) d F N M free f' := by
  obtain ⟨bm, D, G, C, h1, h2, h3, h4, h5, h6, h7⟩ := h
  refine ⟨bm, D, G, C, ?_, h2, h3, h4.setCell (map_ne h4 h1) _, h5, fun s hs => ?_, h7⟩
  · rw [setCell_eq_setRow _ _ _ _ _ _ _ h1]; exact setRow_heap _ _ _ _ _ _ h1
  · obtain ⟨a1, a2, a3⟩ := h6 s hs
    exact ⟨a1, own_setCell (a := ⟨d, 2, none⟩) a2 (fun e => row_ne a2 h1 (Option.some.inj e)) _, a3⟩
theorem DiskOf.freed {w : World} {d N : Nat} {F : Nat → Prop} {M : List UInt8 → List Ext} {free fuse : Int} (h : DiskOf w d F N M free fuse) (f' : Int) : DiskOf (w.setCell ⟨d, 1, none⟩ (.int .i64 f')) d F N M f' fuse := by
  obtain ⟨bm, D, G, C, h1, h2, h3, h4, h5, h6, h7⟩ := h
  refine ⟨bm, D, G, C, ?_, h2, h3, h4.setCell (map_ne h4 h1) _, h5, fun s hs => ?_, h7⟩
  · rw [setCell_eq_setRow _ _ _ _ _ _ _ h1]; exact setRow_heap _ _ _ _ _ _ h1
  · obtain ⟨a1, a2, a3⟩ := h6 s hs
    exact ⟨a1, own_setCell (a := ⟨d, 1, none⟩) a2 (fun e => row_ne a2 h1 (Option.some.inj e)) _, a3⟩
theorem DiskOf.base {w : World} {d N : Nat} {F : Nat → Prop} {M : List UInt8 → List Ext} {free fuse : Int} (h : DiskOf w d F N M free fuse) : F d := by
  obtain ⟨bm, D, G, C, h1, h2, _⟩ := h
  exact h2.1

/-- A change is taken off the fuse. -/
def burnt (fuse : Int) : Int := if fuse = -1 then -1 else fuse - 1

set_option maxHeartbeats 1000000 in
theorem burn_yes (w : World) (d : Nat) (F : Nat → Prop) (N : Nat) (M : List UInt8 → List Ext) (free fuse : Int) (h : DiskOf w d F N M free fuse) (h0 : fuse ≠ 0) (hf : -1 ≤ fuse) (hf2 : fuse ≤ 9223372036854775807) :
    Calls Try.prog 41 #[.pointer (some ⟨d, 0, none⟩)] w fun e w' => e = .returned (.bool true) ∧ DiskOf w' d F N M free (burnt fuse) ∧ Gr F F w w' := by
  have hB := h.base
  have h' := h.fused (fuse - 1)
  have h'' := h
  obtain ⟨bm, D, G, C, h1, _⟩ := h
  have c2 : w.cell? ⟨d, 2, none⟩ = some (.int .i64 fuse) := by rw [cell_of_row _ _ _ _ _ _ h1]; rfl
  have f2 := frozen_of_row _ _ 2 _ _ h1
  clear h1
  have e0 : (fuse == 0) = false := beq_eq_false_iff_ne.2 h0
  by_cases hm : fuse = -1
  · subst hm
    go_enter Try.func41, Try.ntmps41
    go_wp2
    go_ret
    exact ⟨rfl, h'', Gr.refl _ _⟩
  · have e1 : (fuse != -1) = true := bne_iff_ne.2 hm
    have hw : IntKind.i64.wrap (fuse - 1) = fuse - 1 := by rw [IntKind.wrap_i64]; omega
    have e2 : burnt fuse = fuse - 1 := by unfold burnt; rw [if_neg hm]
    have HE : Hid (burnt fuse = fuse - 1) := e2
    clear e2
    go_enter Try.func41, Try.ntmps41
    go_wp2
    go_ret
    rw [HE.out]
    exact ⟨rfl, h', Gr.of ((Keeps.refl _ _).setCell hB _)⟩

theorem diskOf_made (w : World) (r : Int) :
    DiskOf ((w.alloc (.map #[] 0)).alloc (.cells #[.map (some w.heap.size), .int .i64 r, .int .i64 (-1)] 43)) (w.heap.size + 1) (fun k => w.heap.size ≤ k ∧ k < w.heap.size + 2) 0 (fun _ => []) r (-1) := by
  refine ⟨w.heap.size, .map [], fun _ => 0, fun _ => 0, ?_, ⟨⟨by omega, by omega⟩, Nat.lt_succ_self _⟩, ⟨⟨Nat.le_refl _, by omega⟩, fun s h => absurd rfl h⟩, (World.ownsMap_made w _ _ _).alloc _, fun _ _ => rfl, fun s h => absurd rfl h, fun s s' h => absurd rfl h⟩
  rw [show w.heap.size + 1 = (w.alloc (.map #[] 0)).heap.size from by simp]
  exact heap_alloc_new _ _
set_option maxHeartbeats 1000000 in
theorem new_any (w : World) (r : Nat) (h : r ≤ 100000) :
    Calls Try.prog 9 #[.int .i64 r] w fun e w' => e = .returned (.tuple #[.pointer (some ⟨w.heap.size + 1, 0, none⟩), .int .i64 0]) ∧ DiskOf w' (w.heap.size + 1) (fun k => w.heap.size ≤ k ∧ k < w.heap.size + 2) 0 (fun _ => []) r (-1) ∧ Below w.heap.size w w' ∧ w'.heap.size = w.heap.size + 2 := by
  have hmm := @run_makeMap Try.prog
  have h1 : ¬ ((r : Int) < 0) := by omega
  have h2 : ¬ ((100000 : Int) < r) := by omega
  go_enter Try.func9, Try.ntmps9
  go_wp2
  go_ret2
  exact ⟨rfl, diskOf_made w r, ((Below.refl _ _).alloc (Nat.le_refl _) _).alloc (by simp) _, by simp⟩

set_option maxHeartbeats 1000000 in
theorem canName_loop (w : World) (s : ByteArray) (h1 : ((s.size : Int) == 0) = false) (h2 : ¬ (24 : Int) < s.size) (h3 : s.size ≤ 24) (r : Bool) (HR : Hid (r = s.data.toList.all fun c => inB c.toNat)) :
    Calls Try.prog 40 #[.string s] w fun e w' => e = .returned (.bool r) ∧ w' = w := by
  go_enter Try.func40, Try.ntmps40
  go_wp2
  go_loop [14] (fun iv => ∃ k : Nat, k ≤ s.size ∧ iv = .int .i64 k ∧ ((s.data.toList.take k).all fun c => inB c.toNat) = true) (fun iv => s.size - (intOf iv).toNat)
  case atStart => exact ⟨0, Nat.zero_le _, rfl, rfl⟩
  case round =>
    obtain ⟨k, hk, rfl, hall⟩ := hrel
    by_cases hlt : k < s.size
    · have hlt' : (k : Int) < (s.size : Int) := by omega
      have hstep : ((s.data.toList.take (k + 1)).all fun c => inB c.toNat) = inB s[k].toNat := by
        have hl : k < s.data.toList.length := hlt
        rw [List.take_succ_eq_append_getElem hl, List.all_append, hall, Bool.true_and]
        simp
        rfl
      have hfull : inB s[k].toNat = false → (s.data.toList.all fun c => inB c.toNat) = false := by
        intro hf
        rw [← hstep] at hf
        rw [Bool.eq_false_iff] at hf ⊢
        intro ha
        exact hf (List.all_eq_true.2 fun c hc => List.all_eq_true.1 ha c (List.mem_of_mem_take hc))
      have hc := s[k].toNat_lt
      have HS : Hid (_ = _) := hstep
      have HF : Hid (_ → _) := hfull
      clear hstep hfull
      go_wp2_with fail
      refine (canIn_any _ s[k].toNat hc).mono ?_
      rintro e w2 ⟨rfl, rfl⟩
      cases hb : decide ((97 ≤ s[k].toNat ∧ s[k].toNat ≤ 122) ∨ (48 ≤ s[k].toNat ∧ s[k].toNat ≤ 57) ∨ s[k].toNat = 46) with
      | true =>
        have HB : Hid (inB s[k].toNat = true) := hb
        clear hb
        go_wp2
        go_round
        case rel => exact ⟨k + 1, by omega, by go_num, by rw [HS.out]; exact HB.out⟩
        case measure => simp [intOf]; omega
      | false =>
        have HB : Hid (inB s[k].toNat = false) := hb
        clear hb
        go_wp2
        go_ret
        have e : r = false := HR.out.trans (HF.out HB.out)
        subst e
        exact ⟨rfl, rfl⟩
    · obtain rfl : k = s.size := by omega
      have ht : s.data.toList.take s.size = s.data.toList := List.take_of_length_le (Nat.le_of_eq rfl)
      have ha : (s.data.toList.all fun c => inB c.toNat) = true := by
        rw [ht] at hall
        exact hall
      clear ht
      have HA : Hid (_ = _) := ha
      clear ha hall
      go_wp2
      go_ret
      have e : r = true := HR.out.trans HA.out
      subst e
      exact ⟨rfl, rfl⟩
set_option maxHeartbeats 1000000 in
theorem canName_any (w : World) (s : ByteArray) (hm : s.size ≤ maxLen) :
    Calls Try.prog 40 #[.string s] w fun e w' => e = .returned (.bool (nameB s.data.toList)) ∧ w' = w := by
  unfold maxLen at hm
  have hl : s.data.toList.length = s.size := rfl
  by_cases h0 : s.size = 0
  · have e : nameB s.data.toList = false := by unfold nameB; rw [hl, decide_eq_false (by omega)]; rfl
    have h0' : ((s.size : Int) == 0) = true := by rw [beq_iff_eq]; omega
    rw [e]
    clear e
    go_enter Try.func40, Try.ntmps40
    go_wp2
    go_ret
    exact ⟨rfl, rfl⟩
  · have h0' : ((s.size : Int) == 0) = false := beq_eq_false_iff_ne.2 (by omega)
    by_cases h24 : 24 < s.size
    · have e : nameB s.data.toList = false := by unfold nameB; rw [hl, decide_eq_false (by omega)]; rfl
      have h24' : (24 : Int) < s.size := by omega
      rw [e]
      clear e
      go_enter Try.func40, Try.ntmps40
      go_wp2
      go_ret
      exact ⟨rfl, rfl⟩
    · have e : nameB s.data.toList = s.data.toList.all fun c => inB c.toNat := by unfold nameB; rw [hl, decide_eq_true (by omega), Bool.true_and]
      rw [e]
      exact canName_loop w s h0' (by omega) (by omega) _ rfl
end Go.Proofs.Ytocfbokgbpaneaa

namespace Go.Proofs.Ytocfbokgbpaneaa
open Go.RowKit Go.Maps
set_option linter.unusedVariables false

/-- The disk, all that it leans on named: the map's block and what it reads as, each file's block and room. -/
def DiskIs (w : World) (d : Nat) (F : Nat → Prop) (N : Nat) (M : List UInt8 → List Ext) (free fuse : Int) (bm : Nat) (D : DataW Unit) (G C : List UInt8 → Nat) : Prop :=
    w.heap[d]? = some (.cells #[.map (some bm), .int .i64 free, .int .i64 fuse] 43 (0, 0)) ∧ (F d ∧ bm < d) ∧ (F bm ∧ ∀ s, M s ≠ [] → F (G s)) ∧
    w.ownsMap Try.prog 9 hd bm N D ∧
    (∀ s, M s = [] → Maps.has D (.string s) = false) ∧
    (∀ s, M s ≠ [] → (∀ z, D.atKey (.string s) z = encS (G s) (M s).length (C s)) ∧
      w.ownsRow 0 49 385 (.slice (some ⟨G s, 0, none⟩) (M s).length (C s)) (M s).length (cellsE (M s)) ∧ ∀ x ∈ M s, x.ok) ∧
    (∀ s s', M s ≠ [] → M s' ≠ [] → s ≠ s' → G s ≠ G s')
theorem DiskOf.is {w : World} {d N : Nat} {F : Nat → Prop} {M : List UInt8 → List Ext} {free fuse : Int} (h : DiskOf w d F N M free fuse) : ∃ bm D G C, DiskIs w d F N M free fuse bm D G C := h
theorem DiskIs.of {w : World} {d N : Nat} {F : Nat → Prop} {M : List UInt8 → List Ext} {free fuse : Int} {bm : Nat} {D : DataW Unit} {G C : List UInt8 → Nat} (h : DiskIs w d F N M free fuse bm D G C) : DiskOf w d F N M free fuse := ⟨bm, D, G, C, h⟩
/-- A file's extents are others now. -/
def upd (M : List UInt8 → List Ext) (s : List UInt8) (l : List Ext) : List UInt8 → List Ext := fun t => if t = s then l else M t
theorem upd_same (M : List UInt8 → List Ext) (s : List UInt8) (l : List Ext) : upd M s l s = l := by simp [upd]
theorem upd_other (M : List UInt8 → List Ext) (s t : List UInt8) (l : List Ext) (h : t ≠ s) : upd M s l t = M t := by simp [upd, h]

theorem splice_mid {α : Type} (A X Z c : List α) (o : Nat) (h : o + c.length ≤ X.length) : splice (A ++ (X ++ Z)) (A.length + o) c = A ++ (splice X o c ++ Z) := by
  unfold splice
  rw [List.take_append, List.take_of_length_le (by omega), show A.length + o - A.length = o by omega, List.take_append_of_le_length (by omega)]
  rw [List.drop_append, List.drop_of_length_le (by omega), List.nil_append, show A.length + o + c.length - A.length = o + c.length by omega, List.drop_append_of_le_length (by omega)]
  simp
theorem splice_head {α : Type} (X Z c : List α) (h : c.length = X.length) : splice (X ++ Z) 0 c = c ++ Z := by
  unfold splice
  rw [List.take_zero, List.nil_append, Nat.zero_add, h, List.drop_append_of_le_length (Nat.le_refl _), List.drop_of_length_le (Nat.le_refl _), List.nil_append]
theorem splice_next {α : Type} (A X Z c : List α) (o : Nat) (ho : A.length = o) (h : c.length = X.length) : splice (A ++ (X ++ Z)) o c = A ++ (c ++ Z) := by
  have := splice_mid A X Z c 0 (by omega)
  rw [Nat.add_zero, ho] at this
  rw [this]
  congr 1
  have e := splice_head X [] c h
  rw [List.append_nil, List.append_nil] at e
  rw [e]

theorem cellsE_set (l : List Ext) (i : Nat) (hi : i < l.length) (y : Ext) : cellsE (l.set i y) = cellsE (l.take i) ++ (y.cells ++ cellsE (l.drop (i + 1))) := by
  rw [List.set_eq_take_append_cons_drop, if_pos hi]
  simp [cellsE]
theorem cellsE_split (l : List Ext) (i : Nat) (hi : i < l.length) : cellsE l = cellsE (l.take i) ++ (l[i].cells ++ cellsE (l.drop (i + 1))) := by
  have := cellsE_set l i hi l[i]
  rwa [List.set_getElem_self] at this
theorem cellsE_splice (l : List Ext) (hok : ∀ x ∈ l, x.ok) (i : Nat) (hi : i < l.length) (o : Nat) (c : List Value) (y : Ext) (ho : o + c.length ≤ 385) (hy : splice l[i].cells o c = y.cells) :
    splice (cellsE l) (i * 385 + o) c = cellsE (l.set i y) := by
  have hl : (cellsE (l.take i)).length = i * 385 := by
    rw [cellsE_length (fun x hx => hok x (List.mem_of_mem_take hx)), List.length_take, Nat.min_eq_left (by omega)]
  rw [cellsE_split l i hi, cellsE_set l i hi y, ← hl, splice_mid _ _ _ _ _ (by rw [Ext.cells_length (hok _ (List.getElem_mem hi))]; exact ho), hy]
theorem cells_dur {x : Ext} (h : x.ok) (c : List Nat) (hc : c.length = 128) : splice x.cells 0 (vb c) = ({ x with dur := c } : Ext).cells :=
  splice_head _ _ _ (by rw [length_vb, length_vb, hc, h.1.1])
theorem cells_syn {x : Ext} (h : x.ok) (c : List Nat) (hc : c.length = 128) : splice x.cells 128 (vb c) = ({ x with syn := c } : Ext).cells :=
  splice_next _ _ _ _ _ (by rw [length_vb, h.1.1]) (by rw [length_vb, length_vb, hc, h.2.1.1])
theorem cells_wri {x : Ext} (h : x.ok) (c : List Nat) (hc : c.length = 128) : splice x.cells 256 (vb c) = ({ x with wri := c } : Ext).cells := by
  have := splice_next (vb x.dur ++ vb x.syn) (vb x.wri) [.bool x.waits] (vb c) 256 (by rw [List.length_append, length_vb, length_vb, h.1.1, h.2.1.1]) (by rw [length_vb, length_vb, hc, h.2.2.1])
  simpa [Ext.cells] using this
theorem cells_waits {x : Ext} (h : x.ok) (b : Bool) : splice x.cells 384 [.bool b] = ({ x with waits := b } : Ext).cells := by
  have := splice_next (vb x.dur ++ (vb x.syn ++ vb x.wri)) [.bool x.waits] [] [.bool b] 384 (by rw [List.length_append, List.length_append, length_vb, length_vb, length_vb, h.1.1, h.2.1.1, h.2.2.1]) rfl
  simpa [Ext.cells] using this

/-- Cells laid over a row of one's own. -/
theorem own_storedAll {w : World} {base e size n g cap : Nat} : ∀ (vs : List Value) (o : Nat) (xs : List Value) (w : World), w.ownsRow base e size (.slice (some ⟨g, 0, none⟩) n cap) n xs → o + vs.length ≤ xs.length →
    (w.setCells g o vs).ownsRow base e size (.slice (some ⟨g, 0, none⟩) n cap) n (splice xs o vs) ∧ w.grownBy (w.setCells g o vs) (some g)
  | [], o, xs, w, h, hl => by
    refine ⟨?_, ⟨rfl, rfl, rfl, Nat.le_refl _, fun _ _ _ => rfl⟩⟩
    simpa [World.setCells, splice] using h
  | v :: r, o, xs, w, h, hl => by
    obtain ⟨h1, hg1⟩ := h.stored o v
    obtain ⟨h2, hg2⟩ := own_storedAll (w := w) r (o + 1) (xs.set o v) _ h1 (by simp at hl ⊢; omega)
    have e : splice (xs.set o v) (o + 1) r = splice xs o (v :: r) := by
      have := list_seg_step xs o v r (by simpa using hl)
      simp only [splice, List.length_cons]
      rw [← List.append_assoc, ← List.append_assoc, show o + 1 + r.length = o + 1 + r.length from rfl]
      rw [this]
    rw [e] at h2
    exact ⟨h2, hg1.trans hg2⟩
theorem own_range {w : World} {base g n c : Nat} {l : List Ext} (h : w.ownsRow base 49 385 (.slice (some ⟨g, 0, none⟩) n c) n (cellsE l)) (hok : ∀ x ∈ l, x.ok) (i : Nat) (hi : i < l.length) (o : Nat) (cs : List Value) (ho : o + cs.length ≤ 385)
    (hc : ∀ j v, cs[j]? = some v → l[i].cells[o + j]? = some v) : w.rangeAt g (i * 385 + o) cs := by
  have hn : n = l.length := by have := h.1; rw [cellsE_length hok] at this; omega
  intro j v hj
  have hlt := (List.getElem?_eq_some_iff.1 hj).1
  have hl : (cellsE (l.take i)).length = i * 385 := by
    rw [cellsE_length (fun x hx => hok x (List.mem_of_mem_take hx)), List.length_take, Nat.min_eq_left (by omega)]
  rw [h.cellAt (i * 385 + o + j) (by have : (i + 1) * 385 ≤ n * 385 := Nat.mul_le_mul_right _ (by omega); omega), cellsE_split l i hi, List.getElem?_append_right (by omega), hl, show i * 385 + o + j - i * 385 = o + j by omega, List.getElem?_append_left (by rw [Ext.cells_length (hok _ (List.getElem_mem hi))]; omega)]
  exact hc j v hj
theorem own_there {w : World} {base g n c : Nat} {l : List Ext} (h : w.ownsRow base 49 385 (.slice (some ⟨g, 0, none⟩) n c) n (cellsE l)) (hok : ∀ x ∈ l, x.ok) (i : Nat) (hi : i < l.length) (o m : Nat) (ho : o + m ≤ 385) : w.there g (i * 385 + o) m := by
  have hn : n = l.length := by have := h.1; rw [cellsE_length hok] at this; omega
  intro j hj
  refine ⟨?_, by rw [Nat.add_assoc]; exact h.frozenAt _⟩
  have hlt : i * 385 + o + j < n * 385 := by have : (i + 1) * 385 ≤ n * 385 := Nat.mul_le_mul_right _ (by omega); omega
  rw [h.cellAt _ hlt, List.getElem?_eq_getElem (by rw [h.1]; exact hlt)]
  rfl

/-- One file's row is turned, all else stays: the disk with that file's extents so. -/
theorem DiskIs.turned {w w' : World} {d N : Nat} {F : Nat → Prop} {M : List UInt8 → List Ext} {free fuse : Int} {bm : Nat} {D : DataW Unit} {G C : List UInt8 → Nat} (h : DiskIs w d F N M free fuse bm D G C) (s : List UInt8) (hs : M s ≠ []) (l : List Ext) (hl : l.length = (M s).length) (hok : ∀ x ∈ l, x.ok)
    (hg : w.grownBy w' (some (G s))) (hrow : w'.ownsRow 0 49 385 (.slice (some ⟨G s, 0, none⟩) (M s).length (C s)) (M s).length (cellsE l)) : DiskIs w' d F N (upd M s l) free fuse bm D G C := by
  obtain ⟨h1, h2, h3, h4, h5, h6, h7⟩ := h
  have hne : ∀ t, upd M s l t ≠ [] → M t ≠ [] := by
    intro t ht
    by_cases e : t = s
    · subst e; exact hs
    · rwa [upd_other _ _ _ _ e] at ht
  obtain ⟨a1, a2, a3⟩ := h6 s hs
  refine ⟨(hg.block d (Array.getElem?_eq_some_iff.1 h1).1 (fun e => row_ne a2 h1 (Option.some.inj e).symm)).trans h1, h2, ⟨h3.1, fun t ht => h3.2 t (hne t ht)⟩, h4.kept hg (fun e => ?_), fun t ht => ?_, fun t ht => ?_, fun t t' ht ht' => h7 t t' (hne t ht) (hne t' ht')⟩
  · have e' := Option.some.inj e
    obtain ⟨es, clock, hb, _⟩ := h4
    rcases a2.2 with ⟨hv, _⟩ | ⟨g', c', cur, hv, _, hh, _⟩
    · cases hv
    · cases hv
      rw [← e', hb] at hh
      cases hh
  · by_cases e : t = s
    · subst e
      rw [upd_same] at ht
      subst ht
      exact absurd (List.length_eq_zero_iff.1 (by rw [← hl]; rfl)) hs
    · rw [upd_other _ _ _ _ e] at ht
      exact h5 t ht
  · by_cases e : t = s
    · subst e
      rw [upd_same, hl]
      exact ⟨a1, hrow, hok⟩
    · rw [upd_other _ _ _ _ e] at ht ⊢
      obtain ⟨b1, b2, b3⟩ := h6 t ht
      exact ⟨b1, b2.kept hg (.inr (fun h => h7 t s ht hs e (Option.some.inj h))), b3⟩
end Go.Proofs.Ytocfbokgbpaneaa
