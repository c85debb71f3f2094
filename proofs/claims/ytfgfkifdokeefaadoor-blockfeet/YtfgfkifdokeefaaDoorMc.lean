/- Slices of labels in memory: what they hold. -/
import Derived.Test.YtfgfkifdokeefaaDoorChecked
import Derived.WalkKit
import Derived.WalkLawsBesides
import Derived.KernelRfl
import Derived.Test.YtfgfkifdokeefaaDoorLabMath
import Derived.BigCall
import Derived.Lib.OthersKept
import Derived.BigQuiet
import Derived.Deep.QuietTactic
namespace Go.Proofs.YtfgfkifdokeefaaDoor
open Go.RowKit
set_option linter.unusedVariables false

/-- A slice's value (its address and length) holds the labels ls. -/
def Ls (w : World) (a : Option Addr) (len : Nat) (ls : List Lab) : Prop :=
  ls.length = len ∧ len ≤ maxLen ∧ (∀ i, (labD ls i).1.size ≤ maxLen ∧ (labD ls i).2.size ≤ maxLen) ∧ (a = none → len = 0) ∧
    ∀ x, a = some x → ∀ j, j < len → w.cell? (x.add (j * 2)) = some (.string (labD ls j).1) ∧ w.cell? (x.add (j * 2 + 1)) = some (.string (labD ls j).2)

theorem ladd_none (b off j : Nat) : (⟨b, off, none⟩ : Addr).add j = ⟨b, off + j, none⟩ := by
  unfold Addr.add
  by_cases h : j = 0 <;> simp [h]
theorem Ls.nil (w : World) : Ls w none 0 [] := ⟨rfl, Nat.zero_le _, by intro i; simp [labD, maxLen], fun _ => rfl, by simp⟩
theorem Ls.pos {w : World} {a : Option Addr} {len : Nat} {ls : List Lab} (h : Ls w a len ls) (h0 : 0 < len) :
    ∃ b off, a = some ⟨b, off, none⟩ ∧ b < w.heap.size ∧ ∀ j, j < len → w.cell? ⟨b, off + j * 2, none⟩ = some (.string (labD ls j).1) ∧ w.cell? ⟨b, off + j * 2 + 1, none⟩ = some (.string (labD ls j).2) := by
  obtain ⟨hl, hm, hz, hn, hc⟩ := h
  cases a with
  | none => have := hn rfl; omega
  | some x =>
    obtain ⟨b, off, spot⟩ := x
    have hc0 := (hc _ rfl 0 h0).1
    have hspot : spot = none := by simpa [Addr.add] using World.cell?_spot hc0
    subst hspot
    have hb := block_lt_of_cell hc0
    refine ⟨b, off, rfl, by simpa [Addr.add] using hb, fun j hj => ?_⟩
    have := hc _ rfl j hj
    rw [ladd_none, ladd_none] at this
    exact this
theorem Ls.below {w w' : World} {a : Option Addr} {len : Nat} {ls : List Lab} (h : Ls w a len ls) (hb : Below w.heap.size w w') : Ls w' a len ls := by
  obtain ⟨hl, hm, hz, hn, hc⟩ := h
  refine ⟨hl, hm, hz, hn, fun x hx j hj => ?_⟩
  have h1 := (hc x hx j hj).1
  have h2 := (hc x hx j hj).2
  rw [hb.cell (block_lt_of_cell h1), hb.cell (block_lt_of_cell h2)]; exact ⟨h1, h2⟩

theorem bInfo : (Tryd.prog.info? 5).map (fun i => (i.zero, i.size, i.bytes)) = some (some (.int .u8 0), 1, 1) := by kernel_rfl

theorem alloc_at (w : World) (o : Obj) : (w.alloc o).heap[w.heap.size]? = some o := by
  show (w.heap.push o)[w.heap.size]? = _
  simp
theorem alloc_size (w : World) (o : Obj) : (w.alloc o).heap.size = w.heap.size + 1 := by simp
theorem cell_at {w : World} {k o : Nat} {t : TypeId} {cs : Array Value} {fz : Nat × Nat} (h : w.heap[k]? = some (.cells cs t fz)) : w.cell? ⟨k, o, none⟩ = cs[o]? := cell_of_row _ _ _ _ _ _ h
end Go.Proofs.YtfgfkifdokeefaaDoor

namespace Go.Proofs.YtfgfkifdokeefaaDoor
open Go.RowKit
set_option linter.unusedVariables false

set_option maxHeartbeats 1000000 in
theorem isLetter_any (r : Int) (w : World) :
    Calls Tryd.prog 47 #[.int .i32 r] w fun e w' => e = .returned (.bool (letZ r)) ∧ w' = w := by
  have e : ∀ b, letZ r = b → (Ending.returned (.bool b) = Ending.returned (.bool (letZ r))) := fun b h => by rw [h]
  by_cases h1 : 97 ≤ r <;> by_cases h2 : r ≤ 122 <;> by_cases h3 : 65 ≤ r <;> by_cases h4 : r ≤ 90 <;> by_cases h5 : r = 95
  all_goals first
    | (exfalso; omega)
    | (go_enter Tryd.func47, Tryd.ntmps47
       go_wp2
       go_ret
       exact ⟨e _ (by unfold letZ; rw [Bool.eq_iff_iff]; simp <;> omega), rfl⟩)

set_option maxHeartbeats 1000000 in
theorem isDigit_any (r : Int) (w : World) :
    Calls Tryd.prog 48 #[.int .i32 r] w fun e w' => e = .returned (.bool (digZ r)) ∧ w' = w := by
  have e : ∀ b, digZ r = b → (Ending.returned (.bool b) = Ending.returned (.bool (digZ r))) := fun b h => by rw [h]
  by_cases h1 : 48 ≤ r <;> by_cases h2 : r ≤ 57
  all_goals first
    | (exfalso; omega)
    | (go_enter Tryd.func48, Tryd.ntmps48
       go_wp2
       go_ret
       exact ⟨e _ (by unfold digZ; rw [Bool.eq_iff_iff]; simp <;> omega), rfl⟩)

/-- The rune at a place, as the contracts of Name want it. -/
theorem name_rune (s : ByteArray) (pos : Nat) (h : pos < s.size) :
    (nameAt pos (byteAt s pos) = (letZ ((Utf8.decode s pos).1 : Int) || (decide (pos ≠ 0) && digZ ((Utf8.decode s pos).1 : Int)))) ∧ (nameAt pos (byteAt s pos) = true → (Utf8.decode s pos).2 = 1) := by
  rcases rune_low s pos h with ⟨h1, h2, h3⟩ | ⟨h1, h2, h3⟩
  · rw [h1]; exact ⟨rfl, fun _ => h2⟩
  · rw [nameAt_high _ _ h3, letZ_high _ (by omega), digZ_high _ (by omega)]; simp

set_option maxHeartbeats 2000000 in
set_option maxRecDepth 100000 in
theorem name_any (s : ByteArray) (w : World) (hs : s.size ≤ maxLen) :
    Calls Tryd.prog 38 #[.string s] w fun e w' => e = .returned (.bool (nameOK s)) ∧ Below w.heap.size w w' := by
  unfold maxLen at hs
  have e : ∀ b, nameOK s = b → (Ending.returned (.bool b) = Ending.returned (.bool (nameOK s))) := fun b h => by rw [h]
  by_cases h0 : s.size = 0
  · go_enter Tryd.func38, Tryd.ntmps38
    go_wp2
    go_ret
    exact ⟨e _ (nameOK_size s (.inl h0)), Below.refl _ _⟩
  by_cases h24 : 24 < s.size
  · go_enter Tryd.func38, Tryd.ntmps38
    go_wp2
    go_ret
    exact ⟨e _ (nameOK_size s (.inr h24)), Below.refl _ _⟩
  have g0 : ((s.size : Int) == 0) = false := beq_eq_false_iff_ne.2 (by omega)
  have g24 : decide (24 < (s.size : Int)) = false := by simp; omega
  go_enter Tryd.func38, Tryd.ntmps38
  go_wp2
  go_loopw [] (fun wr => ∃ pos : Nat, pos ≤ s.size ∧ wr.heap[w.heap.size]? = some (.stringIter s pos) ∧ Below w.heap.size w wr ∧ Hid (nameTo s pos = true)) (fun wr => s.size - wr.iterPos w.heap.size)
  case atStart =>
    refine ⟨0, Nat.zero_le _, ?_, (Below.refl _ w).alloc (Nat.le_refl _) _, rfl⟩
    have := World.iter_heap w s 0
    simpa using this
  case round =>
    obtain ⟨pos, hp0, hit, hbw, hn⟩ := hrel
    have hsz : w.heap.size < wr.heap.size := (Array.getElem?_eq_some_iff.1 hit).1
    by_cases hp : pos < s.size
    · have hnx : ∀ ty, (Instr.next (.pointer (some ⟨w.heap.size, 0, none⟩)) true ty).run Tryd.prog wr = _ := fun ty => Lib.run_next_any_at wr w.heap.size s pos ty hit hp
      have hwd := width_pos s pos hp
      have hd1 := decode_le s pos
      obtain ⟨hr1, hr2⟩ := name_rune s pos hp
      have hit2 := Lib.iterAt_heap wr w.heap.size s pos (pos + (Utf8.decode s pos).2) hit
      have hbw2 := Lib.below_iterAt hbw (k := w.heap.size) (by omega) s (pos + (Utf8.decode s pos).2)
      have hr : Hid (nameAt pos (byteAt s pos) = (letZ ((Utf8.decode s pos).1 : Int) || (decide (pos ≠ 0) && digZ ((Utf8.decode s pos).1 : Int)))) := hr1
      clear hr1
      generalize hW : wr.iterAt w.heap.size s (pos + (Utf8.decode s pos).2) = wi at *
      have HW : Hid (_ = wi) := hW
      clear hW
      generalize hR : ((Utf8.decode s pos).1 : Int) = r at *
      have HR : Hid (_ = r) := hR
      clear hR
      have hgo : ∀ W : World, W.heap[w.heap.size]? = some (.stringIter s (pos + (Utf8.decode s pos).2)) → Below w.heap.size w W → nameAt pos (byteAt s pos) = true → (∃ pos : Nat, pos ≤ s.size ∧ W.heap[w.heap.size]? = some (.stringIter s pos) ∧ Below w.heap.size w W ∧ Hid (nameTo s pos = true)) ∧ s.size - W.iterPos w.heap.size < s.size - wr.iterPos w.heap.size := by
        intro W h1 h2 h3
        rw [hr2 h3] at h1
        refine ⟨⟨pos + 1, by omega, h1, h2, ?_⟩, ?_⟩
        · show nameTo s (pos + 1) = true
          rw [nameTo_succ, hn, h3]; rfl
        · simp only [World.iterPos, h1, hit]; omega
      have hstop : nameAt pos (byteAt s pos) = false → nameOK s = false := nameOK_false s pos hp
      clear hr2 hn
      by_cases hl : letZ r = true
      · go_wp2_with (go_at_call 47; refine (isLetter_any r _).mono ?_; rintro e w' ⟨rfl, rfl⟩)
        exact hgo _ hit2 hbw2 (by rw [hr, hl]; rfl)
      · have hl' : letZ r = false := by simpa using hl
        by_cases hz : pos = 0
        · subst hz
          go_wp2_with (go_at_call 47; refine (isLetter_any r _).mono ?_; rintro e w' ⟨rfl, rfl⟩)
          go_ret
          exact ⟨e _ (hstop (by rw [hr, hl']; rfl)), hbw2⟩
        · have hz' : ((pos : Int) == 0) = false := beq_eq_false_iff_ne.2 (by omega)
          by_cases hd : digZ r = true
          · go_wp2_with (first | (go_at_call 47; refine (isLetter_any r _).mono ?_; rintro e w' ⟨rfl, rfl⟩) | (go_at_call 48; refine (isDigit_any r _).mono ?_; rintro e w' ⟨rfl, rfl⟩))
            exact hgo _ hit2 hbw2 (by rw [hr, hl', hd]; simp [hz])
          · have hd' : digZ r = false := by simpa using hd
            go_wp2_with (first | (go_at_call 47; refine (isLetter_any r _).mono ?_; rintro e w' ⟨rfl, rfl⟩) | (go_at_call 48; refine (isDigit_any r _).mono ?_; rintro e w' ⟨rfl, rfl⟩))
            go_ret
            exact ⟨e _ (hstop (by rw [hr, hl', hd']; simp)), hbw2⟩
    · have hnx : ∀ ty, (Instr.next (.pointer (some ⟨w.heap.size, 0, none⟩)) true ty).run Tryd.prog wr = _ := fun ty => Lib.run_next_end_at wr w.heap.size s pos ty hit hp
      go_wp2
      go_ret
      obtain rfl : pos = s.size := by omega
      exact ⟨e _ (nameOK_true s (by omega) (by omega) hn), hbw⟩

theorem plainZ_cases (r : Nat) : (plainZ r = true ∧ ¬ (r : Int) < 32 ∧ ((r : Int) == 127) = false ∧ ((r : Int) == 65533) = false) ∨ (plainZ r = false ∧ (r : Int) < 32) ∨ (plainZ r = false ∧ ¬ (r : Int) < 32 ∧ ((r : Int) == 127) = true) ∨ (plainZ r = false ∧ ¬ (r : Int) < 32 ∧ ((r : Int) == 127) = false ∧ ((r : Int) == 65533) = true) := by
  unfold plainZ
  simp only [decide_eq_true_eq, decide_eq_false_iff_not, beq_iff_eq, beq_eq_false_iff_ne, ne_eq]
  omega

set_option maxHeartbeats 2000000 in
set_option maxRecDepth 100000 in
theorem value_any (s : ByteArray) (w : World) (hs : s.size ≤ maxLen) :
    Calls Tryd.prog 39 #[.string s] w fun e w' => e = .returned (.bool (valueOK s)) ∧ Below w.heap.size w w' := by
  unfold maxLen at hs
  have e : ∀ b, valueOK s = b → (Ending.returned (.bool b) = Ending.returned (.bool (valueOK s))) := fun b h => by rw [h]
  by_cases h0 : s.size = 0
  · go_enter Tryd.func39, Tryd.ntmps39
    go_wp2
    go_ret
    exact ⟨e _ (valueOK_size s (.inl h0)), Below.refl _ _⟩
  by_cases h24 : 40 < s.size
  · go_enter Tryd.func39, Tryd.ntmps39
    go_wp2
    go_ret
    exact ⟨e _ (valueOK_size s (.inr h24)), Below.refl _ _⟩
  have g0 : ((s.size : Int) == 0) = false := beq_eq_false_iff_ne.2 (by omega)
  have g24 : decide (40 < (s.size : Int)) = false := by simp; omega
  have e2 := valueOK_plain s (by omega) (by omega)
  rw [e2] at e ⊢
  clear e2
  go_enter Tryd.func39, Tryd.ntmps39
  go_wp2
  go_loopw [] (fun wr => ∃ pos fuel : Nat, wr.heap[w.heap.size]? = some (.stringIter s pos) ∧ Below w.heap.size w wr ∧ s.size ≤ pos + fuel ∧ Hid (plainS s = plainFrom s fuel pos)) (fun wr => s.size - wr.iterPos w.heap.size)
  case atStart =>
    refine ⟨0, s.size, ?_, (Below.refl _ w).alloc (Nat.le_refl _) _, by omega, rfl⟩
    have := World.iter_heap w s 0
    simpa using this
  case round =>
    obtain ⟨pos, fuel, hit, hbw, hfu, hn⟩ := hrel
    have hsz : w.heap.size < wr.heap.size := (Array.getElem?_eq_some_iff.1 hit).1
    by_cases hp : pos < s.size
    · have hnx : ∀ ty, (Instr.next (.pointer (some ⟨w.heap.size, 0, none⟩)) true ty).run Tryd.prog wr = _ := fun ty => Lib.run_next_any_at wr w.heap.size s pos ty hit hp
      have hwd := width_pos s pos hp
      obtain ⟨f, rfl⟩ : ∃ f, fuel = f + 1 := ⟨fuel - 1, by omega⟩
      have hit2 := Lib.iterAt_heap wr w.heap.size s pos (pos + (Utf8.decode s pos).2) hit
      have hbw2 := Lib.below_iterAt hbw (k := w.heap.size) (by omega) s (pos + (Utf8.decode s pos).2)
      have hcs := plainZ_cases (Utf8.decode s pos).1
      have hr : Hid (plainS s = (plainZ (Utf8.decode s pos).1 && plainFrom s f (pos + (Utf8.decode s pos).2))) := hn.trans (plainFrom_step s f pos hp)
      have hme : s.size - (wr.iterAt w.heap.size s (pos + (Utf8.decode s pos).2)).iterPos w.heap.size < s.size - wr.iterPos w.heap.size := by
        simp only [World.iterPos, hit2, hit]; omega
      clear hn
      generalize hW : wr.iterAt w.heap.size s (pos + (Utf8.decode s pos).2) = wi at *
      have HW : Hid (_ = wi) := hW
      clear hW
      rcases hcs with ⟨c0, c1, c2, c3⟩ | ⟨c0, c1⟩ | ⟨c0, c1, c2⟩ | ⟨c0, c1, c2, c3⟩
      · go_wp2
        exact ⟨⟨_, f, hit2, hbw2, by omega, by show plainS s = _; rw [hr, c0]; rfl⟩, hme⟩
      all_goals
        go_wp2
        go_ret
        exact ⟨e _ (by rw [hr, c0]; rfl), hbw2⟩
    · have hnx : ∀ ty, (Instr.next (.pointer (some ⟨w.heap.size, 0, none⟩)) true ty).run Tryd.prog wr = _ := fun ty => Lib.run_next_end_at wr w.heap.size s pos ty hit hp
      go_wp2
      go_ret
      exact ⟨e _ (hn.trans (plainFrom_end s fuel pos hp)), hbw⟩

end Go.Proofs.YtfgfkifdokeefaaDoor

namespace Go.Proofs.YtfgfkifdokeefaaDoor
open Go.RowKit
set_option linter.unusedVariables false

set_option maxHeartbeats 2000000 in
set_option maxRecDepth 100000 in
theorem can_any (a : Option Addr) (len cap : Nat) (ls : List Lab) (w : World) (h : Ls w a len ls) (hr : len ≤ 140737488355328) :
    Calls Tryd.prog 32 #[.slice a len cap] w fun e w' => e = .returned (.bool (canOK ls)) ∧ Below w.heap.size w w' := by
  have e : ∀ b, canOK ls = b → (Ending.returned (.bool b) = Ending.returned (.bool (canOK ls))) := fun b h => by rw [h]
  have hl := h.1
  by_cases h0 : len = 0
  · subst h0
    go_enter Tryd.func32, Tryd.ntmps32
    go_wp2
    go_ret
    exact ⟨e _ (canOK_size ls (.inl hl)), Below.refl _ _⟩
  have g0 : ((len : Int) == 0) = false := beq_eq_false_iff_ne.2 (by omega)
  by_cases h8 : 8 < len
  · have g8 : decide (8 < (len : Int)) = true := by simp; omega
    have hlH := hidn hl
    clear hl
    go_enter Tryd.func32, Tryd.ntmps32
    go_wp2
    go_ret
    exact ⟨e _ (canOK_size ls (.inr (by rw [hlH]; exact h8))), Below.refl _ _⟩
  have g8 : decide (8 < (len : Int)) = false := by simp; omega
  obtain ⟨b, off, rfl, hbw, hc⟩ := h.pos (by omega)
  have hsz := h.2.2.1
  have hH := hidn h
  have hlH := hidn hl
  clear hl h
  go_enter Tryd.func32, Tryd.ntmps32
  go_wp2
  go_loopw [15] (fun i wr => ∃ k : Nat, k ≤ len ∧ i = .int .i64 k ∧ Below w.heap.size w wr ∧ Hid (canTo ls k = true)) (fun i wr => len - (intOf i).toNat)
  case atStart => exact ⟨0, Nat.zero_le _, rfl, Below.refl _ _, rfl⟩
  case round =>
    obtain ⟨k, hk, rfl, hbl, hn⟩ := hrel
    by_cases hlt : k < len
    · obtain ⟨c0, c1⟩ := hc k hlt
      have c0' : wr.cell? ⟨b, off + k * 2, none⟩ = some (.string (labD ls k).1) := (hbl.cell (p := ⟨b, off + k * 2, none⟩) hbw).trans c0
      have c1' : wr.cell? ⟨b, off + k * 2 + 1, none⟩ = some (.string (labD ls k).2) := (hbl.cell (p := ⟨b, off + k * 2 + 1, none⟩) hbw).trans c1
      clear c0 c1
      generalize hn0 : (labD ls k).1 = n0 at *
      generalize hv0 : (labD ls k).2 = v0 at *
      have hn0H := hidn hn0
      have hv0H := hidn hv0
      clear hn0 hv0
      have hszn : n0.size ≤ maxLen := by rw [← hn0H]; exact (hsz k).1
      have hszv : v0.size ≤ maxLen := by rw [← hv0H]; exact (hsz k).2
      have hstop : canAt ls k = false → canOK ls = false := canOK_false ls k (by rw [hlH]; exact hlt)
      have hgo : canAt ls k = true → canTo ls (k + 1) = true := fun h => by rw [canTo_succ, hn, h]; rfl
      have hat : canAt ls k = (nameOK n0 && valueOK v0 && (decide (k = 0) || lessS (labD ls (k - 1)).1 n0)) := by unfold canAt; rw [hn0H, hv0H]
      have HS := hidn hstop
      have HG := hidn hgo
      have HA := hidn hat
      clear hstop hgo hat
      go_wp2_with fail
      refine (name_any n0 _ hszn).mono ?_
      rintro e1 w1 ⟨rfl, hb1⟩
      have hq1 : w1.cell? ⟨wr.heap.size, 0, none⟩ = some (.string n0) := by
        rw [hb1.cell (p := ⟨wr.heap.size, 0, none⟩) (by simp)]; simp [World.cell?_alloc_mark]
      have hq2 : w1.cell? ⟨wr.heap.size, 1, none⟩ = some (.string v0) := by
        rw [hb1.cell (p := ⟨wr.heap.size, 1, none⟩) (by simp)]; simp [World.cell?_alloc_mark]
      have hbl1 : Below w.heap.size w w1 := (hbl.alloc hbl.size _).trans (hb1.mono (by simp; have := hbl.size; omega))
      by_cases hnok : nameOK n0 = true
      · go_wp2_with fail
        refine (value_any v0 _ hszv).mono ?_
        rintro e2 w2 ⟨rfl, hb2⟩
        have hsz1 : wr.heap.size < w1.heap.size := block_lt_of_cell hq1
        have hq3 : w2.cell? ⟨wr.heap.size, 0, none⟩ = some (.string n0) := (hb2.cell (p := ⟨wr.heap.size, 0, none⟩) hsz1).trans hq1
        have hbl2 : Below w.heap.size w w2 := hbl1.trans (hb2.mono hbl1.size)
        by_cases hvok : valueOK v0 = true
        · have HN : Hid (nameOK n0 = true) := hnok
          have HV : Hid (valueOK v0 = true) := hvok
          by_cases hk0 : k = 0
          · have d0 : decide (0 < (k : Int)) = false := by simp; omega
            have d1 : decide (0 < k) = false := by simp; omega
            have d2 : ¬ 0 < k := by omega
            have HK0 := hidn hk0
            clear hk0
            go_wp2
            go_quiet (fail)
            go_wp2
            exact ⟨⟨k + 1, by omega, by go_num, below_drewN hbl2 _, HG.out (by rw [HA.out, HN.out, HV.out]; simp [HK0.out])⟩, by simp [intOf]; omega⟩
          · have d0 : decide (0 < (k : Int)) = true := by simp; omega
            have hk0' : 0 < k := by omega
            obtain ⟨m, hm⟩ : ∃ m, k = m + 1 := ⟨k - 1, by omega⟩
            have HM := hidn hm
            obtain ⟨p0, p1⟩ := hc m (by omega)
            have p0' : w2.cell? ⟨b, off + m * 2, none⟩ = some (.string (labD ls m).1) := (hbl2.cell (p := ⟨b, off + m * 2, none⟩) hbw).trans p0
            have hkm : (k : Int) - 1 = (m : Int) := by omega
            have HL : Hid ((labD ls (k - 1)).1 = (labD ls m).1) := hidn (by rw [hm]; rfl)
            clear p0 p1 hk0
            generalize hpn : (labD ls m).1 = pn at *
            have HPN := hidn hpn
            clear hpn
            have hml : m < len := by omega
            clear hm
            by_cases hle : Op.bytesLess pn.toList n0.toList = true
            · have HLE := hidn hle
              go_wp2
              go_quiet (fail)
              go_wp2
              exact ⟨⟨k + 1, by omega, by go_num, below_drewN hbl2 _, HG.out (by rw [HA.out, HN.out, HV.out, HL.out]; simp [lessS, HLE.out])⟩, by simp [intOf]; omega⟩
            · have hle' : Op.bytesLess pn.toList n0.toList = false := by simpa using hle
              have HLE := hidn hle'
              clear hle
              go_wp2
              go_quiet (fail)
              go_wp2
              go_ret
              exact ⟨e _ (HS.out (by rw [HA.out, HL.out]; simp [lessS, HLE.out]; omega)), below_drewN hbl2 _⟩
        · have hv' : valueOK v0 = false := by simpa using hvok
          go_wp2
          go_ret
          exact ⟨e _ (HS.out (by rw [HA.out, hv']; simp)), hbl2⟩
      · have hn' : nameOK n0 = false := by simpa using hnok
        go_wp2
        go_ret
        exact ⟨e _ (HS.out (by rw [HA.out, hn']; simp)), hbl1⟩
    · go_wp2
      go_ret
      obtain rfl : k = len := by omega
      exact ⟨e _ (canOK_true ls (by rw [hlH]; omega) (by rw [hlH]; omega) (by rw [hlH]; exact hn)), hbl⟩

theorem can_sizes (ls : List Lab) (h : canOK ls = true) (i : Nat) (hi : i < ls.length) : (labD ls i).1.size ≤ 24 ∧ (labD ls i).2.size ≤ 40 := by
  have h1 := ((canOK_iff ls).1 h).2.2 i hi
  unfold canAt nameOK valueOK at h1
  simp at h1
  omega
end Go.Proofs.YtfgfkifdokeefaaDoor
