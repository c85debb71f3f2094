/- The document's disk: New, IsName, stops, Fuse, Free, Extents, List. -/
import Derived.Test.YtdppolelakbbiaaGreatDoorMp
import Derived.Test.YtdppolelakbbiaaGreatDoorAppK
namespace Go.Proofs.YtdppolelakbbiaaGreatDoor
open Go.RowKit Go.Maps
set_option linter.unusedVariables false
theorem name_all {l : List UInt8} (h : (l.all fun c => inB c.toNat) = false) : nameB l = false := by
 unfold nameB
 rw [h, Bool.and_false]
set_option maxHeartbeats 4000000 in
theorem isNameY_any (w : World) (s : ByteArray) (hm : s.size ≤ maxLen) :
  Calls Tryz.prog 105 #[.string s] w fun e w' => e = .returned (.bool (nameB s.data.toList)) ∧ w' = w := by
 unfold maxLen at hm
 have hln : s.data.toList.length = s.size := Array.length_toList
 have HLN := hidn hln
 clear hln
 go_enter Tryz.func105, Tryz.ntmps105
 go_wp2
 go_loop [3] (fun iv => ∃ k : Nat, k ≤ s.size ∧ iv = .int .i64 k ∧ Hid (((s.data.toList.take k).all fun c => inB c.toNat) = true)) (fun iv => s.size - (intOf iv).toNat)
 case atStart => exact ⟨0, Nat.zero_le _, rfl, hidn rfl⟩
 case round =>
  obtain ⟨k, hk, rfl, HA⟩ := hrel
  by_cases hlt : k < s.size
  ·
   have hlt' : (k : Int) < (s.size : Int) := by omega
   have hstep : ((s.data.toList.take (k + 1)).all fun c => inB c.toNat) = inB s[k].toNat := by
    have hl : k < s.data.toList.length := hlt
    rw [List.take_succ_eq_append_getElem hl, List.all_append, HA.out, Bool.true_and]
    simp
    rfl
   have hfull : inB s[k].toNat = false → (s.data.toList.all fun c => inB c.toNat) = false := by
    intro hf
    rw [← hstep] at hf
    rw [Bool.eq_false_iff] at hf ⊢
    intro ha
    exact hf (List.all_eq_true.2 fun c hc => List.all_eq_true.1 ha c (List.mem_of_mem_take hc))
   have hc := s[k].toNat_lt
   have HS := hidn hstep
   have HF := hidn hfull
   clear hstep hfull HA
   by_cases h1 : 97 ≤ s[k].toNat ∧ s[k].toNat ≤ 122
   ·
    have hin : inB s[k].toNat = true := by unfold inB; simp; omega
    have q0 : decide ((s[k].toNat : Int) < 97) = false := by simp; omega
    have q1 : decide ((122 : Int) < (s[k].toNat : Int)) = false := by simp; omega
    have q2 : decide (s[k].toNat < 97) = false := by simp; omega
    have q3 : decide (122 < s[k].toNat) = false := by simp; omega
    have HB : Hid (inB s[k].toNat = true) := hidn hin
    clear hin
    go_wp2
    go_round
    case rel => exact ⟨k + 1, by omega, by go_num, hidn (by rw [HS.out]; exact HB.out)⟩
    case measure => simp [intOf]; omega
   by_cases h2 : 48 ≤ s[k].toNat ∧ s[k].toNat ≤ 57
   ·
    have hin : inB s[k].toNat = true := by unfold inB; simp; omega
    have q0 : decide ((s[k].toNat : Int) < 97) = true := by simp; omega
    have q1 : decide ((s[k].toNat : Int) < 48) = false := by simp; omega
    have q2 : decide ((57 : Int) < (s[k].toNat : Int)) = false := by simp; omega
    have q3 : decide (s[k].toNat < 97) = true := by simp; omega
    have q4 : decide (s[k].toNat < 48) = false := by simp; omega
    have q5 : decide (57 < s[k].toNat) = false := by simp; omega
    have HB : Hid (inB s[k].toNat = true) := hidn hin
    clear hin
    go_wp2
    go_round
    case rel => exact ⟨k + 1, by omega, by go_num, hidn (by rw [HS.out]; exact HB.out)⟩
    case measure => simp [intOf]; omega
   by_cases h46 : s[k].toNat = 46
   ·
    have hin : inB s[k].toNat = true := by unfold inB; simp; omega
    have q0 : decide ((s[k].toNat : Int) < 97) = true := by simp; omega
    have q1 : decide ((s[k].toNat : Int) < 48) = true := by simp; omega
    have q2 : decide (s[k].toNat < 97) = true := by simp; omega
    have q3 : decide (s[k].toNat < 48) = true := by simp; omega
    have q4 : ((s[k].toNat : Int) != 46) = false := by simp [h46]
    have HB : Hid (inB s[k].toNat = true) := hidn hin
    clear hin
    go_wp2
    go_round
    case rel => exact ⟨k + 1, by omega, by go_num, hidn (by rw [HS.out]; exact HB.out)⟩
    case measure => simp [intOf]; omega
   have hin : inB s[k].toNat = false := by unfold inB; simp; omega
   by_cases h3 : s[k].toNat < 48
   ·
    skip
    have q0 : decide ((s[k].toNat : Int) < 97) = true := by simp; omega
    have q1 : decide ((s[k].toNat : Int) < 48) = true := by simp; omega
    have q2 : decide (s[k].toNat < 97) = true := by simp; omega
    have q3 : decide (s[k].toNat < 48) = true := by simp; omega
    have q4 : ((s[k].toNat : Int) != 46) = true := by simp; omega
    have HB : Hid (nameB s.data.toList = false) := hidn (name_all (HF.out hin))
    clear hin
    go_wp2
    go_ret
    rw [HB.out]
    exact ⟨rfl, rfl⟩
   by_cases h4 : s[k].toNat < 97
   ·
    skip
    have q0 : decide ((s[k].toNat : Int) < 97) = true := by simp; omega
    have q1 : decide ((s[k].toNat : Int) < 48) = false := by simp; omega
    have q2 : decide ((57 : Int) < (s[k].toNat : Int)) = true := by simp; omega
    have q3 : decide (s[k].toNat < 97) = true := by simp; omega
    have q4 : decide (s[k].toNat < 48) = false := by simp; omega
    have q5 : decide (57 < s[k].toNat) = true := by simp; omega
    have q6 : ((s[k].toNat : Int) != 46) = true := by simp; omega
    have HB : Hid (nameB s.data.toList = false) := hidn (name_all (HF.out hin))
    clear hin
    go_wp2
    go_ret
    rw [HB.out]
    exact ⟨rfl, rfl⟩
   ·
    skip
    have q0 : decide ((s[k].toNat : Int) < 97) = false := by simp; omega
    have q1 : decide ((122 : Int) < (s[k].toNat : Int)) = true := by simp; omega
    have q2 : decide ((s[k].toNat : Int) < 48) = false := by simp; omega
    have q3 : decide ((57 : Int) < (s[k].toNat : Int)) = true := by simp; omega
    have q4 : decide (s[k].toNat < 97) = false := by simp; omega
    have q5 : decide (122 < s[k].toNat) = true := by simp; omega
    have q6 : decide (s[k].toNat < 48) = false := by simp; omega
    have q7 : decide (57 < s[k].toNat) = true := by simp; omega
    have q8 : ((s[k].toNat : Int) != 46) = true := by simp; omega
    have HB : Hid (nameB s.data.toList = false) := hidn (name_all (HF.out hin))
    clear hin
    go_wp2
    go_ret
    rw [HB.out]
    exact ⟨rfl, rfl⟩
  ·
   obtain rfl : k = s.size := by omega
   have ha : nameB s.data.toList = decide (1 ≤ s.size ∧ s.size ≤ 24) := by
    have h1 := HA.out
    rw [List.take_of_length_le (by rw [HLN.out]; exact Nat.le_refl _)] at h1
    unfold nameB
    rw [h1, Bool.and_true, HLN.out]
   have HN := hidn ha
   clear ha HA
   by_cases h1 : 1 ≤ s.size
   ·
    have e1 : decide ((1 : Int) ≤ (s.size : Int)) = true := by simp; omega
    by_cases h2 : s.size ≤ 24
    ·
     have e2 : decide ((s.size : Int) ≤ 24) = true := by simp; omega
     have hr : decide (1 ≤ s.size ∧ s.size ≤ 24) = true := by simp; omega
     have HR := hidn hr
     clear hr
     go_wp2
     go_ret
     rw [HN.out, HR.out]
     exact ⟨rfl, rfl⟩
    ·
     have e2 : decide ((s.size : Int) ≤ 24) = false := by simp; omega
     have hr : decide (1 ≤ s.size ∧ s.size ≤ 24) = false := by simp; omega
     have HR := hidn hr
     clear hr
     go_wp2
     go_ret
     rw [HN.out, HR.out]
     exact ⟨rfl, rfl⟩
   ·
    have e1 : decide ((1 : Int) ≤ (s.size : Int)) = false := by simp; omega
    have hr : decide (1 ≤ s.size ∧ s.size ≤ 24) = false := by simp; omega
    have HR := hidn hr
    clear hr
    go_wp2
    go_ret
    rw [HN.out, HR.out]
    exact ⟨rfl, rfl⟩
theorem tyDF : (127 : Nat) ≠ 143 ∧ (127 : Nat) ≠ 140 ∧ (127 : Nat) ≠ 5 ∧ (143 : Nat) ≠ 140 ∧ (143 : Nat) ≠ 5 ∧ (140 : Nat) ≠ 5 := by decide
theorem own_ty {w : World} {base e size n : Nat} {v : Value} {xs : List Value} (h : w.ownsRow base e size v n xs) {g : Nat} (hg : v.ownBlock = some g) : ∃ cur, w.heap[g]? = some (.cells cur e (0, 0)) := by
 rcases h.2 with ⟨rfl, _⟩ | ⟨g', cap, cur, rfl, _, hh, _⟩
 ·
  cases hg
 ·
  cases hg
  exact ⟨cur, hh⟩
theorem own_ne {w : World} {base e size n : Nat} {v : Value} {xs : List Value} (h : w.ownsRow base e size v n xs) {g : Nat} (hg : v.ownBlock = some g) {k : Nat} {cs : Array Value} {t : TypeId} {fz : Nat × Nat} (hk : w.heap[k]? = some (.cells cs t fz)) (hne : e ≠ t) : g ≠ k := by
 rintro rfl
 obtain ⟨cur, hh⟩ := own_ty h hg
 rw [hh] at hk
 cases hk
 exact hne rfl
theorem own_ne2 {w : World} {base e size n base' e' size' n' : Nat} {v v' : Value} {xs xs' : List Value} (h : w.ownsRow base e size v n xs) (h' : w.ownsRow base' e' size' v' n' xs') {g g' : Nat} (hg : v.ownBlock = some g) (hg' : v'.ownBlock = some g') (hne : e ≠ e') : g ≠ g' := by
 obtain ⟨cur, hh⟩ := own_ty h' hg'
 exact own_ne h hg hh hne
theorem RyOf.turnY {w w' : World} {y : Nat} {F : Nat → Prop} {fa : Option Addr} {fc : Nat} {R : List Yf} {room fuse fuse' : Int} (h : RyOf w y F fa fc R room fuse) (hy : w'.heap[y]? = some (.cells #[.int .i64 room, .slice fa R.length fc, .int .i64 fuse'] 127 (0, 0))) (hb : ∀ k, k ≠ y → w'.heap[k]? = w.heap[k]?) : RyOf w' y F fa fc R room fuse' where
 disk := hy
 files := own_other h.files (fun g hg => hb g (own_ne h.files hg h.disk (Ne.symm tyDF.1)))
 rows := fun f hf => own_other (h.rows f hf) (fun g hg => hb g (own_ne (h.rows f hf) hg h.disk (Ne.symm tyDF.2.1)))
 ims := fun f hf c hc => by
  obtain ⟨a0, a1, a2, a3⟩ := h.ims f hf c hc
  exact ⟨own_other a0 (fun g hg => hb g (own_ne a0 hg h.disk (Ne.symm tyDF.2.2.1))), own_other a1 (fun g hg => hb g (own_ne a1 hg h.disk (Ne.symm tyDF.2.2.1))), own_other a2 (fun g hg => hb g (own_ne a2 hg h.disk (Ne.symm tyDF.2.2.1))), own_other a3 (fun g hg => hb g (own_ne a3 hg h.disk (Ne.symm tyDF.2.2.1)))⟩
 ok := h.ok
 apart := h.apart
 fy := h.fy
 ff := h.ff
 fr := h.fr
 fi := h.fi
theorem set3 {w : World} {y : Nat} {a b c v : Value} {t : TypeId} (h : w.heap[y]? = some (.cells #[a, b, c] t (0, 0))) : (w.setCell ⟨y, 2, none⟩ v).heap[y]? = some (.cells #[a, b, v] t (0, 0)) := by
 rw [setCell_eq_setRow _ _ _ _ _ _ _ h]
 exact setRow_heap _ _ _ _ _ _ h
theorem RyOf.fused {w : World} {y : Nat} {F : Nat → Prop} {fa : Option Addr} {fc : Nat} {R : List Yf} {room fuse : Int} (h : RyOf w y F fa fc R room fuse) (u : Int) : RyOf (w.setCell ⟨y, 2, none⟩ (.int .i64 u)) y F fa fc R room u :=
 h.turnY (set3 h.disk) (fun k hk => Below.heap_setCell w ⟨y, 2, none⟩ _ k hk)
theorem ryGr {F : Nat → Prop} {w : World} {y : Nat} (hy : F y) (j : Nat) (v : Value) : Gr F F w (w.setCell ⟨y, j, none⟩ v) := Gr.of ((Keeps.refl _ _).setCell (p := ⟨y, j, none⟩) hy v)
set_option maxHeartbeats 1000000 in
theorem stops_yes (w : World) (y : Nat) (F : Nat → Prop) (fa : Option Addr) (fc : Nat) (R : List Yf) (room : Int) (h : RyOf w y F fa fc R room 0) :
  Calls Tryz.prog 106 #[.pointer (some ⟨y, 0, none⟩)] w fun e w' => e = .returned (.bool true) ∧ w' = w := by
 have c2 : w.cell? ⟨y, 2, none⟩ = some (.int .i64 0) := by rw [cell_of_row _ _ _ _ _ _ h.disk]; rfl
 go_enter Tryz.func106, Tryz.ntmps106
 go_wp2
 go_ret
 exact ⟨rfl, rfl⟩
set_option maxHeartbeats 1000000 in
theorem stops_no (w : World) (y : Nat) (F : Nat → Prop) (fa : Option Addr) (fc : Nat) (R : List Yf) (room fuse : Int) (h : RyOf w y F fa fc R room fuse) (h0 : fuse ≠ 0) (hf : -1 ≤ fuse) (hf2 : fuse ≤ 9223372036854775807) :
  Calls Tryz.prog 106 #[.pointer (some ⟨y, 0, none⟩)] w fun e w' => e = .returned (.bool false) ∧ RyOf w' y F fa fc R room (burnt fuse) ∧ Gr F F w w' ∧ w'.heap.size = w.heap.size := by
 have c2 : w.cell? ⟨y, 2, none⟩ = some (.int .i64 fuse) := by rw [cell_of_row _ _ _ _ _ _ h.disk]; rfl
 have f2 := frozen_of_row _ _ 2 _ _ h.disk
 have e0 : (fuse == 0) = false := beq_eq_false_iff_ne.2 h0
 have HY := hidn h.fy
 by_cases hp : 0 < fuse
 ·
  have e1 : decide (0 < fuse) = true := by simpa using hp
  have hw : IntKind.i64.wrap (fuse - 1) = fuse - 1 := by rw [IntKind.wrap_i64]; omega
  have hb : burnt fuse = fuse - 1 := by unfold burnt; rw [if_neg (by omega)]
  have HB := hidn hb
  have HR := hidn (h.fused (fuse - 1))
  clear hb h h0 hf hf2 hp
  go_enter Tryz.func106, Tryz.ntmps106
  go_wp2
  go_ret
  rw [HB.out]
  exact ⟨rfl, HR.out, ryGr HY.out 2 _, by simp [World.setCell]⟩
 ·
  have e1 : decide (0 < fuse) = false := by simpa using hp
  obtain rfl : fuse = -1 := by omega
  have HR := hidn h
  clear h hf hf2 hp h0
  go_enter Tryz.func106, Tryz.ntmps106
  go_wp2
  go_ret
  exact ⟨rfl, HR.out, Gr.refl _ _, rfl⟩
set_option maxHeartbeats 1000000 in
theorem fuseY_any (w : World) (y : Nat) (F : Nat → Prop) (fa : Option Addr) (fc : Nat) (R : List Yf) (room fuse : Int) (h : RyOf w y F fa fc R room fuse) (n : Int) :
  Calls Tryz.prog 63 #[.pointer (some ⟨y, 0, none⟩), .int .i64 n] w fun e w' => e = .returned (.int .i64 (if n < 0 then 1 else 0)) ∧ RyOf w' y F fa fc R room (if n < 0 then fuse else n) ∧ Gr F F w w' := by
 have c2 : w.cell? ⟨y, 2, none⟩ = some (.int .i64 fuse) := by rw [cell_of_row _ _ _ _ _ _ h.disk]; rfl
 have f2 := frozen_of_row _ _ 2 _ _ h.disk
 have HY := hidn h.fy
 by_cases hn : n < 0
 ·
  have e1 : decide (n < 0) = true := by simpa using hn
  rw [if_pos hn, if_pos hn]
  have HR := hidn h
  clear h hn
  go_enter Tryz.func63, Tryz.ntmps63
  go_wp2
  go_ret
  exact ⟨rfl, HR.out, Gr.refl _ _⟩
 ·
  have e1 : decide (n < 0) = false := by simpa using hn
  rw [if_neg hn, if_neg hn]
  have HR := hidn (h.fused n)
  clear h hn
  go_enter Tryz.func63, Tryz.ntmps63
  go_wp2
  go_ret
  exact ⟨rfl, HR.out, ryGr HY.out 2 _⟩
theorem ryNew {w : World} {room : Int} : RyOf (w.alloc (.cells #[.int .i64 room, .slice none 0 0, .int .i64 (-1)] 127)) w.heap.size (fun k => k = w.heap.size) none 0 [] room (-1) where
 disk := heap_alloc_new _ _
 files := World.ownsRow_nil _ _ _ _
 rows := fun f hf => by simp at hf
 ims := fun f hf => by simp at hf
 ok := fun f hf => by simp at hf
 apart := List.nodup_nil
 fy := rfl
 ff := fun x hx => by cases hx
 fr := fun f hf => by simp at hf
 fi := fun f hf => by simp at hf
set_option maxHeartbeats 1000000 in
theorem newY_yes (w : World) (r : Nat) (h : r ≤ 100000) :
  Calls Tryz.prog 37 #[.int .i64 r] w fun e w' => e = .returned (.tuple #[.pointer (some ⟨w.heap.size, 0, none⟩), .int .i64 0]) ∧ RyOf w' w.heap.size (fun k => k = w.heap.size) none 0 [] r (-1) ∧ Below w.heap.size w w' ∧ w'.heap.size = w.heap.size + 1 := by
 have h1 : ¬ ((r : Int) < 0) := by omega
 have h2 : ¬ ((100000 : Int) < r) := by omega
 go_enter Tryz.func37, Tryz.ntmps37
 go_wp2
 go_ret2
 exact ⟨rfl, ryNew, (Below.refl _ _).alloc (Nat.le_refl _) _, by simp⟩
def sumL (R : List Yf) : Nat := (R.map fun f => f.l.length).sum
theorem sumL_take (R : List Yf) (k : Nat) (f : Yf) (h : R[k]? = some f) : sumL (R.take (k + 1)) = sumL (R.take k) + f.l.length := by
 unfold sumL
 have hk := (lQ4.1 h)
 rw [List.take_succ_eq_append_getElem hk.1, List.map_append, List.sum_append, hk.2]
 simp
theorem sumL_le (R : List Yf) (k : Nat) : sumL (R.take k) ≤ sumL R := by
 have h : sumL R = sumL (R.take k) + sumL (R.drop k) := by
  unfold sumL
  rw [← List.sum_append, ← List.map_append, List.take_append_drop]
 omega
set_option maxHeartbeats 2000000 in
theorem freeY_any (w : World) (y : Nat) (F : Nat → Prop) (fa : Option Addr) (fc : Nat) (R : List Yf) (room fuse : Int) (h : RyOf w y F fa fc R room fuse) (hF : ∀ k, F k → k < w.heap.size) (hR : R.length ≤ 1000000) (hr0 : 0 ≤ room) (hr1 : room ≤ 100000) (hs : sumL R ≤ 100000) :
  Calls Tryz.prog 68 #[.pointer (some ⟨y, 0, none⟩)] w fun e w' => e = .returned (.int .i64 (room - (sumL R : Int))) ∧ Below w.heap.size w w' := by
 have H := hidn h
 have HF := hidn hF
 have c0 : w.cell? ⟨y, 0, none⟩ = some (.int .i64 room) := by rw [cell_of_row _ _ _ _ _ _ h.disk]; rfl
 have c1 : w.cell? ⟨y, 1, none⟩ = some (.slice fa R.length fc) := by rw [cell_of_row _ _ _ _ _ _ h.disk]; rfl
 obtain ⟨n, hn⟩ : ∃ n, n = R.length := ⟨_, rfl⟩
 rw [← hn] at c1 hR
 have HN := hidn hn
 have HS := hidn hs
 clear h hF hn hs
 go_enter Tryz.func68, Tryz.ntmps68
 go_wp2_with fail
 clear c1 c0
 go_loopw [15, 3] (fun iv vr wr => ∃ (k : Nat) (m : Int), k ≤ n ∧ iv = .int .i64 (k : Int) ∧ vr = .int .i64 m ∧ Hid (m = room - (sumL (R.take k) : Int)) ∧ Hid (Below w.heap.size w wr)) (fun iv _ _ => n - (intOf iv).toNat)
 case atStart => exact ⟨0, room, Nat.zero_le _, rfl, rfl, hidn (by simp [sumL]), hidn (Below.refl _ _)⟩
 case round =>
  obtain ⟨k, m, hk, rfl, rfl, HM, HB⟩ := hrel
  by_cases hlt : k < n
  ·
   have hlt2 : (k : Int) < (n : Int) := by omega
   obtain ⟨f, hf⟩ : ∃ f, R[k]? = some f := ⟨_, lQ6 (by rw [← HN.out]; exact hlt)⟩
   obtain ⟨g, hfa, hFg, hc0, hc1⟩ := (H.out.below HF.out HB.out).at hf
   subst hfa
   obtain ⟨fl, hfl⟩ : ∃ fl, fl = f.l.length := ⟨_, rfl⟩
   obtain ⟨m2, hm2⟩ : ∃ m2, m2 = m - (fl : Int) := ⟨_, rfl⟩
   have hst := sumL_take R k f hf
   have hle := sumL_le R (k + 1)
   have hM := HM.out
   have hSS := HS.out
   have hw : IntKind.i64.wrap (m - (fl : Int)) = m2 := by rw [IntKind.wrap_i64]; omega
   have HM2 : Hid (m2 = room - (sumL (R.take (k + 1)) : Int)) := hidn (by omega)
   unfold Yf.row at hc1
   rw [← hfl] at hc1
   have hm2b : m2 ≤ 100000 ∧ -100000 ≤ m2 := by omega
   have hmb : m ≤ 100000 ∧ -100000 ≤ m := by omega
   have hflb : fl ≤ 100000 := by omega
   clear hf hfl hFg hst hle hM hSS hm2
   go_wp2
   go_roundw
   case rel => exact ⟨k + 1, m2, hlt, by simp, rfl, HM2, hidn (HB.out.alloc HB.out.size _)⟩
   case measure => simp [intOf]; omega
  ·
   have hlt2 : ¬ (k : Int) < (n : Int) := by omega
   have hkn : k = n := by omega
   have hp : m = room - (sumL R : Int) := by
    rw [HM.out, hkn, HN.out, List.take_length]
   have HP := hidn hp
   clear hp hkn
   go_wp2
   go_ret
   rw [HP.out]
   exact ⟨rfl, HB.out⟩
def extY (R : List Yf) (s : ByteArray) : List Yc := match placeY R s with | some k => ((R[k]?).map Yf.l).getD [] | none => []
set_option maxHeartbeats 1000000 in
theorem extentsY_any (w : World) (y : Nat) (F : Nat → Prop) (fa : Option Addr) (fc : Nat) (R : List Yf) (room fuse : Int) (h : RyOf w y F fa fc R room fuse) (hF : ∀ k, F k → k < w.heap.size) (s : ByteArray) (hR : R.length ≤ 1000000) (n : Nat) (HN : Hid (n = (extY R s).length)) :
  Calls Tryz.prog 53 #[.pointer (some ⟨y, 0, none⟩), .string s] w fun e w' => e = .returned (.int .i64 (n : Int)) ∧ Below w.heap.size w w' := by
 have HPl := hidn (place_any w y F fa fc R room fuse h hF s hR)
 have H := hidn h
 have HF := hidn hF
 clear h hF
 cases hp : placeY R s with
 | none =>
  have e : placeI R s = -1 := by unfold placeI; rw [hp]
  have en : n = 0 := by rw [HN.out]; unfold extY; rw [hp]; rfl
  subst en
  rw [e] at HPl
  clear hp e
  go_enter Tryz.func53, Tryz.ntmps53
  go_wp2_with fail
  refine HPl.out.mono ?_
  rintro e w1 ⟨rfl, hb1⟩
  go_wp2
  go_ret
  exact ⟨rfl, hb1⟩
 | some k =>
  have e : placeI R s = (k : Int) := by unfold placeI; rw [hp]
  obtain ⟨f, hf, hfn⟩ := place_at hp
  have en : Hid (n = f.l.length) := hidn (by rw [HN.out]; unfold extY; rw [hp]; simp [hf])
  rw [e] at HPl
  have hkR := (lQ4.1 hf).1
  obtain ⟨N, hN⟩ : ∃ N, N = R.length := ⟨_, rfl⟩
  rw [← hN] at hkR hR
  have HNN := hidn hN
  have HFK := hidn hf
  have hk2 : (k : Int) < (N : Int) := by omega
  have hk0 : decide ((0 : Int) ≤ (k : Int)) = true := by simp
  clear hp e hf hfn hN
  go_enter Tryz.func53, Tryz.ntmps53
  go_wp2_with fail
  refine HPl.out.mono ?_
  rintro e w1 ⟨rfl, hb1⟩
  have h1 := H.out.below HF.out hb1
  have c1 : w1.cell? ⟨y, 1, none⟩ = some (.slice fa R.length fc) := by rw [cell_of_row _ _ _ _ _ _ h1.disk]; rfl
  obtain ⟨g, hfa, hFg, hc0, hc1⟩ := h1.at HFK.out
  subst hfa
  unfold Yf.row at hc1
  rw [← en.out] at hc1
  rw [← HNN.out] at c1
  clear h1 hc0 hFg HPl
  go_wp2
  go_ret
  exact ⟨rfl, hb1⟩
end Go.Proofs.YtdppolelakbbiaaGreatDoor

namespace Go.Proofs.YtdppolelakbbiaaGreatDoor
open Go.RowKit Go.Maps
set_option linter.unusedVariables false
theorem mk0_run {o : Oper} {a : Act} {w : World} (ho : o.op = Op.buildSlice 28 0 #[]) : (execOp a.eval o).run Tryz.prog w = .ok (.value (.slice (some ⟨w.heap.size, 0, none⟩) 0 0)) (w.alloc (.cells #[] 5)) := by
 have h : (Instr.buildSlice 28 0 #[]).run Tryz.prog w = .ok (.slice (some ⟨w.heap.size, 0, none⟩) 0 0) (w.alloc (.cells #[] 5)) := by kernel_rfl
 simp [execOp, ho, h, Result.andThen]
theorem app_run3 {o : Oper} {a : Act} {w w' : World} {t u : TypeId} {x y : Operand} {vx vy v : Value} (ho : o.op = .call { callee := .builtin .append, args := #[x, y], argTypes := #[t, u] }) (hx : a.eval x = vx) (hy : a.eval y = vy) (hr : (Builtin.append_ #[t, u] o.type #[vx, vy]).run Tryz.prog w = .ok v w') : (execOp a.eval o).run Tryz.prog w = .ok (.value v) w' := by
 unfold execOp
 simp only [ho, resolve, invoke, builtin, Sem.run_bind, Sem.run_pure, Result.andThen_ok, List.map_toArray, List.map_cons, List.map_nil, hx, hy, hr]
theorem call2_runY {o : Oper} {a : Act} {w : World} {f : FuncId} {x y : Nat} {vx vy : Value} {ts : Array TypeId} (ho : o.op = Op.call { callee := Callee.value (Operand.func f), args := #[.tmp x, .tmp y], argTypes := ts }) (hen : ∀ args w, (callFunc f args).run Tryz.prog w = .ok (.enter f args) w) (hx : a.eval (.tmp x) = vx) (hy : a.eval (.tmp y) = vy) : (execOp a.eval o).run Tryz.prog w = .ok (.enter f #[vx, vy]) w := by
 simp [go_sem, execOp, ho, resolve, invoke, hen]
 exact ⟨by simpa [Act.eval] using hx, by simpa [Act.eval] using hy⟩
theorem grown_alloc (w : World) (o : Obj) : w.grownBy (w.alloc o) none := ⟨rfl, rfl, rfl, by simp, fun i hi _ => Below.heap_alloc _ _ _ hi⟩
theorem own_grown {w w' : World} {base e size n : Nat} {v : Value} {xs : List Value} {row : Option Nat} (h : w.ownsRow base e size v n xs) (hg : w.grownBy w' row) (hne : v.ownBlock ≠ row ∨ v.ownBlock = none) : w'.ownsRow base e size v n xs :=
 own_other h (fun g hv => hg.block g (own_lt h g hv) (fun e => by
  rcases hne with hne | hne
  ·
   exact hne (by rw [hv, e])
  ·
   rw [hne] at hv; cases hv))
theorem im_grown {w w' : World} {q : Nat × Nat} {zs : List Nat} {row : Option Nat} (h : Im w q zs) (hg : w.grownBy w' row) (hne : some q.1 = row → False) : Im w' q zs :=
 own_grown h hg (.inl (fun e => hne e))
theorem byInfoY : ∃ i0 z, Tryz.prog.info? 5 = some i0 ∧ i0.zero = some z ∧ i0.size = 1 ∧ i0.bytes = 1 ∧ z.cells.size = 1 := by
 have h : (Tryz.prog.info? 5).map (fun i => (i.zero, i.size, i.bytes)) = some (some (.int .u8 0), 1, 1) := by kernel_rfl
 obtain ⟨i0, hi, h1, h2, h3⟩ := info_parts h
 exact ⟨i0, _, hi, h1, h2, h3, rfl⟩
theorem own_empty {W : World} {b e size : Nat} (h : W.heap[b]? = some (.cells #[] e (0, 0))) : W.ownsRow 0 e size (.slice (some ⟨b, 0, none⟩) 0 0) 0 [] :=
 ⟨by simp, .inr ⟨b, 0, #[], rfl, Nat.zero_le _, h, by omega, by simp, by simp, by simp⟩⟩
theorem vb_one (zs : List Nat) : ∀ u ∈ vb zs, u.oneCell' = true := by
 intro u hu
 unfold vb at hu
 obtain ⟨x, _, rfl⟩ := List.mem_map.1 hu
 rfl
theorem cpy (W : World) (b : Nat) (hb0 : W.heap[b]? = some (.cells #[] 5 (0, 0))) (a : Addr) (c0 : Nat) (zs : List Nat) (hl : zs.length = 128) (hc : ∀ j u, (vb zs)[j]? = some u → W.cell? (a.add j) = some u) :
  ∃ (q : Nat × Nat) (W' : World), (Builtin.append_ #[28, 28] 28 #[.slice (some ⟨b, 0, none⟩) 0 0, .slice (some a) 128 c0]).run Tryz.prog W = .ok (im q) W' ∧ Im W' q zs ∧ W.heap.size ≤ q.1 ∧ q.1 < W'.heap.size ∧ W.grownBy W' (some b) := by
 obtain ⟨i0, z0, hi, hz0, hz1, hz2, hzc⟩ := byInfoY
 obtain ⟨g, c, W', hrun, hown, hgr, hpl⟩ := appN (P := Tryz.prog) W 28 28 5 i0 z0 1 1 Tryz.underlying28 hi hz0 hz1 hz2 hzc (by decide) (.slice (some ⟨b, 0, none⟩) 0 0) 0 [] 0 (own_empty hb0) (Nat.zero_le _) a 128 c0 (by omega) (vb zs) (by rw [length_vb, hl]) hc (vb_one zs) (by unfold maxLen; omega) (by omega)
 refine ⟨(g, c), W', hrun, ?_, ?_, own_lt hown g rfl, hgr⟩
 ·
  simpa [Im] using hown
 ·
  rcases hpl with h | h
  ·
   exfalso
   obtain rfl : b = g := by simpa [Value.ownBlock] using h
   obtain ⟨hl2, h2⟩ := hown
   rcases h2 with ⟨h2, _⟩ | ⟨g', cap, cur, hv, _, hh, hle, _, hcs, _⟩
   ·
    cases h2
   ·
    obtain ⟨rfl, _, rfl⟩ : b = g' ∧ 0 + 128 = 0 + 128 ∧ c = cap := by simpa using hv
    have hlt := (lQ3.1 hb0).1
    have hrn := run_append_grow (P := Tryz.prog) W 28 28 5 i0 z0 Tryz.underlying28 hi hz0 ⟨b, 0, none⟩ 0 0 [] (by simp) (fun j v hj => by simp at hj) a 128 c0 (vb zs) (by rw [length_vb, hl, hz1]) hc (by omega) (by omega) (growslice_fits (by omega) (by rw [hz2]; omega))
    have e := hrun.symm.trans hrn
    injection e with e1 e2
    simp at e1
  ·
   exact h
theorem Im.src {w w' : World} {n0 : Nat} {q : Nat × Nat} {zs : List Nat} (h : Im w q zs) (hb : Below n0 w w') (hn : q.1 < n0) : ∀ j u, (vb zs)[j]? = some u → w'.cell? ((⟨q.1, 0, none⟩ : Addr).add j) = some u := by
 intro j u hj
 have hc := h.cells (g := q.1) rfl j u hj
 rw [add_none] at hc ⊢
 exact (hb.cell (p := ⟨q.1, 0 + j, none⟩) hn).trans hc
theorem extY_at {R : List Yf} {s : ByteArray} {k : Nat} {f : Yf} (hp : placeY R s = some k) (hf : R[k]? = some f) : extY R s = f.l := by
 unfold extY
 rw [hp]
 simp [hf]
set_option maxHeartbeats 1000000 in
theorem readY_no (w : World) (y : Nat) (F : Nat → Prop) (fa : Option Addr) (fc : Nat) (R : List Yf) (room fuse : Int) (h : RyOf w y F fa fc R room fuse) (hF : ∀ k, F k → k < w.heap.size) (s : ByteArray) (hR : R.length ≤ 1000000) (i : Int) (n : Nat) (HN : Hid (n = (extY R s).length)) (hi : i < 0 ∨ (n : Int) ≤ i) :
  Calls Tryz.prog 49 #[.pointer (some ⟨y, 0, none⟩), .string s, .int .i64 i] w fun e w' => e = .returned (.tuple #[.slice none 0 0, .int .i64 30]) ∧ Below w.heap.size w w' := by
 by_cases h0 : i < 0
 ·
  have e1 : decide (i < 0) = true := by simpa using h0
  clear hi h0
  go_enter Tryz.func49, Tryz.ntmps49
  go_wp2
  go_ret2
  exact ⟨rfl, Below.refl _ _⟩
 ·
  have e1 : decide (i < 0) = false := by simpa using h0
  have e2 : decide ((n : Int) ≤ i) = true := by simp; omega
  have HE := hidn (extentsY_any w y F fa fc R room fuse h hF s hR n HN)
  clear hi h0
  go_enter Tryz.func49, Tryz.ntmps49
  go_wp2_with fail
  refine HE.out.mono ?_
  rintro e w1 ⟨rfl, hb1⟩
  go_wp2
  go_ret2
  exact ⟨rfl, hb1⟩
set_option maxRecDepth 100000 in
set_option maxHeartbeats 4000000 in
theorem readY_yes (w : World) (y : Nat) (F : Nat → Prop) (fa : Option Addr) (fc : Nat) (R : List Yf) (room fuse : Int) (h : RyOf w y F fa fc R room fuse) (hF : ∀ k, F k → k < w.heap.size) (s : ByteArray) (hR : R.length ≤ 1000000) (i k : Nat) (f : Yf) (c : Yc) (hp : placeY R s = some k) (hf : R[k]? = some f) (hc : f.l[i]? = some c) (hl : f.l.length ≤ 1000000) :
  Calls Tryz.prog 49 #[.pointer (some ⟨y, 0, none⟩), .string s, .int .i64 (i : Int)] w fun e w' => ∃ q, e = .returned (.tuple #[im q, .int .i64 0]) ∧ Im w' q c.x.rd ∧ w.heap.size ≤ q.1 ∧ Below w.heap.size w w' := by
 have hmem := lQ7 hf
 have hcm := lQ7 hc
 obtain ⟨fl, hfl⟩ : ∃ fl, fl = f.l.length := ⟨_, rfl⟩
 have HE := hidn (extentsY_any w y F fa fc R room fuse h hF s hR fl (hidn (by rw [extY_at hp hf, hfl])))
 have hil : i < fl := by rw [hfl]; exact (lQ4.1 hc).1
 have HPI : Hid (placeI R s = (k : Int)) := hidn (by unfold placeI; rw [hp])
 obtain ⟨g, hfa, hFg, hc0, hc1⟩ := h.at hf
 subst hfa
 obtain ⟨d0, d1, d2, d3, d4⟩ := h.ext hmem hc
 obtain ⟨x0, x1, x2, x3⟩ := h.ims f hmem c hcm
 obtain ⟨f0, f1, f2, f3⟩ := h.fi f hmem c hcm
 have hok := (h.ok f hmem).2.2 c hcm
 have hzl : c.x.rd.length = 128 := by
  unfold Ext.rd
  split
  ·
   exact hok.2.2.1
  ·
   exact hok.1.1
 have c1 : w.cell? ⟨y, 1, none⟩ = some (.slice (some ⟨g, 0, none⟩) R.length fc) := by rw [cell_of_row _ _ _ _ _ _ h.disk]; rfl
 obtain ⟨N, hN⟩ : ∃ N, N = R.length := ⟨_, rfl⟩
 have hkN : k < N := by rw [hN]; exact (lQ4.1 hf).1
 rw [← hN] at c1
 unfold Yf.row at hc1
 obtain ⟨fg, hfg⟩ : ∃ fg, fg = f.g := ⟨_, rfl⟩
 obtain ⟨fcc, hfcc⟩ : ∃ fcc, fcc = f.c := ⟨_, rfl⟩
 rw [← hfl, ← hfg, ← hfcc] at hc1
 rw [← hfg] at d0
 obtain ⟨q0, hq0⟩ : ∃ q0, q0 = c.q0.1 := ⟨_, rfl⟩
 obtain ⟨qc, hqc⟩ : ∃ qc, qc = c.q0.2 := ⟨_, rfl⟩
 have d0' : w.cell? ⟨fg, i * 5, none⟩ = some (.slice (some ⟨q0, 0, none⟩) 128 qc) := by rw [hq0, hqc]; exact d0
 obtain ⟨zs, hzs⟩ : ∃ zs, zs = c.x.rd := ⟨_, rfl⟩
 rw [← hzs] at x0 hzl ⊢
 have ly := hF y h.fy
 have lg := hF g hFg
 have lf : fg < w.heap.size := by rw [hfg]; exact hF _ (h.fr f hmem)
 have lq : q0 < w.heap.size := by rw [hq0]; exact hF _ f0
 have HSrc0 : Hid (∀ W, Below w.heap.size w W → ∀ j u, (vb zs)[j]? = some u → W.cell? ((⟨q0, 0, none⟩ : Addr).add j) = some u) := hidn (fun W hb j u hj => by rw [hq0]; exact Im.src x0 hb (by rw [← hq0]; exact lq) j u hj)
 have HZL := hidn hzl
 have H0 := hidn h
 have HF0 := hidn hF
 have HRl : Hid (R.length ≤ 1000000) := hidn hR
 have hNb : N ≤ 1000000 := by rw [hN]; exact hR
 have hfb : fl ≤ 1000000 := by rw [hfl]; exact hl
 have hi1 : decide ((i : Int) < 0) = false := by simp
 have hi2 : decide ((fl : Int) ≤ (i : Int)) = false := by simp; omega
 have hi3 : (i : Int) < (fl : Int) := by omega
 have hk3 : (k : Int) < (N : Int) := by omega
 clear hp hf hc hcm hmem d0 d1 d2 d3 d4 x0 x1 x2 x3 f0 f1 f2 f3 hok hzl hfl hN hfg hfcc hq0 hqc hzs hFg hc0 h hF hR hl
 go_enter Tryz.func49, Tryz.ntmps49
 go_wp2_with fail
 refine HE.out.mono ?_
 clear HE
 rintro e w1 ⟨rfl, hb1⟩
 have HB0 := hidn hb1
 have H := hidn (H0.out.below HF0.out hb1)
 have HSrc1 : Hid (∀ W, Below w.heap.size w1 W → ∀ j u, (vb zs)[j]? = some u → W.cell? ((⟨q0, 0, none⟩ : Addr).add j) = some u) := hidn (fun W hb => HSrc0.out W (hb1.trans hb))
 have c1 := (hb1.cell (p := ⟨y, 1, none⟩) ly).trans c1
 have c2 := (hb1.cell (p := ⟨g, k * 2 + 1, none⟩) lg).trans hc1
 have c3 := (hb1.cell (p := ⟨fg, i * 5, none⟩) lf).trans d0'
 obtain ⟨n0, hn0⟩ : ∃ n0, n0 = w1.heap.size := ⟨_, rfl⟩
 have HNE := hidn hn0
 have HN0 : Hid (w.heap.size ≤ n0) := hidn (by rw [hn0]; exact hb1.size)
 have ly : y < n0 := lQ2 ly HN0.out
 have lg : g < n0 := lQ2 lg HN0.out
 have lf : fg < n0 := lQ2 lf HN0.out
 have HFn : Hid (∀ k, F k → k < n0) := hidn (fun k hk => lQ2 (HF0.out k hk) HN0.out)
 have HSrc : Hid (∀ W, Below n0 w1 W → ∀ j u, (vb zs)[j]? = some u → W.cell? ((⟨q0, 0, none⟩ : Addr).add j) = some u) := hidn (fun W hb => HSrc1.out W (hb.mono HN0.out))
 have hR := HRl.out
 clear hb1 HF0 H0 HSrc0 HSrc1 hc1 d0' hn0
 go_wp2_with fail
 refine wp_region_noPanic ?_
 refine wp_region_held_drew (S := fun w' => Below n0 w1 w') (by kernel_rfl) ((Below.refl n0 w1).drew) (fun hHeld => ?_)
 obtain ⟨Wd, hWd⟩ : ∃ Wd, Wd = w1.drew := ⟨_, rfl⟩
 have hle0 : n0 ≤ Wd.heap.size := by rw [hWd]; exact Nat.le_of_eq HNE.out
 rw [← hWd] at hHeld ⊢
 clear hWd
 refine dtk (i := 1) (v := .pointer (some ⟨y, 0, none⟩)) (some 18) rfl rfl (by kernel_rfl) (by kernel_rfl) (fun wq hw => by go_simp) hHeld ?_
 simp only [Act.put, sQ1, sQ2, sQ3]
 refine dtk (i := 2) (v := .pointer (some ⟨y, 0, none⟩)) (some 19) rfl rfl (by kernel_rfl) (by kernel_rfl) (fun wq hw => by go_simp) hHeld ?_
 simp only [Act.put, sQ1, sQ2, sQ3]
 refine dtk (i := 3) (v := .pointer (some ⟨y, 1, none⟩)) (some 20) rfl rfl (by kernel_rfl) (by kernel_rfl) (fun wq hw => by go_simp) hHeld ?_
 simp only [Act.put, sQ1, sQ2, sQ3]
 refine dtk (i := 4) (v := .slice (some ⟨g, 0, none⟩) N fc) (some 21) rfl rfl (by kernel_rfl) (by kernel_rfl) (fun wq hw => by have q := (hw.cell (p := ⟨y, 1, none⟩) ly).trans c1; go_simp) hHeld ?_
 simp only [Act.put, sQ1, sQ2, sQ3]
 refine dtk (i := 5) (v := .pointer (some ⟨y, 0, none⟩)) (some 22) rfl rfl (by kernel_rfl) (by kernel_rfl) (fun wq hw => by go_simp) hHeld ?_
 simp only [Act.put, sQ1, sQ2, sQ3]
 refine dtk (i := 6) (v := .string s) (some 23) rfl rfl (by kernel_rfl) (by kernel_rfl) (fun wq hw => by go_simp) hHeld ?_
 simp only [Act.put, sQ1, sQ2, sQ3]
 refine dtk (i := 11) (v := .int .i64 (i : Int)) (some 28) rfl rfl (by kernel_rfl) (by kernel_rfl) (fun wq hw => by go_simp) hHeld ?_
 simp only [Act.put, sQ1, sQ2, sQ3]
 refine wpAnyH_ready (rs := [0, 7]) (by kernel_rfl) (by simp) ?_
 refine rdy_val (i := 0) rfl rfl (some 17) rfl (.slice (some ⟨Wd.heap.size, 0, none⟩) 0 0) (Wd.alloc (.cells #[] 5)) (mk0_run rfl) (hHeld.alloc (hle0) _) (fun hHeld => ?_) ?_
 ·
  simp only [Act.put, sQ1, sQ2, sQ3]
  have he1 := heap_alloc_new Wd (.cells #[] 5)
  have hg1 : Wd.grownBy (Wd.alloc (.cells #[] 5)) none := grown_alloc Wd _
  obtain ⟨b1, hb1⟩ : ∃ b, b = Wd.heap.size := ⟨_, rfl⟩
  obtain ⟨W1, hW1⟩ : ∃ W', W' = Wd.alloc (.cells #[] 5) := ⟨_, rfl⟩
  rw [← hb1] at he1
  rw [← hW1] at hHeld he1 hg1
  rw [← hb1, ← hW1]
  have hn1 : n0 ≤ b1 := by rw [hb1]; exact hle0
  have hs1 : Wd.heap.size ≤ W1.heap.size := hg1.size
  clear hW1
  refine wpAnyH_ready (rs := [7]) (by kernel_rfl) (by simp) ?_
  have HP2 := place_any W1 y F (some ⟨g, 0, none⟩) fc R room fuse (H.out.other (fun k hk => hHeld.block k (HFn.out k hk))) (fun k hk => lQ2 (HFn.out k hk) (lQ1 (hle0) hs1)) s hR
  rw [HPI.out] at HP2
  refine rdy_call (i := 7) rfl rfl (some 24) rfl 104 #[.pointer (some ⟨y, 0, none⟩), .string s] (call2_runY (x := 22) (y := 23) rfl (fun _ _ => rfl) (by kernel_rfl) (by kernel_rfl)) (fun r w9 => r = .int .i64 (k : Int) ∧ Below W1.heap.size W1 w9) (HP2.mono (by rintro e w9 ⟨rfl, hb9⟩; exact ⟨_, rfl, rfl, hb9⟩)) (fun r w9 hR9 => ?_) rdy_nil
  obtain ⟨rfl, hb9⟩ := hR9
  refine ⟨hHeld.trans (hb9.mono (lQ1 (hle0) hs1)), fun hHeld => ?_⟩
  simp only [Act.put, sQ1, sQ2, sQ3]
  have hs2 : W1.heap.size ≤ w9.heap.size := hb9.size
  have he1_2 := (hb9.block b1 (lQ3.1 he1).1).trans he1
  refine dtk (i := 8) (v := .pointer (some ⟨g, k * 2, none⟩)) (some 25) rfl rfl (by kernel_rfl) (by kernel_rfl) (fun wq hw => by go_simp) hHeld ?_
  simp only [Act.put, sQ1, sQ2, sQ3]
  refine dtk (i := 9) (v := .pointer (some ⟨g, k * 2 + 1, none⟩)) (some 26) rfl rfl (by kernel_rfl) (by kernel_rfl) (fun wq hw => by go_simp) hHeld ?_
  simp only [Act.put, sQ1, sQ2, sQ3]
  refine dtk (i := 10) (v := .slice (some ⟨fg, 0, none⟩) fl fcc) (some 27) rfl rfl (by kernel_rfl) (by kernel_rfl) (fun wq hw => by have q := (hw.cell (p := ⟨g, k * 2 + 1, none⟩) lg).trans c2; go_simp) hHeld ?_
  simp only [Act.put, sQ1, sQ2, sQ3]
  refine dtk (i := 12) (v := .pointer (some ⟨fg, i * 5, none⟩)) (some 29) rfl rfl (by kernel_rfl) (by kernel_rfl) (fun wq hw => by go_simp) hHeld ?_
  simp only [Act.put, sQ1, sQ2, sQ3]
  refine dtk (i := 13) (v := .pointer (some ⟨fg, i * 5, none⟩)) (some 30) rfl rfl (by kernel_rfl) (by kernel_rfl) (fun wq hw => by go_simp) hHeld ?_
  simp only [Act.put, sQ1, sQ2, sQ3]
  refine dtk (i := 14) (v := .slice (some ⟨q0, 0, none⟩) 128 qc) (some 31) rfl rfl (by kernel_rfl) (by kernel_rfl) (fun wq hw => by have q := (hw.cell (p := ⟨fg, i * 5, none⟩) lf).trans c3; go_simp) hHeld ?_
  simp only [Act.put, sQ1, sQ2, sQ3]
  refine wpAnyH_ready (rs := [15]) (by kernel_rfl) (by simp) ?_
  obtain ⟨q3, W3, hr3, hi3, hq3, hqs3, hg3⟩ := cpy w9 b1 he1_2 ⟨q0, 0, none⟩ qc zs (HZL.out) (fun j u hj => HSrc.out w9 hHeld j u hj)
  refine rdy_val (i := 15) rfl rfl (some 32) rfl (im q3) W3 (app_run3 (x := .tmp 17) (y := .tmp 31) rfl (by kernel_rfl) (by kernel_rfl) hr3) (hHeld.grown hg3 (lQ1 (lQ1 (hle0) hs1) hs2) (fun k hk => by cases hk; assumption)) (fun hHeld => ?_) rdy_nil
  simp only [Act.put, sQ1, sQ2, sQ3]
  clear hr3
  have hs3 : w9.heap.size ≤ W3.heap.size := hg3.size
  have hqn3 : n0 ≤ q3.1 := lQ1 (lQ1 (lQ1 (hle0) hs1) hs2) hq3
  refine dtk (i := 16) (v := im q3) (some 6) rfl rfl (by kernel_rfl) (by kernel_rfl) (fun wq hw => by go_simp) hHeld ?_
  simp only [Act.put, sQ1, sQ2, sQ3]
  refine dtk (i := 17) (v := .int .i64 0) (some 7) rfl rfl (by kernel_rfl) (by kernel_rfl) (fun wq hw => by go_simp) hHeld ?_
  simp only [Act.put, sQ1, sQ2, sQ3]
  refine wpAnyH_done (by kernel_rfl) ?_ _
  refine NoPanic.normal ?_
  have hKeep := hHeld
  clear hHeld
  go_wp2_with fail
  go_ret2
  exact ⟨q3, rfl, hi3, lQ1 HN0.out hqn3, HB0.out.trans (hKeep.mono HN0.out)⟩
 have HP1 := place_any Wd y F (some ⟨g, 0, none⟩) fc R room fuse (H.out.other (fun k hk => hHeld.block k (HFn.out k hk))) (fun k hk => lQ2 (HFn.out k hk) (hle0)) s hR
 rw [HPI.out] at HP1
 refine rdy_call (i := 7) rfl rfl (some 24) rfl 104 #[.pointer (some ⟨y, 0, none⟩), .string s] (call2_runY (x := 22) (y := 23) rfl (fun _ _ => rfl) (by kernel_rfl) (by kernel_rfl)) (fun r w9 => r = .int .i64 (k : Int) ∧ Below Wd.heap.size Wd w9) (HP1.mono (by rintro e w9 ⟨rfl, hb9⟩; exact ⟨_, rfl, rfl, hb9⟩)) (fun r w9 hR9 => ?_) rdy_nil
 obtain ⟨rfl, hb9⟩ := hR9
 refine ⟨hHeld.trans (hb9.mono (hle0)), fun hHeld => ?_⟩
 simp only [Act.put, sQ1, sQ2, sQ3]
 have hs1 : Wd.heap.size ≤ w9.heap.size := hb9.size
 refine dtk (i := 8) (v := .pointer (some ⟨g, k * 2, none⟩)) (some 25) rfl rfl (by kernel_rfl) (by kernel_rfl) (fun wq hw => by go_simp) hHeld ?_
 simp only [Act.put, sQ1, sQ2, sQ3]
 refine dtk (i := 9) (v := .pointer (some ⟨g, k * 2 + 1, none⟩)) (some 26) rfl rfl (by kernel_rfl) (by kernel_rfl) (fun wq hw => by go_simp) hHeld ?_
 simp only [Act.put, sQ1, sQ2, sQ3]
 refine dtk (i := 10) (v := .slice (some ⟨fg, 0, none⟩) fl fcc) (some 27) rfl rfl (by kernel_rfl) (by kernel_rfl) (fun wq hw => by have q := (hw.cell (p := ⟨g, k * 2 + 1, none⟩) lg).trans c2; go_simp) hHeld ?_
 simp only [Act.put, sQ1, sQ2, sQ3]
 refine dtk (i := 12) (v := .pointer (some ⟨fg, i * 5, none⟩)) (some 29) rfl rfl (by kernel_rfl) (by kernel_rfl) (fun wq hw => by go_simp) hHeld ?_
 simp only [Act.put, sQ1, sQ2, sQ3]
 refine dtk (i := 13) (v := .pointer (some ⟨fg, i * 5, none⟩)) (some 30) rfl rfl (by kernel_rfl) (by kernel_rfl) (fun wq hw => by go_simp) hHeld ?_
 simp only [Act.put, sQ1, sQ2, sQ3]
 refine dtk (i := 14) (v := .slice (some ⟨q0, 0, none⟩) 128 qc) (some 31) rfl rfl (by kernel_rfl) (by kernel_rfl) (fun wq hw => by have q := (hw.cell (p := ⟨fg, i * 5, none⟩) lf).trans c3; go_simp) hHeld ?_
 simp only [Act.put, sQ1, sQ2, sQ3]
 refine wpAnyH_ready (rs := [0]) (by kernel_rfl) (by simp) ?_
 refine rdy_val (i := 0) rfl rfl (some 17) rfl (.slice (some ⟨w9.heap.size, 0, none⟩) 0 0) (w9.alloc (.cells #[] 5)) (mk0_run rfl) (hHeld.alloc (lQ1 (hle0) hs1) _) (fun hHeld => ?_) rdy_nil
 simp only [Act.put, sQ1, sQ2, sQ3]
 have he2 := heap_alloc_new w9 (.cells #[] 5)
 have hg2 : w9.grownBy (w9.alloc (.cells #[] 5)) none := grown_alloc w9 _
 obtain ⟨b2, hb2⟩ : ∃ b, b = w9.heap.size := ⟨_, rfl⟩
 obtain ⟨W2, hW2⟩ : ∃ W', W' = w9.alloc (.cells #[] 5) := ⟨_, rfl⟩
 rw [← hb2] at he2
 rw [← hW2] at hHeld he2 hg2
 rw [← hb2, ← hW2]
 have hn2 : n0 ≤ b2 := by rw [hb2]; exact lQ1 (hle0) hs1
 have hs2 : w9.heap.size ≤ W2.heap.size := hg2.size
 clear hW2
 refine wpAnyH_ready (rs := [15]) (by kernel_rfl) (by simp) ?_
 obtain ⟨q3, W3, hr3, hi3, hq3, hqs3, hg3⟩ := cpy W2 b2 he2 ⟨q0, 0, none⟩ qc zs (HZL.out) (fun j u hj => HSrc.out W2 hHeld j u hj)
 refine rdy_val (i := 15) rfl rfl (some 32) rfl (im q3) W3 (app_run3 (x := .tmp 17) (y := .tmp 31) rfl (by kernel_rfl) (by kernel_rfl) hr3) (hHeld.grown hg3 (lQ1 (lQ1 (hle0) hs1) hs2) (fun k hk => by cases hk; assumption)) (fun hHeld => ?_) rdy_nil
 simp only [Act.put, sQ1, sQ2, sQ3]
 clear hr3
 have hs3 : W2.heap.size ≤ W3.heap.size := hg3.size
 have hqn3 : n0 ≤ q3.1 := lQ1 (lQ1 (lQ1 (hle0) hs1) hs2) hq3
 refine dtk (i := 16) (v := im q3) (some 6) rfl rfl (by kernel_rfl) (by kernel_rfl) (fun wq hw => by go_simp) hHeld ?_
 simp only [Act.put, sQ1, sQ2, sQ3]
 refine dtk (i := 17) (v := .int .i64 0) (some 7) rfl rfl (by kernel_rfl) (by kernel_rfl) (fun wq hw => by go_simp) hHeld ?_
 simp only [Act.put, sQ1, sQ2, sQ3]
 refine wpAnyH_done (by kernel_rfl) ?_ _
 refine NoPanic.normal ?_
 have hKeep := hHeld
 clear hHeld
 go_wp2_with fail
 go_ret2
 exact ⟨q3, rfl, hi3, lQ1 HN0.out hqn3, HB0.out.trans (hKeep.mono HN0.out)⟩
end Go.Proofs.YtdppolelakbbiaaGreatDoor
