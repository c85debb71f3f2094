/- The document's disk: New, IsName, stops, Fuse, Free, Extents, List. -/
import Derived.Test.YtocfbokgbpaneaaRyA
import Derived.Test.YtocfbokgbpaneaaAppK
namespace Go.Proofs.Ytocfbokgbpaneaa
open Go.RowKit Go.Maps
set_option linter.unusedVariables false

theorem name_all {l : List UInt8} (h : (l.all fun c => inB c.toNat) = false) : nameB l = false := by
  unfold nameB
  rw [h, Bool.and_false]

set_option maxHeartbeats 4000000 in
theorem isNameY_any (w : World) (s : ByteArray) (hm : s.size ≤ maxLen) :
    Calls Try.prog 43 #[.string s] w fun e w' => e = .returned (.bool (nameB s.data.toList)) ∧ w' = w := by
  unfold maxLen at hm
  have hln : s.data.toList.length = s.size := Array.length_toList
  have HLN := hidn hln
  clear hln
  go_enter Try.func43, Try.ntmps43
  go_wp2
  go_loop [3] (fun iv => ∃ k : Nat, k ≤ s.size ∧ iv = .int .i64 k ∧ Hid (((s.data.toList.take k).all fun c => inB c.toNat) = true)) (fun iv => s.size - (intOf iv).toNat)
  case atStart => exact ⟨0, Nat.zero_le _, rfl, hidn rfl⟩
  case round =>
    obtain ⟨k, hk, rfl, HA⟩ := hrel
    by_cases hlt : k < s.size
    · have hlt' : (k : Int) < (s.size : Int) := by omega
      have hstep : ((s.data.toList.take (k + 1)).all fun c => inB c.toNat) = inB s[k].toNat := by
        have hl : k < s.data.toList.length := hlt
        rw [List.take_succ_eq_append_getElem hl, List.all_append, HA.out, Bool.true_and]
        simp
        rfl
      have hfull : inB s[k].toNat = false → (s.data.toList.all fun c => inB c.toNat) = false := by
        intro hf
        rw [← hstep] at hf
        rw [Bool.eq_false_iff] at hf ⊢
        intro ha
        exact hf (List.all_eq_true.2 fun c hc => List.all_eq_true.1 ha c (List.mem_of_mem_take hc))
      have hc := s[k].toNat_lt
      have HS := hidn hstep
      have HF := hidn hfull
      clear hstep hfull HA
      by_cases h1 : 97 ≤ s[k].toNat ∧ s[k].toNat ≤ 122
      · have hin : inB s[k].toNat = true := by unfold inB; simp; omega
        have q0 : decide ((s[k].toNat : Int) < 97) = false := by simp; omega
        have q1 : decide ((122 : Int) < (s[k].toNat : Int)) = false := by simp; omega
        have q2 : decide (s[k].toNat < 97) = false := by simp; omega
        have q3 : decide (122 < s[k].toNat) = false := by simp; omega
        have HB : Hid (inB s[k].toNat = true) := hidn hin
        clear hin
        go_wp2
        go_round
        case rel => exact ⟨k + 1, by omega, by go_num, hidn (by rw [HS.out]; exact HB.out)⟩
        case measure => simp [intOf]; omega
      by_cases h2 : 48 ≤ s[k].toNat ∧ s[k].toNat ≤ 57
      · have hin : inB s[k].toNat = true := by unfold inB; simp; omega
        have q0 : decide ((s[k].toNat : Int) < 97) = true := by simp; omega
        have q1 : decide ((s[k].toNat : Int) < 48) = false := by simp; omega
        have q2 : decide ((57 : Int) < (s[k].toNat : Int)) = false := by simp; omega
        have q3 : decide (s[k].toNat < 97) = true := by simp; omega
        have q4 : decide (s[k].toNat < 48) = false := by simp; omega
        have q5 : decide (57 < s[k].toNat) = false := by simp; omega
        have HB : Hid (inB s[k].toNat = true) := hidn hin
        clear hin
        go_wp2
        go_round
        case rel => exact ⟨k + 1, by omega, by go_num, hidn (by rw [HS.out]; exact HB.out)⟩
        case measure => simp [intOf]; omega
      by_cases h46 : s[k].toNat = 46
      · have hin : inB s[k].toNat = true := by unfold inB; simp; omega
        have q0 : decide ((s[k].toNat : Int) < 97) = true := by simp; omega
        have q1 : decide ((s[k].toNat : Int) < 48) = true := by simp; omega
        have q2 : decide (s[k].toNat < 97) = true := by simp; omega
        have q3 : decide (s[k].toNat < 48) = true := by simp; omega
        have q4 : ((s[k].toNat : Int) != 46) = false := by simp [h46]
        have HB : Hid (inB s[k].toNat = true) := hidn hin
        clear hin
        go_wp2
        go_round
        case rel => exact ⟨k + 1, by omega, by go_num, hidn (by rw [HS.out]; exact HB.out)⟩
        case measure => simp [intOf]; omega
      have hin : inB s[k].toNat = false := by unfold inB; simp; omega
      by_cases h3 : s[k].toNat < 48
      · skip
        have q0 : decide ((s[k].toNat : Int) < 97) = true := by simp; omega
        have q1 : decide ((s[k].toNat : Int) < 48) = true := by simp; omega
        have q2 : decide (s[k].toNat < 97) = true := by simp; omega
        have q3 : decide (s[k].toNat < 48) = true := by simp; omega
        have q4 : ((s[k].toNat : Int) != 46) = true := by simp; omega
        have HB : Hid (nameB s.data.toList = false) := hidn (name_all (HF.out hin))
        clear hin
        go_wp2
        go_ret
        rw [HB.out]
        exact ⟨rfl, rfl⟩
      by_cases h4 : s[k].toNat < 97
      · skip
        have q0 : decide ((s[k].toNat : Int) < 97) = true := by simp; omega
        have q1 : decide ((s[k].toNat : Int) < 48) = false := by simp; omega
        have q2 : decide ((57 : Int) < (s[k].toNat : Int)) = true := by simp; omega
        have q3 : decide (s[k].toNat < 97) = true := by simp; omega
        have q4 : decide (s[k].toNat < 48) = false := by simp; omega
        have q5 : decide (57 < s[k].toNat) = true := by simp; omega
        have q6 : ((s[k].toNat : Int) != 46) = true := by simp; omega
        have HB : Hid (nameB s.data.toList = false) := hidn (name_all (HF.out hin))
        clear hin
        go_wp2
        go_ret
        rw [HB.out]
        exact ⟨rfl, rfl⟩
      · skip
        have q0 : decide ((s[k].toNat : Int) < 97) = false := by simp; omega
        have q1 : decide ((122 : Int) < (s[k].toNat : Int)) = true := by simp; omega
        have q2 : decide ((s[k].toNat : Int) < 48) = false := by simp; omega
        have q3 : decide ((57 : Int) < (s[k].toNat : Int)) = true := by simp; omega
        have q4 : decide (s[k].toNat < 97) = false := by simp; omega
        have q5 : decide (122 < s[k].toNat) = true := by simp; omega
        have q6 : decide (s[k].toNat < 48) = false := by simp; omega
        have q7 : decide (57 < s[k].toNat) = true := by simp; omega
        have q8 : ((s[k].toNat : Int) != 46) = true := by simp; omega
        have HB : Hid (nameB s.data.toList = false) := hidn (name_all (HF.out hin))
        clear hin
        go_wp2
        go_ret
        rw [HB.out]
        exact ⟨rfl, rfl⟩
    · obtain rfl : k = s.size := by omega
      have ha : nameB s.data.toList = decide (1 ≤ s.size ∧ s.size ≤ 24) := by
        have h1 := HA.out
        rw [List.take_of_length_le (by rw [HLN.out]; exact Nat.le_refl _)] at h1
        unfold nameB
        rw [h1, Bool.and_true, HLN.out]
      have HN := hidn ha
      clear ha HA
      by_cases h1 : 1 ≤ s.size
      · have e1 : decide ((1 : Int) ≤ (s.size : Int)) = true := by simp; omega
        by_cases h2 : s.size ≤ 24
        · have e2 : decide ((s.size : Int) ≤ 24) = true := by simp; omega
          have hr : decide (1 ≤ s.size ∧ s.size ≤ 24) = true := by simp; omega
          have HR := hidn hr
          clear hr
          go_wp2
          go_ret
          rw [HN.out, HR.out]
          exact ⟨rfl, rfl⟩
        · have e2 : decide ((s.size : Int) ≤ 24) = false := by simp; omega
          have hr : decide (1 ≤ s.size ∧ s.size ≤ 24) = false := by simp; omega
          have HR := hidn hr
          clear hr
          go_wp2
          go_ret
          rw [HN.out, HR.out]
          exact ⟨rfl, rfl⟩
      · have e1 : decide ((1 : Int) ≤ (s.size : Int)) = false := by simp; omega
        have hr : decide (1 ≤ s.size ∧ s.size ≤ 24) = false := by simp; omega
        have HR := hidn hr
        clear hr
        go_wp2
        go_ret
        rw [HN.out, HR.out]
        exact ⟨rfl, rfl⟩

theorem tyDF : (52 : Nat) ≠ 55 ∧ (52 : Nat) ≠ 57 ∧ (52 : Nat) ≠ 5 ∧ (55 : Nat) ≠ 57 ∧ (55 : Nat) ≠ 5 ∧ (57 : Nat) ≠ 5 := by decide

theorem own_ty {w : World} {base e size n : Nat} {v : Value} {xs : List Value} (h : w.ownsRow base e size v n xs) {g : Nat} (hg : v.ownBlock = some g) : ∃ cur, w.heap[g]? = some (.cells cur e (0, 0)) := by
  rcases h.2 with ⟨rfl, _⟩ | ⟨g', cap, cur, rfl, _, hh, _⟩
  · cases hg
  · cases hg
    exact ⟨cur, hh⟩

theorem own_ne {w : World} {base e size n : Nat} {v : Value} {xs : List Value} (h : w.ownsRow base e size v n xs) {g : Nat} (hg : v.ownBlock = some g) {k : Nat} {cs : Array Value} {t : TypeId} {fz : Nat × Nat} (hk : w.heap[k]? = some (.cells cs t fz)) (hne : e ≠ t) : g ≠ k := by
  rintro rfl
  obtain ⟨cur, hh⟩ := own_ty h hg
  rw [hh] at hk
  cases hk
  exact hne rfl

theorem own_ne2 {w : World} {base e size n base' e' size' n' : Nat} {v v' : Value} {xs xs' : List Value} (h : w.ownsRow base e size v n xs) (h' : w.ownsRow base' e' size' v' n' xs') {g g' : Nat} (hg : v.ownBlock = some g) (hg' : v'.ownBlock = some g') (hne : e ≠ e') : g ≠ g' := by
  obtain ⟨cur, hh⟩ := own_ty h' hg'
  exact own_ne h hg hh hne

/-- The disk's own block is turned, and nothing else. -/
theorem RyOf.turnY {w w' : World} {y : Nat} {F : Nat → Prop} {fa : Option Addr} {fc : Nat} {R : List Yf} {room fuse fuse' : Int} (h : RyOf w y F fa fc R room fuse) (hy : w'.heap[y]? = some (.cells #[.int .i64 room, .slice fa R.length fc, .int .i64 fuse'] 52 (0, 0))) (hb : ∀ k, k ≠ y → w'.heap[k]? = w.heap[k]?) : RyOf w' y F fa fc R room fuse' where
  disk := hy
  files := own_other h.files (fun g hg => hb g (own_ne h.files hg h.disk (Ne.symm tyDF.1)))
  rows := fun f hf => own_other (h.rows f hf) (fun g hg => hb g (own_ne (h.rows f hf) hg h.disk (Ne.symm tyDF.2.1)))
  ims := fun f hf c hc => by
    obtain ⟨a0, a1, a2, a3⟩ := h.ims f hf c hc
    exact ⟨own_other a0 (fun g hg => hb g (own_ne a0 hg h.disk (Ne.symm tyDF.2.2.1))), own_other a1 (fun g hg => hb g (own_ne a1 hg h.disk (Ne.symm tyDF.2.2.1))), own_other a2 (fun g hg => hb g (own_ne a2 hg h.disk (Ne.symm tyDF.2.2.1))), own_other a3 (fun g hg => hb g (own_ne a3 hg h.disk (Ne.symm tyDF.2.2.1)))⟩
  ok := h.ok
  apart := h.apart
  fy := h.fy
  ff := h.ff
  fr := h.fr
  fi := h.fi

theorem set3 {w : World} {y : Nat} {a b c v : Value} {t : TypeId} (h : w.heap[y]? = some (.cells #[a, b, c] t (0, 0))) : (w.setCell ⟨y, 2, none⟩ v).heap[y]? = some (.cells #[a, b, v] t (0, 0)) := by
  rw [setCell_eq_setRow _ _ _ _ _ _ _ h]
  exact setRow_heap _ _ _ _ _ _ h

theorem RyOf.fused {w : World} {y : Nat} {F : Nat → Prop} {fa : Option Addr} {fc : Nat} {R : List Yf} {room fuse : Int} (h : RyOf w y F fa fc R room fuse) (u : Int) : RyOf (w.setCell ⟨y, 2, none⟩ (.int .i64 u)) y F fa fc R room u :=
  h.turnY (set3 h.disk) (fun k hk => Below.heap_setCell w ⟨y, 2, none⟩ _ k hk)

theorem ryGr {F : Nat → Prop} {w : World} {y : Nat} (hy : F y) (j : Nat) (v : Value) : Gr F F w (w.setCell ⟨y, j, none⟩ v) := Gr.of ((Keeps.refl _ _).setCell (p := ⟨y, j, none⟩) hy v)

def burnY (fuse : Int) : Int := if fuse > 0 then fuse - 1 else fuse

set_option maxHeartbeats 1000000 in
theorem stops_yes (w : World) (y : Nat) (F : Nat → Prop) (fa : Option Addr) (fc : Nat) (R : List Yf) (room : Int) (h : RyOf w y F fa fc R room 0) :
    Calls Try.prog 44 #[.pointer (some ⟨y, 0, none⟩)] w fun e w' => e = .returned (.bool true) ∧ w' = w := by
  have c2 : w.cell? ⟨y, 2, none⟩ = some (.int .i64 0) := by rw [cell_of_row _ _ _ _ _ _ h.disk]; rfl
  go_enter Try.func44, Try.ntmps44
  go_wp2
  go_ret
  exact ⟨rfl, rfl⟩

set_option maxHeartbeats 1000000 in
theorem stops_no (w : World) (y : Nat) (F : Nat → Prop) (fa : Option Addr) (fc : Nat) (R : List Yf) (room fuse : Int) (h : RyOf w y F fa fc R room fuse) (h0 : fuse ≠ 0) (hf : -1 ≤ fuse) (hf2 : fuse ≤ 9223372036854775807) :
    Calls Try.prog 44 #[.pointer (some ⟨y, 0, none⟩)] w fun e w' => e = .returned (.bool false) ∧ RyOf w' y F fa fc R room (burnt fuse) ∧ Gr F F w w' ∧ w'.heap.size = w.heap.size := by
  have c2 : w.cell? ⟨y, 2, none⟩ = some (.int .i64 fuse) := by rw [cell_of_row _ _ _ _ _ _ h.disk]; rfl
  have f2 := frozen_of_row _ _ 2 _ _ h.disk
  have e0 : (fuse == 0) = false := beq_eq_false_iff_ne.2 h0
  have HY := hidn h.fy
  by_cases hp : 0 < fuse
  · have e1 : decide (0 < fuse) = true := by simpa using hp
    have hw : IntKind.i64.wrap (fuse - 1) = fuse - 1 := by rw [IntKind.wrap_i64]; omega
    have hb : burnt fuse = fuse - 1 := by unfold burnt; rw [if_neg (by omega)]
    have HB := hidn hb
    have HR := hidn (h.fused (fuse - 1))
    clear hb h h0 hf hf2 hp
    go_enter Try.func44, Try.ntmps44
    go_wp2
    go_ret
    rw [HB.out]
    exact ⟨rfl, HR.out, ryGr HY.out 2 _, by simp [World.setCell]⟩
  · have e1 : decide (0 < fuse) = false := by simpa using hp
    obtain rfl : fuse = -1 := by omega
    have HR := hidn h
    clear h hf hf2 hp h0
    go_enter Try.func44, Try.ntmps44
    go_wp2
    go_ret
    exact ⟨rfl, HR.out, Gr.refl _ _, rfl⟩

set_option maxHeartbeats 1000000 in
theorem fuseY_any (w : World) (y : Nat) (F : Nat → Prop) (fa : Option Addr) (fc : Nat) (R : List Yf) (room fuse : Int) (h : RyOf w y F fa fc R room fuse) (n : Int) :
    Calls Try.prog 26 #[.pointer (some ⟨y, 0, none⟩), .int .i64 n] w fun e w' => e = .returned (.int .i64 (if n < 0 then 1 else 0)) ∧ RyOf w' y F fa fc R room (if n < 0 then fuse else n) ∧ Gr F F w w' := by
  have c2 : w.cell? ⟨y, 2, none⟩ = some (.int .i64 fuse) := by rw [cell_of_row _ _ _ _ _ _ h.disk]; rfl
  have f2 := frozen_of_row _ _ 2 _ _ h.disk
  have HY := hidn h.fy
  by_cases hn : n < 0
  · have e1 : decide (n < 0) = true := by simpa using hn
    rw [if_pos hn, if_pos hn]
    have HR := hidn h
    clear h hn
    go_enter Try.func26, Try.ntmps26
    go_wp2
    go_ret
    exact ⟨rfl, HR.out, Gr.refl _ _⟩
  · have e1 : decide (n < 0) = false := by simpa using hn
    rw [if_neg hn, if_neg hn]
    have HR := hidn (h.fused n)
    clear h hn
    go_enter Try.func26, Try.ntmps26
    go_wp2
    go_ret
    exact ⟨rfl, HR.out, ryGr HY.out 2 _⟩

theorem ryNew {w : World} {room : Int} : RyOf (w.alloc (.cells #[.int .i64 room, .slice none 0 0, .int .i64 (-1)] 52)) w.heap.size (fun k => k = w.heap.size) none 0 [] room (-1) where
  disk := heap_alloc_new _ _
  files := World.ownsRow_nil _ _ _ _
  rows := fun f hf => by simp at hf
  ims := fun f hf => by simp at hf
  ok := fun f hf => by simp at hf
  apart := List.nodup_nil
  fy := rfl
  ff := fun x hx => by cases hx
  fr := fun f hf => by simp at hf
  fi := fun f hf => by simp at hf

set_option maxHeartbeats 1000000 in
theorem newY_yes (w : World) (r : Nat) (h : r ≤ 100000) :
    Calls Try.prog 10 #[.int .i64 r] w fun e w' => e = .returned (.tuple #[.pointer (some ⟨w.heap.size, 0, none⟩), .int .i64 0]) ∧ RyOf w' w.heap.size (fun k => k = w.heap.size) none 0 [] r (-1) ∧ Below w.heap.size w w' ∧ w'.heap.size = w.heap.size + 1 := by
  have h1 : ¬ ((r : Int) < 0) := by omega
  have h2 : ¬ ((100000 : Int) < r) := by omega
  go_enter Try.func10, Try.ntmps10
  go_wp2
  go_ret2
  exact ⟨rfl, ryNew, (Below.refl _ _).alloc (Nat.le_refl _) _, by simp⟩

set_option maxHeartbeats 1000000 in
theorem newY_no (w : World) (r : Int) (h : r < 0 ∨ 100000 < r) :
    Calls Try.prog 10 #[.int .i64 r] w fun e w' => e = .returned (.tuple #[.pointer none, .int .i64 1]) ∧ w' = w := by
  by_cases h0 : r < 0
  · have e1 : decide (r < 0) = true := by simpa using h0
    clear h h0
    go_enter Try.func10, Try.ntmps10
    go_wp2
    go_ret2
    exact ⟨rfl, rfl⟩
  · have e1 : decide (r < 0) = false := by simpa using h0
    have e2 : decide (100000 < r) = true := by simp; omega
    clear h h0
    go_enter Try.func10, Try.ntmps10
    go_wp2
    go_ret2
    exact ⟨rfl, rfl⟩

/-- How many extents all files have. -/
def sumL (R : List Yf) : Nat := (R.map fun f => f.l.length).sum

theorem sumL_take (R : List Yf) (k : Nat) (f : Yf) (h : R[k]? = some f) : sumL (R.take (k + 1)) = sumL (R.take k) + f.l.length := by
  unfold sumL
  have hk := (List.getElem?_eq_some_iff.1 h)
  rw [List.take_succ_eq_append_getElem hk.1, List.map_append, List.sum_append, hk.2]
  simp

theorem sumL_le (R : List Yf) (k : Nat) : sumL (R.take k) ≤ sumL R := by
  have h : sumL R = sumL (R.take k) + sumL (R.drop k) := by
    unfold sumL
    rw [← List.sum_append, ← List.map_append, List.take_append_drop]
  omega

set_option maxHeartbeats 2000000 in
theorem freeY_any (w : World) (y : Nat) (F : Nat → Prop) (fa : Option Addr) (fc : Nat) (R : List Yf) (room fuse : Int) (h : RyOf w y F fa fc R room fuse) (hF : ∀ k, F k → k < w.heap.size) (hR : R.length ≤ 1000000) (hr0 : 0 ≤ room) (hr1 : room ≤ 100000) (hs : sumL R ≤ 100000) :
    Calls Try.prog 31 #[.pointer (some ⟨y, 0, none⟩)] w fun e w' => e = .returned (.int .i64 (room - (sumL R : Int))) ∧ Below w.heap.size w w' := by
  have H := hidn h
  have HF := hidn hF
  have c0 : w.cell? ⟨y, 0, none⟩ = some (.int .i64 room) := by rw [cell_of_row _ _ _ _ _ _ h.disk]; rfl
  have c1 : w.cell? ⟨y, 1, none⟩ = some (.slice fa R.length fc) := by rw [cell_of_row _ _ _ _ _ _ h.disk]; rfl
  obtain ⟨n, hn⟩ : ∃ n, n = R.length := ⟨_, rfl⟩
  rw [← hn] at c1 hR
  have HN := hidn hn
  have HS := hidn hs
  clear h hF hn hs
  go_enter Try.func31, Try.ntmps31
  go_wp2_with fail
  clear c1 c0
  go_loopw [15, 3] (fun iv vr wr => ∃ (k : Nat) (m : Int), k ≤ n ∧ iv = .int .i64 (k : Int) ∧ vr = .int .i64 m ∧ Hid (m = room - (sumL (R.take k) : Int)) ∧ Hid (Below w.heap.size w wr)) (fun iv _ _ => n - (intOf iv).toNat)
  case atStart => exact ⟨0, room, Nat.zero_le _, rfl, rfl, hidn (by simp [sumL]), hidn (Below.refl _ _)⟩
  case round =>
    obtain ⟨k, m, hk, rfl, rfl, HM, HB⟩ := hrel
    by_cases hlt : k < n
    · have hlt2 : (k : Int) < (n : Int) := by omega
      obtain ⟨f, hf⟩ : ∃ f, R[k]? = some f := ⟨_, List.getElem?_eq_getElem (by rw [← HN.out]; exact hlt)⟩
      obtain ⟨g, hfa, hFg, hc0, hc1⟩ := (H.out.below HF.out HB.out).at hf
      subst hfa
      obtain ⟨fl, hfl⟩ : ∃ fl, fl = f.l.length := ⟨_, rfl⟩
      obtain ⟨m2, hm2⟩ : ∃ m2, m2 = m - (fl : Int) := ⟨_, rfl⟩
      have hst := sumL_take R k f hf
      have hle := sumL_le R (k + 1)
      have hM := HM.out
      have hSS := HS.out
      have hw : IntKind.i64.wrap (m - (fl : Int)) = m2 := by rw [IntKind.wrap_i64]; omega
      have HM2 : Hid (m2 = room - (sumL (R.take (k + 1)) : Int)) := hidn (by omega)
      unfold Yf.row at hc1
      rw [← hfl] at hc1
      have hm2b : m2 ≤ 100000 ∧ -100000 ≤ m2 := by omega
      have hmb : m ≤ 100000 ∧ -100000 ≤ m := by omega
      have hflb : fl ≤ 100000 := by omega
      clear hf hfl hFg hst hle hM hSS hm2
      go_wp2
      go_roundw
      case rel => exact ⟨k + 1, m2, hlt, by simp, rfl, HM2, hidn (HB.out.alloc HB.out.size _)⟩
      case measure => simp [intOf]; omega
    · have hlt2 : ¬ (k : Int) < (n : Int) := by omega
      have hkn : k = n := by omega
      have hp : m = room - (sumL R : Int) := by
        rw [HM.out, hkn, HN.out, List.take_length]
      have HP := hidn hp
      clear hp hkn
      go_wp2
      go_ret
      rw [HP.out]
      exact ⟨rfl, HB.out⟩

/-- The extents of a file. -/
def extY (R : List Yf) (s : ByteArray) : List Yc := match placeY R s with | some k => ((R[k]?).map Yf.l).getD [] | none => []

set_option maxHeartbeats 1000000 in
theorem extentsY_any (w : World) (y : Nat) (F : Nat → Prop) (fa : Option Addr) (fc : Nat) (R : List Yf) (room fuse : Int) (h : RyOf w y F fa fc R room fuse) (hF : ∀ k, F k → k < w.heap.size) (s : ByteArray) (hR : R.length ≤ 1000000) (n : Nat) (HN : Hid (n = (extY R s).length)) :
    Calls Try.prog 36 #[.pointer (some ⟨y, 0, none⟩), .string s] w fun e w' => e = .returned (.int .i64 (n : Int)) ∧ Below w.heap.size w w' := by
  have HPl := hidn (place_any w y F fa fc R room fuse h hF s hR)
  have H := hidn h
  have HF := hidn hF
  clear h hF
  cases hp : placeY R s with
  | none =>
    have e : placeI R s = -1 := by unfold placeI; rw [hp]
    have en : n = 0 := by rw [HN.out]; unfold extY; rw [hp]; rfl
    subst en
    rw [e] at HPl
    clear hp e
    go_enter Try.func36, Try.ntmps36
    go_wp2_with fail
    refine HPl.out.mono ?_
    rintro e w1 ⟨rfl, hb1⟩
    go_wp2
    go_ret
    exact ⟨rfl, hb1⟩
  | some k =>
    have e : placeI R s = (k : Int) := by unfold placeI; rw [hp]
    obtain ⟨f, hf, hfn⟩ := place_at hp
    have en : Hid (n = f.l.length) := hidn (by rw [HN.out]; unfold extY; rw [hp]; simp [hf])
    rw [e] at HPl
    have hkR := (List.getElem?_eq_some_iff.1 hf).1
    obtain ⟨N, hN⟩ : ∃ N, N = R.length := ⟨_, rfl⟩
    rw [← hN] at hkR hR
    have HNN := hidn hN
    have HFK := hidn hf
    have hk2 : (k : Int) < (N : Int) := by omega
    have hk0 : decide ((0 : Int) ≤ (k : Int)) = true := by simp
    clear hp e hf hfn hN
    go_enter Try.func36, Try.ntmps36
    go_wp2_with fail
    refine HPl.out.mono ?_
    rintro e w1 ⟨rfl, hb1⟩
    have h1 := H.out.below HF.out hb1
    have c1 : w1.cell? ⟨y, 1, none⟩ = some (.slice fa R.length fc) := by rw [cell_of_row _ _ _ _ _ _ h1.disk]; rfl
    obtain ⟨g, hfa, hFg, hc0, hc1⟩ := h1.at HFK.out
    subst hfa
    unfold Yf.row at hc1
    rw [← en.out] at hc1
    rw [← HNN.out] at c1
    clear h1 hc0 hFg HPl
    go_wp2
    go_ret
    exact ⟨rfl, hb1⟩
end Go.Proofs.Ytocfbokgbpaneaa
