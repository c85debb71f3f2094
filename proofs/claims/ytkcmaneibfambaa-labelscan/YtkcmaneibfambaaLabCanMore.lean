/- dryrotref07's Compare and Get, labels.Get: contracts at any lists. -/
import Derived.Test.YtkcmaneibfambaaLabCmpL
namespace Go.Proofs.Ytkcmaneibfambaa
open Go.RowKit
set_option linter.unusedVariables false

set_option maxHeartbeats 1000000 in
theorem refTexts_any (a b : ByteArray) (w : World) :
    Calls Try.prog 37 #[.string a, .string b] w fun e w' => e = .returned (.int .i64 (cmpS a b)) ∧ w' = w := by
  have e : ∀ n, cmpS a b = n → (Ending.returned (.int .i64 n) = Ending.returned (.int .i64 (cmpS a b))) := fun b h => by rw [h]
  by_cases h1 : Op.bytesLess a.toList b.toList = true
  · go_enter Try.func37, Try.ntmps37
    go_wp2
    go_ret
    exact ⟨e _ (by unfold cmpS cmpB; simp [h1]), rfl⟩
  · have h1' : Op.bytesLess a.toList b.toList = false := by simpa using h1
    by_cases h2 : (a.toList == b.toList) = true
    · have hn : Hid (cmpS a b = 0) := hidn (by
        unfold cmpS
        rw [beq_iff_eq.1 h2, cmpB_self])
      go_enter Try.func37, Try.ntmps37
      go_wp2
      go_ret
      exact ⟨e _ hn, rfl⟩
    · have h2' : (a.toList == b.toList) = false := by simpa using h2
      have hn : Hid (cmpS a b = 1) := hidn (by
        unfold cmpS cmpB
        have h3 : Op.bytesLess b.toList a.toList = true := by
          rw [← Bool.not_eq_false]; intro h3
          exact h2 (beq_iff_eq.2 (less_total _ _ h1' h3))
        simp [h1', h3])
      go_enter Try.func37, Try.ntmps37
      go_wp2
      go_ret
      exact ⟨e _ hn, rfl⟩

def getL : List Lab → ByteArray → ByteArray
  | [], _ => ⟨#[]⟩
  | x :: t, s => if x.1.toList == s.toList then x.2 else getL t s
theorem getL_step (a : List Lab) (s : ByteArray) (k : Nat) (ha : k < a.length) : getL (a.drop k) s = if (labD a k).1.toList == s.toList then (labD a k).2 else getL (a.drop (k + 1)) s := by
  rw [labD_drop a k ha]; rfl
theorem getL_end (a : List Lab) (s : ByteArray) (k : Nat) (ha : a.length ≤ k) : getL (a.drop k) s = ⟨#[]⟩ := by
  rw [List.drop_of_length_le ha]; rfl

set_option maxHeartbeats 2000000 in
theorem get_any (a : Option Addr) (len cap : Nat) (la : List Lab) (s : ByteArray) (w : World) (h : Ls w a len la) (hr : len ≤ 140737488355328) :
    Calls Try.prog 13 #[.slice a len cap, .string s] w fun e w' => e = .returned (.string (getL la s)) ∧ Below w.heap.size w w' := by
  have e : ∀ n, getL la s = n → (Ending.returned (.string n) = Ending.returned (.string (getL la s))) := fun b h => by rw [h]
  have HE := hidn e
  have hl := hidn h.1
  clear e
  go_enter Try.func13, Try.ntmps13
  go_wp2
  go_loopw [9] (fun i wr => ∃ k : Nat, k ≤ len ∧ i = .int .i64 k ∧ Below w.heap.size w wr ∧ Hid (getL la s = getL (la.drop k) s)) (fun i wr => len - (intOf i).toNat)
  case atStart => exact ⟨0, Nat.zero_le _, rfl, Below.refl _ _, rfl⟩
  case round =>
    obtain ⟨k, hk, rfl, hbl, hn⟩ := hrel
    by_cases hlt : k < len
    · obtain ⟨ba, offa, rfl, hba, hca⟩ := h.pos (by omega)
      obtain ⟨c0, c1⟩ := hca k hlt
      have c0' : wr.cell? ⟨ba, offa + k * 2, none⟩ = some (.string (labD la k).1) := (hbl.cell (p := ⟨ba, offa + k * 2, none⟩) hba).trans c0
      have c1' : wr.cell? ⟨ba, offa + k * 2 + 1, none⟩ = some (.string (labD la k).2) := (hbl.cell (p := ⟨ba, offa + k * 2 + 1, none⟩) hba).trans c1
      have hsw : w.heap.size ≤ wr.heap.size := hbl.size
      have HST := hidn (hn.out.trans (getL_step la s k (by rw [hl.out]; exact hlt)))
      clear c0 c1 hca hn
      generalize hx : labD la k = x at *
      obtain ⟨x1, x2⟩ := x
      clear hx
      dsimp only at c0' c1'
      by_cases hq : (x1.toList == s.toList) = true
      · have HC : Hid (getL la s = x2) := hidn (by rw [HST.out, if_pos hq])
        go_wp2
        go_ret
        exact ⟨HE.out _ HC.out, hbl.alloc hsw _⟩
      · have hq' : (x1.toList == s.toList) = false := by simpa using hq
        have HC : Hid (getL la s = getL (la.drop (k + 1)) s) := hidn (by rw [HST.out, if_neg hq])
        clear hq HST
        go_wp2
        exact ⟨⟨k + 1, by omega, by go_num, hbl.alloc hsw _, HC⟩, by simp [intOf]; omega⟩
    · have HC := hidn (hn.out.trans (getL_end la s k (by rw [hl.out]; omega)))
      clear hn
      go_wp2
      go_ret
      exact ⟨HE.out _ HC.out, hbl⟩

set_option maxHeartbeats 2000000 in
theorem refGet_any (a : Option Addr) (len cap : Nat) (la : List Lab) (s : ByteArray) (w : World) (h : Ls w a len la) (hr : len ≤ 140737488355328) :
    Calls Try.prog 14 #[.slice a len cap, .string s] w fun e w' => e = .returned (.string (getL la s)) ∧ Below w.heap.size w w' := by
  have e : ∀ n, getL la s = n → (Ending.returned (.string n) = Ending.returned (.string (getL la s))) := fun b h => by rw [h]
  have HE := hidn e
  have hl := hidn h.1
  clear e
  go_enter Try.func14, Try.ntmps14
  go_wp2
  go_loopw [9] (fun i wr => ∃ k : Nat, k ≤ len ∧ i = .int .i64 k ∧ Below w.heap.size w wr ∧ Hid (getL la s = getL (la.drop k) s)) (fun i wr => len - (intOf i).toNat)
  case atStart => exact ⟨0, Nat.zero_le _, rfl, Below.refl _ _, rfl⟩
  case round =>
    obtain ⟨k, hk, rfl, hbl, hn⟩ := hrel
    by_cases hlt : k < len
    · obtain ⟨ba, offa, rfl, hba, hca⟩ := h.pos (by omega)
      obtain ⟨c0, c1⟩ := hca k hlt
      have c0' : wr.cell? ⟨ba, offa + k * 2, none⟩ = some (.string (labD la k).1) := (hbl.cell (p := ⟨ba, offa + k * 2, none⟩) hba).trans c0
      have c1' : wr.cell? ⟨ba, offa + k * 2 + 1, none⟩ = some (.string (labD la k).2) := (hbl.cell (p := ⟨ba, offa + k * 2 + 1, none⟩) hba).trans c1
      have hsw : w.heap.size ≤ wr.heap.size := hbl.size
      have HST := hidn (hn.out.trans (getL_step la s k (by rw [hl.out]; exact hlt)))
      clear c0 c1 hca hn
      generalize hx : labD la k = x at *
      obtain ⟨x1, x2⟩ := x
      clear hx
      dsimp only at c0' c1'
      by_cases hq : (x1.toList == s.toList) = true
      · have HC : Hid (getL la s = x2) := hidn (by rw [HST.out, if_pos hq])
        go_wp2
        go_ret
        exact ⟨HE.out _ HC.out, hbl.alloc hsw _⟩
      · have hq' : (x1.toList == s.toList) = false := by simpa using hq
        have HC : Hid (getL la s = getL (la.drop (k + 1)) s) := hidn (by rw [HST.out, if_neg hq])
        clear hq HST
        go_wp2
        exact ⟨⟨k + 1, by omega, by go_num, hbl.alloc hsw _, HC⟩, by simp [intOf]; omega⟩
    · have HC := hidn (hn.out.trans (getL_end la s k (by rw [hl.out]; omega)))
      clear hn
      go_wp2
      go_ret
      exact ⟨HE.out _ HC.out, hbl⟩

set_option maxHeartbeats 4000000 in
set_option maxRecDepth 100000 in
theorem refCompare_any (a : Option Addr) (len cap : Nat) (la : List Lab) (b : Option Addr) (len' cap' : Nat) (lb : List Lab) (w : World) (h : Ls w a len la) (h' : Ls w b len' lb) (hr : len ≤ 140737488355328) (hr' : len' ≤ 140737488355328) :
    Calls Try.prog 12 #[.slice a len cap, .slice b len' cap'] w fun e w' => e = .returned (.int .i64 (cmpL la lb)) ∧ Below w.heap.size w w' := by
  have e : ∀ n, cmpL la lb = n → (Ending.returned (.int .i64 n) = Ending.returned (.int .i64 (cmpL la lb))) := fun b h => by rw [h]
  have HE := hidn e
  have hl := hidn h.1
  have hl' := hidn h'.1
  clear e
  obtain ⟨mn, hmn⟩ : ∃ mn, mn = min len len' := ⟨_, rfl⟩
  have hmin : (if (len' : Int) < (len : Int) then (len' : Int) else (len : Int)) = (mn : Int) := by split <;> omega
  have hmin' : (if len' < len then (len' : Int) else (len : Int)) = (mn : Int) := by split <;> omega
  have hm1 : mn ≤ len := by omega
  have hm2 : mn ≤ len' := by omega
  have hm3 : mn = len ∨ mn = len' := by omega
  clear hmn
  go_enter Try.func12, Try.ntmps12
  go_wp2
  go_loopw [13] (fun i wr => ∃ k : Nat, k ≤ mn ∧ i = .int .i64 k ∧ Below w.heap.size w wr ∧ Hid (cmpL la lb = cmpL (la.drop k) (lb.drop k))) (fun i wr => mn - (intOf i).toNat)
  case atStart => exact ⟨0, Nat.zero_le _, rfl, Below.refl _ _, rfl⟩
  case round =>
    clear hmin hmin'
    obtain ⟨k, hk, rfl, hbl, hn⟩ := hrel
    by_cases hlt : k < mn
    · have hlt1 : k < len := by omega
      have hlt2 : k < len' := by omega
      obtain ⟨ba, offa, rfl, hba, hca⟩ := h.pos (by omega)
      obtain ⟨bb, offb, rfl, hbb, hcb⟩ := h'.pos (by omega)
      obtain ⟨c0, c1⟩ := hca k hlt1
      have c0' : wr.cell? ⟨ba, offa + k * 2, none⟩ = some (.string (labD la k).1) := (hbl.cell (p := ⟨ba, offa + k * 2, none⟩) hba).trans c0
      have c1' : wr.cell? ⟨ba, offa + k * 2 + 1, none⟩ = some (.string (labD la k).2) := (hbl.cell (p := ⟨ba, offa + k * 2 + 1, none⟩) hba).trans c1
      obtain ⟨d0, d1⟩ := hcb k hlt2
      have d0' : wr.cell? ⟨bb, offb + k * 2, none⟩ = some (.string (labD lb k).1) := (hbl.cell (p := ⟨bb, offb + k * 2, none⟩) hbb).trans d0
      have d1' : wr.cell? ⟨bb, offb + k * 2 + 1, none⟩ = some (.string (labD lb k).2) := (hbl.cell (p := ⟨bb, offb + k * 2 + 1, none⟩) hbb).trans d1
      have HST := hidn (hn.out.trans (cmpL_step la lb k (by rw [hl.out]; exact hlt1) (by rw [hl'.out]; exact hlt2)))
      clear c0 c1 d0 d1 hca hcb hn
      generalize hx : labD la k = x at *
      generalize hy : labD lb k = y at *
      obtain ⟨x1, x2⟩ := x
      obtain ⟨y1, y2⟩ := y
      clear hx hy
      dsimp only at c0' c1' d0' d1'
      have HO : Hid (cmpOne (x1, x2) (y1, y2) = if cmpS x1 y1 = 0 then cmpS x2 y2 else cmpS x1 y1) := hidn rfl
      go_wp2
      go_quiet ((go_at_call 37; exact Calls.quiet_of_same (refTexts_any _ _ _)))
      by_cases hz : cmpS x1 y1 = 0
      · rw [hz]
        obtain ⟨w2, hw2⟩ : ∃ w2, w2 = wr.drewN nq := ⟨_, rfl⟩
        have c1'' : w2.cell? ⟨ba, offa + k * 2 + 1, none⟩ = some (.string x2) := by rw [hw2]; exact c1'
        have d1'' : w2.cell? ⟨bb, offb + k * 2 + 1, none⟩ = some (.string y2) := by rw [hw2]; exact d1'
        have hbl2 : Below w.heap.size w w2 := by rw [hw2]; exact below_drewN hbl _
        rw [← hw2]
        clear hw2 c0' c1' d0' d1'
        go_wp2
        go_quiet ((go_at_call 37; exact Calls.quiet_of_same (refTexts_any _ _ _)))
        by_cases hz2 : cmpS x2 y2 = 0
        · have HC : Hid (cmpL la lb = cmpL (la.drop (k + 1)) (lb.drop (k + 1))) := hidn (by rw [HST.out, HO.out, if_pos hz, if_pos hz2])
          rw [hz2]
          clear hz hz2 HST HO
          go_wp2
          exact ⟨⟨k + 1, by omega, by go_num, below_drewN hbl2 _, HC⟩, by simp [intOf]; omega⟩
        · have HC : Hid (cmpL la lb = cmpS x2 y2) := hidn (by rw [HST.out, HO.out, if_pos hz, if_neg hz2])
          have hz2' : (cmpS x2 y2 == 0) = false := beq_eq_false_iff_ne.2 hz2
          clear hz hz2 HST HO
          generalize cmpS x2 y2 = z at *
          go_wp2
          go_ret
          exact ⟨HE.out _ HC.out, below_drewN hbl2 _⟩
      · have HC : Hid (cmpL la lb = cmpS x1 y1) := hidn (by rw [HST.out, HO.out, if_neg hz, if_neg hz])
        have hz' : (cmpS x1 y1 == 0) = false := beq_eq_false_iff_ne.2 hz
        clear hz HST HO
        generalize cmpS x1 y1 = z at *
        go_wp2
        go_ret
        exact ⟨HE.out _ HC.out, below_drewN hbl _⟩
    · obtain rfl : k = mn := by omega
      by_cases hlt' : len < len'
      · have HC := hidn (hn.out.trans (cmpL_under la lb k (by rw [hl.out]; omega) (by rw [hl'.out]; omega)))
        clear hn
        have g : (len : Int) < (len' : Int) := by omega
        go_wp2
        go_ret
        exact ⟨HE.out _ HC.out, hbl⟩
      · have g : ¬ (len : Int) < (len' : Int) := by omega
        by_cases hgt : len' < len
        · have HC := hidn (hn.out.trans (cmpL_over la lb k (by rw [hl.out]; omega) (by rw [hl'.out]; omega)))
          clear hn
          have g2 : (len' : Int) < (len : Int) := by omega
          go_wp2
          go_ret
          exact ⟨HE.out _ HC.out, hbl⟩
        · have HC := hidn (hn.out.trans (cmpL_both la lb k (by rw [hl.out]; omega) (by rw [hl'.out]; omega)))
          clear hn
          have g2 : ¬ (len' : Int) < (len : Int) := by omega
          go_wp2
          go_ret
          exact ⟨HE.out _ HC.out, hbl⟩
end Go.Proofs.Ytkcmaneibfambaa
