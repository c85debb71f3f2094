/- labels.Compare, slices.Equal of labels: contracts at any lists. -/
import Derived.Test.YtcjhkpcnhnnjbaaDoorLabCmp
import Derived.Lib.OthersKept
namespace Go.Proofs.YtcjhkpcnhnnjbaaDoor
open Go.RowKit
set_option linter.unusedVariables false

theorem labD_drop (ls : List Lab) (k : Nat) (h : k < ls.length) : ls.drop k = labD ls k :: ls.drop (k + 1) := by
  rw [List.drop_eq_getElem_cons h]
  unfold labD
  rw [List.getD_eq_getElem?_getD, List.getElem?_eq_getElem h]
  rfl
theorem cmpL_step (a b : List Lab) (k : Nat) (ha : k < a.length) (hb : k < b.length) : cmpL (a.drop k) (b.drop k) = if cmpOne (labD a k) (labD b k) = 0 then cmpL (a.drop (k + 1)) (b.drop (k + 1)) else cmpOne (labD a k) (labD b k) := by
  rw [labD_drop a k ha, labD_drop b k hb]; rfl
theorem cmpL_over (a b : List Lab) (k : Nat) (ha : k < a.length) (hb : b.length ≤ k) : cmpL (a.drop k) (b.drop k) = 1 := by
  rw [labD_drop a k ha, List.drop_of_length_le hb]; rfl
theorem cmpL_under (a b : List Lab) (k : Nat) (ha : a.length ≤ k) (hb : k < b.length) : cmpL (a.drop k) (b.drop k) = -1 := by
  rw [labD_drop b k hb, List.drop_of_length_le ha]; rfl
theorem cmpL_both (a b : List Lab) (k : Nat) (ha : a.length ≤ k) (hb : b.length ≤ k) : cmpL (a.drop k) (b.drop k) = 0 := by
  rw [List.drop_of_length_le ha, List.drop_of_length_le hb]; rfl

set_option maxHeartbeats 4000000 in
set_option maxRecDepth 100000 in
theorem cmpFunc_any (a : Option Addr) (len cap : Nat) (la : List Lab) (b : Option Addr) (len' cap' : Nat) (lb : List Lab) (w : World) (h : Ls w a len la) (h' : Ls w b len' lb) (hr : len ≤ 140737488355328) (hr' : len' ≤ 140737488355328) :
    Calls Tryd.prog 64 #[.slice a len cap, .slice b len' cap', .func (.func 65) #[] #[]] w fun e w' => e = .returned (.int .i64 (cmpL la lb)) ∧ Below w.heap.size w w' := by
  have e : ∀ n, cmpL la lb = n → (Ending.returned (.int .i64 n) = Ending.returned (.int .i64 (cmpL la lb))) := fun b h => by rw [h]
  have HE := hidn e
  have hl := hidn h.1
  have hl' := hidn h'.1
  clear e
  go_enter Tryd.func64, Tryd.ntmps64
  go_wp2
  go_loopw [13] (fun i wr => ∃ k : Nat, k ≤ len ∧ i = .int .i64 k ∧ Below w.heap.size w wr ∧ Hid (cmpL la lb = cmpL (la.drop k) (lb.drop k))) (fun i wr => len - (intOf i).toNat)
  case atStart => exact ⟨0, Nat.zero_le _, rfl, Below.refl _ _, rfl⟩
  case round =>
    obtain ⟨k, hk, rfl, hbl, hn⟩ := hrel
    by_cases hlt : k < len
    · obtain ⟨ba, offa, rfl, hba, hca⟩ := h.pos (by omega)
      obtain ⟨c0, c1⟩ := hca k hlt
      have c0' : wr.cell? ⟨ba, offa + k * 2, none⟩ = some (.string (labD la k).1) := (hbl.cell (p := ⟨ba, offa + k * 2, none⟩) hba).trans c0
      have c1' : wr.cell? ⟨ba, offa + k * 2 + 1, none⟩ = some (.string (labD la k).2) := (hbl.cell (p := ⟨ba, offa + k * 2 + 1, none⟩) hba).trans c1
      have hsw : w.heap.size ≤ wr.heap.size := hbl.size
      clear c0 c1 hca
      by_cases hlt' : k < len'
      · obtain ⟨bb, offb, rfl, hbb, hcb⟩ := h'.pos (by omega)
        obtain ⟨d0, d1⟩ := hcb k hlt'
        have d0' : wr.cell? ⟨bb, offb + k * 2, none⟩ = some (.string (labD lb k).1) := (hbl.cell (p := ⟨bb, offb + k * 2, none⟩) hbb).trans d0
        have d1' : wr.cell? ⟨bb, offb + k * 2 + 1, none⟩ = some (.string (labD lb k).2) := (hbl.cell (p := ⟨bb, offb + k * 2 + 1, none⟩) hbb).trans d1
        clear d0 d1 hcb
        have HST := hidn (cmpL_step la lb k (by rw [hl.out]; exact hlt) (by rw [hl'.out]; exact hlt'))
        have q0 : (wr.alloc (.cells #[.string (labD la k).1, .string (labD la k).2] 72)).cell? ⟨bb, offb + k * 2, none⟩ = some (.string (labD lb k).1) := Lib.cell?_alloc_some _ d0'
        have q1 : (wr.alloc (.cells #[.string (labD la k).1, .string (labD la k).2] 72)).cell? ⟨bb, offb + k * 2 + 1, none⟩ = some (.string (labD lb k).2) := Lib.cell?_alloc_some _ d1'
        generalize hx : labD la k = x at *
        generalize hy : labD lb k = y at *
        obtain ⟨x1, x2⟩ := x
        obtain ⟨y1, y2⟩ := y
        have HX := hidn hx
        have HY := hidn hy
        clear hx hy
        dsimp only at c0' c1' d0' d1' q0 q1
        go_wp2_with fail
        refine (one_any (x1, x2) (y1, y2) _).mono ?_
        rintro e w1 ⟨rfl, hb1⟩
        have hbl1 : Below w.heap.size w w1 := ((hbl.alloc hsw _).alloc (by simp; omega) _).trans (hb1.mono (by simp; omega))
        have HC := hidn (show cmpL la lb = if cmpOne (x1, x2) (y1, y2) = 0 then cmpL (la.drop (k + 1)) (lb.drop (k + 1)) else cmpOne (x1, x2) (y1, y2) from hn.out.trans HST.out)
        clear hn HST
        by_cases hz : cmpOne (x1, x2) (y1, y2) = 0
        · have HC2 : Hid (cmpL la lb = cmpL (la.drop (k + 1)) (lb.drop (k + 1))) := hidn (by rw [HC.out, if_pos hz])
          rw [hz]
          clear hz HC
          go_wp2
          exact ⟨⟨k + 1, by omega, by go_num, hbl1, HC2⟩, by simp [intOf]; omega⟩
        · have HC2 : Hid (cmpL la lb = cmpOne (x1, x2) (y1, y2)) := hidn (by rw [HC.out, if_neg hz])
          have hz' : (cmpOne (x1, x2) (y1, y2) == 0) = false := beq_eq_false_iff_ne.2 hz
          clear hz HC
          generalize cmpOne (x1, x2) (y1, y2) = z at *
          go_wp2
          go_ret
          exact ⟨HE.out _ HC2.out, hbl1⟩
      · have HC := hidn (hn.out.trans (cmpL_over la lb k (by rw [hl.out]; exact hlt) (by rw [hl'.out]; omega)))
        have hge : (len' : Int) ≤ (k : Int) := by omega
        have hge' : len' ≤ k := by omega
        generalize hx : labD la k = x at *
        obtain ⟨x1, x2⟩ := x
        clear hx hn hlt'
        dsimp only at c0' c1'
        go_wp2
        go_ret
        exact ⟨HE.out _ HC.out, hbl.alloc hsw _⟩
    · obtain rfl : k = len := by omega
      by_cases hlt' : k < len'
      · have HC := hidn (hn.out.trans (cmpL_under la lb k (by rw [hl.out]; omega) (by rw [hl'.out]; omega)))
        clear hn
        have g : (k : Int) < (len' : Int) := by omega
        go_wp2
        go_ret
        exact ⟨HE.out _ HC.out, hbl⟩
      · have HC := hidn (hn.out.trans (cmpL_both la lb k (by rw [hl.out]; omega) (by rw [hl'.out]; omega)))
        clear hn
        have g : ¬ (k : Int) < (len' : Int) := by omega
        go_wp2
        go_ret
        exact ⟨HE.out _ HC.out, hbl⟩

set_option maxHeartbeats 1000000 in
theorem compare_any (a : Option Addr) (len cap : Nat) (la : List Lab) (b : Option Addr) (len' cap' : Nat) (lb : List Lab) (w : World) (h : Ls w a len la) (h' : Ls w b len' lb) (hr : len ≤ 140737488355328) (hr' : len' ≤ 140737488355328) :
    Calls Tryd.prog 36 #[.slice a len cap, .slice b len' cap'] w fun e w' => e = .returned (.int .i64 (cmpL la lb)) ∧ Below w.heap.size w w' := by
  go_enter Tryd.func36, Tryd.ntmps36
  go_wp2_with fail
  refine (cmpFunc_any a len cap la b len' cap' lb _ h h' hr hr').mono ?_
  rintro e w1 ⟨rfl, hb⟩
  go_wp2
  go_ret
  exact ⟨rfl, hb⟩

/-- Two lists from a place on, part by part. -/
def eqFrom (a b : List Lab) (k : Nat) : Prop := a.drop k = b.drop k
theorem eqFrom_step (a b : List Lab) (k : Nat) (ha : k < a.length) (hb : k < b.length) : a.drop k = b.drop k ↔ labD a k = labD b k ∧ a.drop (k + 1) = b.drop (k + 1) := by
  rw [labD_drop a k ha, labD_drop b k hb]; simp
end Go.Proofs.YtcjhkpcnhnnjbaaDoor
