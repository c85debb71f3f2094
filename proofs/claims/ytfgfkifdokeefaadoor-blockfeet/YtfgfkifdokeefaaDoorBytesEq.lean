/- slices.Clone, slices.Equal of bytes: contracts at any bytes. -/
import Derived.Test.YtfgfkifdokeefaaDoorBytes
import Derived.Test.YtfgfkifdokeefaaDoorCodInj
import Derived.BigQuiet
import Derived.Deep.QuietTactic
namespace Go.Proofs.YtfgfkifdokeefaaDoor.Cd
open Go.RowKit
set_option linter.unusedVariables false

theorem zs_drop (zs : List Nat) (k : Nat) (h : k < zs.length) : zs.drop k = zs.getD k 0 :: zs.drop (k + 1) := by
  rw [List.drop_eq_getElem_cons h, List.getD_eq_getElem?_getD, List.getElem?_eq_getElem h]; rfl
theorem zs_step (a b : List Nat) (k : Nat) (ha : k < a.length) (hb : k < b.length) : a.drop k = b.drop k ↔ a.getD k 0 = b.getD k 0 ∧ a.drop (k + 1) = b.drop (k + 1) := by
  rw [zs_drop a k ha, zs_drop b k hb]; simp

set_option maxHeartbeats 4000000 in
set_option maxRecDepth 100000 in
theorem equalB_any (a : Option Addr) (len cap : Nat) (la : List Nat) (b : Option Addr) (len' cap' : Nat) (lb : List Nat) (w : World) (h : Bs w a len la) (h' : Bs w b len' lb) (hr : len ≤ 140737488355328) (hr' : len' ≤ 140737488355328) :
    Calls Tryd.prog 8 #[.slice a len cap, .slice b len' cap'] w fun e w' => e = .returned (.bool (decide (la = lb))) ∧ Below w.heap.size w w' := by
  have e : ∀ n, decide (la = lb) = n → (Ending.returned (.bool n) = Ending.returned (.bool (decide (la = lb)))) := fun b h => by rw [h]
  have HE := hidn e
  have hl := hidn h.1
  have hl' := hidn h'.1
  clear e
  generalize hdd : decide (la = lb) = dd at *
  have HDD := hidn hdd
  clear hdd
  by_cases hne : len = len'
  · subst hne
    go_enter Tryd.func8, Tryd.ntmps8
    go_wp2
    go_loopw [13] (fun i wr => ∃ k : Nat, k ≤ len ∧ i = .int .i64 k ∧ Below w.heap.size w wr ∧ Hid (la = lb ↔ la.drop k = lb.drop k)) (fun i wr => len - (intOf i).toNat)
    case atStart => exact ⟨0, Nat.zero_le _, rfl, Below.refl _ _, Iff.rfl⟩
    case round =>
      obtain ⟨k, hk, rfl, hbl, hn⟩ := hrel
      by_cases hlt : k < len
      · obtain ⟨ba, offa, rfl, hba, hca⟩ := h.pos (by omega)
        obtain ⟨bb, offb, rfl, hbb, hcb⟩ := h'.pos (by omega)
        have c0' : wr.cell? ⟨ba, offa + k, none⟩ = some (.int .u8 ((la.getD k 0 : Nat) : Int)) := (hbl.cell (p := ⟨ba, offa + k, none⟩) hba).trans (hca k hlt)
        have d0' : wr.cell? ⟨bb, offb + k, none⟩ = some (.int .u8 ((lb.getD k 0 : Nat) : Int)) := (hbl.cell (p := ⟨bb, offb + k, none⟩) hbb).trans (hcb k hlt)
        clear hca hcb
        have HST := hidn (hn.out.trans (zs_step la lb k (by rw [hl.out]; exact hlt) (by rw [hl'.out]; exact hlt)))
        clear hn
        generalize hx : la.getD k 0 = x at *
        generalize hy : lb.getD k 0 = y at *
        clear hx hy
        by_cases hxy : x = y
        · have hd : ((x : Int) == (y : Int)) = true := beq_iff_eq.2 (by omega)
          have hd2 : ((x : Int) != (y : Int)) = false := by rw [bne, hd]; rfl
          have HC : Hid (la = lb ↔ la.drop (k + 1) = lb.drop (k + 1)) := hidn (HST.out.trans ⟨fun h => h.2, fun h => ⟨hxy, h⟩⟩)
          clear hxy HST
          go_wp2
          go_quiet (fail)
          go_wp2
          exact ⟨⟨k + 1, by omega, by go_num, below_drewN hbl _, HC⟩, by simp [intOf]; omega⟩
        · have hd : ((x : Int) == (y : Int)) = false := beq_eq_false_iff_ne.2 (by omega)
          have hd2 : ((x : Int) != (y : Int)) = true := by rw [bne, hd]; rfl
          have HC : Hid (¬ la = lb) := hidn (fun h => hxy (HST.out.1 h).1)
          clear hxy HST
          go_wp2
          go_quiet (fail)
          go_wp2
          go_ret
          exact ⟨HE.out _ (by rw [← HDD.out]; exact decide_eq_false HC.out), below_drewN hbl _⟩
      · obtain rfl : k = len := by omega
        have HC : Hid (la = lb) := hidn (hn.out.2 (by rw [List.drop_of_length_le (by rw [hl.out]; omega), List.drop_of_length_le (by rw [hl'.out]; omega)]))
        clear hn
        go_wp2
        go_ret
        exact ⟨HE.out _ (by rw [← HDD.out]; exact decide_eq_true HC.out), hbl⟩
  · have hne' : ((len : Int) == (len' : Int)) = false := beq_eq_false_iff_ne.2 (by omega)
    have HC : Hid (¬ la = lb) := hidn (fun h => hne (by rw [← hl.out, ← hl'.out, h]))
    clear hne
    go_enter Tryd.func8, Tryd.ntmps8
    go_wp2
    go_ret
    exact ⟨HE.out _ (by rw [← HDD.out]; exact decide_eq_false HC.out), Below.refl _ _⟩
end Go.Proofs.YtfgfkifdokeefaaDoor.Cd
