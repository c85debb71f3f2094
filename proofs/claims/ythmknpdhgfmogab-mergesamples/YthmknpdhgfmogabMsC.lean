/- merge.Sample: the document's Times. -/
import Derived.Test.YthmknpdhgfmogabMsB
import Derived.Test.YthmknpdhgfmogabMgJ
namespace Go.Proofs.Ythmknpdhgfmogab
open Go.RowKit Go.Joins
set_option linter.unusedVariables false

theorem zInt : (Try.prog.info? 3).map (fun i => (i.zero, i.size, i.bytes)) = some (some (.int .i64 0), 1, 8) := by kernel_rfl

/-- The times of the first steps. -/
def vT (frm step : Int) (n : Nat) : List Value := (List.range n).map (fun k : Nat => Value.int .i64 (frm + k * step))
theorem vT_succ (frm step : Int) (n : Nat) : vT frm step (n + 1) = vT frm step n ++ [.int .i64 (frm + n * step)] := by
  unfold vT
  rw [List.range_succ, List.map_append]
  rfl
theorem vT_get (frm step : Int) (n k : Nat) (h : k < n) : (vT frm step n)[k]? = some (.int .i64 (frm + k * step)) := by
  unfold vT
  rw [List.getElem?_map, List.getElem?_range h]
  rfl

/-- One number more onto the row. -/
theorem app_int1 {B : Nat} {v : Value} {n : Nat} {xs : List Value} {W : World} (ho : W.ownsRow B 3 1 v n xs) (hB : B ≤ W.heap.size) (hn : n ≤ 1000000) (x : Int) (ad : Addr) (hc0 : W.cell? ad = some (.int .i64 x)) :
    ∃ g c' W', (Builtin.append_ #[31, 31] 31 #[v, .slice (some ad) 1 1]).run Try.prog W = .ok (.slice (some ⟨g, 0, none⟩) (n + 1) c') W' ∧ W'.ownsRow B 3 1 (.slice (some ⟨g, 0, none⟩) (n + 1) c') (n + 1) (xs ++ [.int .i64 x]) ∧ W.grownBy W' v.ownBlock := by
  obtain ⟨i0, hi, hz0, hz1, hz2⟩ := info_parts zInt
  obtain ⟨g, c', W', hr, ho', hg, _⟩ := appN (P := Try.prog) W 31 31 3 i0 (.int .i64 0) 1 8 Try.underlying31 hi hz0 hz1 hz2 rfl (by decide) v n xs B ho hB ad 1 1 (by decide) [.int .i64 x] rfl (by
    intro j u hj
    have hjl : j < 1 := (List.getElem?_eq_some_iff.1 hj).1
    match j, hjl, hj with
    | 0, _, hj => cases hj; rw [show ad.add 0 = ad from by cases ad; simp [Addr.add]]; exact hc0) (by intro u hu; simp at hu; subst hu; rfl) (by unfold maxLen; omega) (by omega)
  exact ⟨g, c', W', hr, ho', hg⟩

/-- What Times leaves. -/
def TimesP (frm to step : Int) (w : World) (e : Ending) (w' : World) : Prop :=
  (200 * step ≤ to - frm ∧ e = .returned (.tuple #[.slice none 0 0, .bool false]) ∧ Below w.heap.size w w') ∨
  (∃ (n : Nat) (v : Value), n ≤ 199 ∧ frm + n * step ≤ to ∧ to - (frm + n * step) < step ∧ e = .returned (.tuple #[v, .bool true]) ∧ w'.ownsRow w.heap.size 3 1 v (n + 1) (vT frm step (n + 1)) ∧ Below w.heap.size w w')

set_option maxHeartbeats 4000000 in
set_option maxRecDepth 100000 in
theorem times_any (frm to step : Int) (w : World) (hft : frm ≤ to) (hs : 1 ≤ step) (hs2 : step ≤ 9223372036854775807) (hf : -9223372036854775808 ≤ frm) (ht : to ≤ 9223372036854775807) :
    Calls Try.prog 48 #[.int .i64 frm, .int .i64 to, .int .i64 step] w (TimesP frm to step w) := by
  obtain ⟨w1, hw1⟩ : ∃ w1, w1 = w.alloc (.cells #[.int .i64 frm] 3) := ⟨_, rfl⟩
  have b1 : Below w.heap.size w w1 := by rw [hw1]; exact (Below.refl _ w).alloc (Nat.le_refl _) _
  have o1 : w1.ownsRow w.heap.size 3 1 (.slice (some ⟨w.heap.size, 0, none⟩) 1 1) 1 (vT frm step 1) := by
    have h := World.ownsRow_lit (base := w.heap.size) (e := 3) (size := 1) w #[.int .i64 frm] 1 (Nat.le_refl _) (by decide) rfl
    rw [hw1]
    have e : vT frm step 1 = [.int .i64 frm] := by simp [vT]
    rw [e]
    exact h
  have HO1 := hidn o1
  have HW1 := hidn hw1
  have HB1 := hidn b1
  have hws : IntKind.u64.wrap step = step := by
    have hw : ∀ n : Int, IntKind.u64.wrap n = n % 18446744073709551616 := fun n => rfl
    rw [hw]; omega
  clear hw1 b1 o1
  go_enter Try.func48, Try.ntmps48
  go_wp2_with fail
  rw [← HW1.out]
  go_loopw [8, 9] (fun tv xv wr => ∃ (n : Nat) (x : Int), n ≤ 199 ∧ xv = .int .i64 x ∧ Hid (x = frm + n * step) ∧ x ≤ to ∧ frm ≤ x ∧ Hid (Below w.heap.size w wr) ∧ Hid (wr.ownsRow w.heap.size 3 1 tv (n + 1) (vT frm step (n + 1)))) (fun tv _ _ => 200 - sln tv)
  case atStart => exact ⟨0, frm, by omega, rfl, hidn (by simp), hft, Int.le_refl _, HB1, HO1⟩
  case round =>
    obtain ⟨n, x, hn, rfl, HX, hxt, hfx, HB, HO⟩ := hrel
    obtain ⟨wo, hwo⟩ : ∃ wo, wo = wr := ⟨_, rfl⟩
    subst hwo
    obtain ⟨g0, c0, htv⟩ := own_some HO.out (by omega)
    have e1 : IntKind.u64.wrap (IntKind.u64.wrap to - IntKind.u64.wrap x) = to - x := by
      have hw : ∀ n : Int, IntKind.u64.wrap n = n % 18446744073709551616 := fun n => rfl
      rw [hw, hw, hw]
      omega
    by_cases hst : step ≤ to - x
    · have hxs : x + step ≤ to := by omega
      by_cases hn2 : n = 199
      · subst hn2
        go_wp2_with fail
        go_ret2
        exact .inl ⟨by have := HX.out; omega, rfl, HB.out⟩
      · have hn3 : ¬ (200 : Int) ≤ (n : Int) + 1 := by omega
        have HXN : Hid (x + step = frm + ((n + 1 : Nat) : Int) * step) := hidn (by rw [HX.out, Int.natCast_add, Int.add_mul]; omega)
        obtain ⟨w3, hw3⟩ : ∃ w3, w3 = wo.alloc (.cells #[.int .i64 (x + step)] 3) := ⟨_, rfl⟩
        have b3 : Below wo.heap.size wo w3 := by rw [hw3]; exact (Below.refl _ wo).alloc (Nat.le_refl _) _
        have q3 : w3.heap[wo.heap.size]? = some (.cells #[.int .i64 (x + step)] 3 (0, 0)) := by rw [hw3]; exact heap_alloc_new wo _
        obtain ⟨g, c', w4, hr, ho4, hg4⟩ := app_int1 (own_skip HO.out b3) (Nat.le_trans HB.out.size b3.size) (by omega) (x + step) ⟨wo.heap.size, 0, none⟩ (cell_of_row _ _ _ _ _ _ q3)
        have HR := hidn hr
        have HW3 := hidn hw3
        have HB4 : Hid (Below w.heap.size w w4) := hidn ((HB.out.trans (b3.mono HB.out.size)).grown hg4 (Nat.le_trans HB.out.size b3.size) (fun k hk => (HO.out.lt k hk).1))
        have HO4 : Hid (w4.ownsRow w.heap.size 3 1 (.slice (some ⟨g, 0, none⟩) (n + 1 + 1) c') (n + 1 + 1) (vT frm step (n + 1 + 1))) := hidn (by rw [vT_succ, ← HXN.out]; exact ho4)
        clear hr hw3 b3 q3 ho4 hg4
        go_wp2_with (at_builtin; rw [← HW3.out]; refine wpList_app_run2 rfl (.tmp 27) (.tmp 29) 31 31 rfl rfl u8 (.slice (some ⟨wo.heap.size, 0, none⟩) 1 1) _ rfl rfl HR.out ?_)
        go_roundw
        case rel => exact ⟨n + 1, x + step, by omega, rfl, HXN, hxs, by omega, HB4, HO4⟩
        case measure => rw [htv]; simp [sln]; omega
    · have hst2 : to - x < step := by omega
      go_wp2_with fail
      go_ret2
      exact .inr ⟨n, _, hn, by have := HX.out; omega, by have := HX.out; omega, rfl, by first | exact HO.out | (rw [← htv]; exact HO.out), HB.out⟩
end Go.Proofs.Ythmknpdhgfmogab
