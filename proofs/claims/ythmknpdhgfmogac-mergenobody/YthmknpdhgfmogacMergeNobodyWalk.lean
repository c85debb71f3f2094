/- MergeNobody: a cursor that no call made tells nothing. -/
import Derived.Test.YthmknpdhgfmogacMgK
import Derived.Laws.ResultCell
namespace Go.Proofs.Ythmknpdhgfmogac
open Go.RowKit Go.Joins
set_option linter.unusedVariables false

theorem results_cell_row_tmp {P : Program} {fn : Func} {p u : Tmp} {ty : TypeId} (h : fn.results = #[.cell p ty, .tmp u]) (tmps : Array Value) (w : World) (g : Nat) (t : TypeId) (cs : Array Value) (fr : Nat × Nat) (d : TypeDesc)
    (hp : tmps.getD p undef = .pointer (some ⟨g, 0, none⟩)) (hg : w.heap[g]? = some (.cells cs t fr))
    (hu : P.underlying ty = some d) (hd : (match d with | .struct _ | .array _ _ => true | _ => false) = true) (hi : (P.info? ty).map (·.size) = some cs.size) (x : Value) (hx : tmps.getD u undef = x) :
    (results fn tmps).run P w = .ok (.tuple #[.agg cs, x]) w := by
  rw [results_cell_tmp h, hp, hx]
  simp [asAddr, run_loadVar_row w g t ty cs fr d hg hu hd hi]


/-- A cursor that no call made. -/
def NobC (w : World) (v : Value) : Prop := v = .pointer none ∨ ∃ e, v = .pointer (some ⟨e, 0, none⟩) ∧ CurB w e (.slice none 0 0)

theorem NobC.below {w w' : World} {v : Value} (h : NobC w v) (hb : Below w.heap.size w w') : NobC w' v := by
  rcases h with rfl | ⟨e, rfl, he⟩
  · exact .inl rfl
  · exact .inr ⟨e, rfl, (hb.block e (Array.getElem?_eq_some_iff.1 he).1).trans he⟩

theorem search_zero (f : Value) (w : World) : Calls Try.prog 8 #[.int .i64 0, f] w fun e w' => e = .returned (.int .i64 0) ∧ Below w.heap.size w w' := by
  go_enter Try.func8, Try.ntmps8
  go_wp2_with fail
  go_loopw [5, 6] (fun av bv wr => av = .int .i64 0 ∧ bv = .int .i64 0 ∧ Below w.heap.size w wr) (fun _ _ _ => 0)
  case atStart => exact ⟨rfl, rfl, Below.refl _ _⟩
  case round =>
    obtain ⟨rfl, rfl, hb⟩ := hrel
    go_wp2_with fail
    go_ret
    exact ⟨rfl, hb⟩

set_option maxHeartbeats 2000000 in
set_option maxRecDepth 100000 in
theorem nobSeek (w : World) (v : Value) (n : Int) (h : NobC w v) : Calls Try.prog 5 #[v, .int .i64 n] w fun e w' => e = .returned (.tuple #[.agg #[.int .i64 0, .int .u64 0], .bool false]) ∧ Below w.heap.size w w' := by
  have hpn := fun (wx : World) (p : Option Addr) => run_eql_pointer_nil (P := Try.prog) wx 22 p (by kernel_rfl)
  obtain ⟨w1, hw1⟩ : ∃ w1, w1 = ((w.alloc (.cells #[v] 22)).alloc (.cells #[.int .i64 n] 3)).alloc (.cells #[.int .i64 0, .int .u64 0] 29) := ⟨_, rfl⟩
  have b1 : Below w.heap.size w w1 := by rw [hw1]; exact (((Below.refl _ w).alloc (Nat.le_refl _) _).alloc (by simp) _).alloc (by simp; omega) _
  have qA : w1.heap[w.heap.size]? = some (.cells #[v] 22 (0, 0)) := by
    rw [hw1]
    exact (((Below.refl (w.heap.size + 2) _).alloc (by simp) _).block _ (by omega)).trans (heap_alloc2_old w _ _)
  have qC : w1.heap[w.heap.size + 2]? = some (.cells #[.int .i64 0, .int .u64 0] 29 (0, 0)) := by
    rw [hw1]
    have := heap_alloc_new ((w.alloc (.cells #[v] 22)).alloc (.cells #[.int .i64 n] 3)) (.cells #[.int .i64 0, .int .u64 0] 29)
    simpa using this
  have x0 : w1.cell? ⟨w.heap.size, 0, none⟩ = some v := cell_of_row _ _ _ _ _ _ qA
  have x1 : w1.cell? ⟨w.heap.size + 2, 0, none⟩ = some (.int .i64 0) := cell_of_row _ _ _ _ _ _ qC
  have x2 : w1.cell? ⟨w.heap.size + 2, 1, none⟩ = some (.int .u64 0) := cell_of_row _ _ _ _ _ _ qC
  have u1 := unfrozen_of_block qC 0
  have u2 := unfrozen_of_block qC 1
  have HW1 := hidn hw1
  have HB1 := hidn b1
  have HN := hidn (h.below b1)
  have HQC := hidn qC
  have HQA := hidn qA
  clear hw1 b1 qA qC
  rcases h with rfl | ⟨e, rfl, he⟩
  · go_enter Try.func5, Try.ntmps5
    go_wp2_with fail
    try rw [← HW1.out]
    exact bodyPost_ret (v := .tuple #[.agg #[.int .i64 0, .int .u64 0], .bool false]) (results_cell_row_tmp rfl _ _ (w.heap.size + 2) 29 #[.int .i64 0, .int .u64 0] (0, 0) _ rfl HQC.out Try.underlying29 rfl (by kernel_rfl) _ rfl) rfl ⟨rfl, HB1.out⟩
  · have hc1 : CurB w1 e (.slice none 0 0) := by
      rcases HN.out with h | ⟨e', h, h'⟩
      · cases h
      · cases h; exact h'
    have d1 : w1.cell? ⟨e, 0, none⟩ = some (.slice none 0 0) := cell_of_row _ _ _ _ _ _ hc1
    have d0 : (((w.alloc (.cells #[.pointer (some ⟨e, 0, none⟩)] 22)).alloc (.cells #[.int .i64 n] 3)).alloc (.cells #[.int .i64 0, .int .u64 0] 29)).cell? ⟨e, 0, none⟩ = some (.slice none 0 0) := by rw [← HW1.out]; exact d1
    have HS := hidn (fun f => search_zero f w1)
    have HC1 := hidn hc1
    clear he hc1
    go_enter Try.func5, Try.ntmps5
    go_wp2_with fail
    rw [← HW1.out]
    refine (HS.out _).mono ?_
    rintro e9 w2 ⟨rfl, b2⟩
    have hA2 := (b2.block _ (Array.getElem?_eq_some_iff.1 HQA.out).1).trans HQA.out
    have hC2 := (b2.block _ (Array.getElem?_eq_some_iff.1 HQC.out).1).trans HQC.out
    have hc2 := (b2.block _ (Array.getElem?_eq_some_iff.1 HC1.out).1).trans HC1.out
    have y0 : w2.cell? ⟨w.heap.size, 0, none⟩ = some (.pointer (some ⟨e, 0, none⟩)) := cell_of_row _ _ _ _ _ _ hA2
    have y1 : w2.cell? ⟨e, 0, none⟩ = some (.slice none 0 0) := cell_of_row _ _ _ _ _ _ hc2
    have y2 : w2.cell? ⟨w.heap.size + 2, 0, none⟩ = some (.int .i64 0) := cell_of_row _ _ _ _ _ _ hC2
    have y3 : w2.cell? ⟨w.heap.size + 2, 1, none⟩ = some (.int .u64 0) := cell_of_row _ _ _ _ _ _ hC2
    have v2 := unfrozen_of_block hC2 0
    have v3 := unfrozen_of_block hC2 1
    have HC2 := hidn hC2
    have HB2 := hidn (HB1.out.trans (b2.mono HB1.out.size))
    clear b2 hA2 hC2 hc2
    go_wp2_with fail
    have HF : Hid (((w2.setCell ⟨w.heap.size + 2, 0, none⟩ (.int .i64 0)).setCell ⟨w.heap.size + 2, 1, none⟩ (.int .u64 0)).heap[w.heap.size + 2]? = some (.cells #[.int .i64 0, .int .u64 0] 29 (0, 0))) := hidn (block_setCell (block_setCell HC2.out (.int .i64 0)) (.int .u64 0))
    exact bodyPost_ret (v := .tuple #[.agg #[.int .i64 0, .int .u64 0], .bool false]) (results_cell_row_tmp rfl _ _ (w.heap.size + 2) 29 #[.int .i64 0, .int .u64 0] (0, 0) _ rfl HF.out Try.underlying29 rfl (by kernel_rfl) _ rfl) rfl ⟨rfl, (HB2.out.setCell (p := ⟨w.heap.size + 2, 0, none⟩) (Nat.le_add_right _ _) _).setCell (p := ⟨w.heap.size + 2, 1, none⟩) (Nat.le_add_right _ _) _⟩

set_option maxHeartbeats 2000000 in
set_option maxRecDepth 100000 in
theorem nobNext (w : World) (v : Value) (h : NobC w v) : Calls Try.prog 4 #[v] w fun e w' => e = .returned (.tuple #[.agg #[.int .i64 0, .int .u64 0], .bool false]) ∧ Below w.heap.size w w' := by
  obtain ⟨w1, hw1⟩ : ∃ w1, w1 = w.alloc (.cells #[.int .i64 0, .int .u64 0] 29) := ⟨_, rfl⟩
  have b1 : Below w.heap.size w w1 := by rw [hw1]; exact (Below.refl _ w).alloc (Nat.le_refl _) _
  have q1 : w1.heap[w.heap.size]? = some (.cells #[.int .i64 0, .int .u64 0] 29 (0, 0)) := by rw [hw1]; exact heap_alloc_new w _
  have HS := hidn (nobSeek w1 v (-9223372036854775808) (h.below b1))
  have HW1 := hidn hw1
  have HB1 := hidn b1
  have HQ1 := hidn q1
  clear hw1 b1 q1 h
  go_enter Try.func4, Try.ntmps4
  go_wp2_with fail
  rw [← HW1.out]
  refine HS.out.mono ?_
  rintro e w2 ⟨rfl, b2⟩
  have q2 := (b2.block _ (Array.getElem?_eq_some_iff.1 HQ1.out).1).trans HQ1.out
  have y0 : w2.cell? ⟨w.heap.size, 0, none⟩ = some (.int .i64 0) := cell_of_row _ _ _ _ _ _ q2
  have y1 : w2.cell? ⟨w.heap.size, 1, none⟩ = some (.int .u64 0) := cell_of_row _ _ _ _ _ _ q2
  have v0 := unfrozen_of_block q2 0
  have v1 := unfrozen_of_block q2 1
  have HF : Hid (((w2.setCell ⟨w.heap.size, 0, none⟩ (.int .i64 0)).setCell ⟨w.heap.size, 1, none⟩ (.int .u64 0)).heap[w.heap.size]? = some (.cells #[.int .i64 0, .int .u64 0] 29 (0, 0))) := hidn (block_setCell (block_setCell q2 (.int .i64 0)) (.int .u64 0))
  have HB2 := hidn (HB1.out.trans (b2.mono HB1.out.size))
  clear b2 q2
  go_wp2_with fail
  exact bodyPost_ret (v := .tuple #[.agg #[.int .i64 0, .int .u64 0], .bool false]) (results_cell_row_tmp rfl _ _ w.heap.size 29 #[.int .i64 0, .int .u64 0] (0, 0) _ rfl HF.out Try.underlying29 rfl (by kernel_rfl) _ rfl) rfl ⟨rfl, (HB2.out.setCell (p := ⟨w.heap.size, 0, none⟩) (Nat.le_refl _) _).setCell (p := ⟨w.heap.size, 1, none⟩) (Nat.le_refl _) _⟩

set_option maxHeartbeats 2000000 in
theorem nobAll (w : World) (v : Value) (h : NobC w v) : Calls Try.prog 6 #[v] w fun e w' => (∃ a c, e = .returned (.slice a 0 c)) ∧ ∀ m, m ≤ w.heap.size → (∀ b, v = .pointer (some ⟨b, 0, none⟩) → m ≤ b) → Below m w w' := by
  rcases h with rfl | ⟨b, rfl, hb⟩
  · go_enter Try.func6, Try.ntmps6
    go_wp2_with fail
    go_ret
    exact ⟨⟨_, _, rfl⟩, fun m _ _ => Below.refl _ _⟩
  · refine (all_any b none 0 0 [] w hb (Sm.nil w) (by omega)).mono ?_
    rintro e w1 ⟨v, rfl, o, _, hbl⟩
    obtain ⟨a, c, rfl⟩ := own_slice o
    exact ⟨⟨a, c, rfl⟩, fun m hm hx => hbl m hm (hx b rfl)⟩

theorem neq_zero (w : World) : (binOp .neq 29 (.agg #[.int .i64 0, .int .u64 0]) (.agg #[.int .i64 0, .int .u64 0])).run Try.prog w = .ok (.bool false) w := by
  have h := run_neq_sam 0 0 0 0 w
  rw [dcd_true rfl] at h
  exact h

set_option maxHeartbeats 4000000 in
set_option maxRecDepth 100000 in
theorem mergeNobody_walk (n : Int) (w : World) : Calls Try.prog 3 #[.int .i64 n] w fun e w' => e = .returned (.bool true) ∧ Below w.heap.size w w' := by
  have hne := neq_zero
  obtain ⟨w1, hw1⟩ : ∃ w1, w1 = (w.alloc (.cells #[.slice none 0 0] 25)).alloc (.cells #[.pointer none, .pointer (some ⟨w.heap.size, 0, none⟩)] 22) := ⟨_, rfl⟩
  have b1 : Below w.heap.size w w1 := by rw [hw1]; exact ((Below.refl _ w).alloc (Nat.le_refl _) _).alloc (by simp) _
  have qC : CurB w1 w.heap.size (.slice none 0 0) := by rw [hw1]; exact heap_alloc2_old w _ _
  have qS : w1.heap[w.heap.size + 1]? = some (.cells #[.pointer none, .pointer (some ⟨w.heap.size, 0, none⟩)] 22 (0, 0)) := by rw [hw1]; exact heap_alloc2_new w _ _
  have HW1 := hidn hw1
  have HB1 := hidn b1
  have HQ : Hid (CurB w1 w.heap.size (.slice none 0 0) ∧ w1.heap[w.heap.size + 1]? = some (.cells #[.pointer none, .pointer (some ⟨w.heap.size, 0, none⟩)] 22 (0, 0))) := hidn ⟨qC, qS⟩
  clear hw1 qC qS b1
  go_enter Try.func3, Try.ntmps3
  go_wp2_with fail
  rw [← HW1.out]
  go_loopw [13] (fun iv wr => ∃ k : Nat, k ≤ 2 ∧ iv = .int .i64 (k : Int) ∧ Hid (Below w.heap.size w wr) ∧ Hid (k < 2 → CurB wr w.heap.size (.slice none 0 0) ∧ wr.heap[w.heap.size + 1]? = some (.cells #[.pointer none, .pointer (some ⟨w.heap.size, 0, none⟩)] 22 (0, 0)))) (fun iv _ => 2 - (intOf iv).toNat)
  case atStart => exact ⟨0, by omega, rfl, HB1, hidn (fun _ => HQ.out)⟩
  case round =>
    obtain ⟨k, hk, rfl, HB, HK⟩ := hrel
    obtain ⟨wo, hwo⟩ : ∃ wo, wo = wr := ⟨_, rfl⟩
    subst hwo
    by_cases hlt : k < 2
    · have hlt2 : (k : Int) < 2 := by omega
      obtain ⟨hC, hS⟩ := HK.out hlt
      obtain ⟨v, hv, hcv⟩ : ∃ v, ((k = 0 ∧ v = Value.pointer none) ∨ (k = 1 ∧ v = .pointer (some ⟨w.heap.size, 0, none⟩))) ∧ wo.cell? ⟨w.heap.size + 1, k, none⟩ = some v := by
        rcases (by omega : k = 0 ∨ k = 1) with rfl | rfl
        · exact ⟨_, .inl ⟨rfl, rfl⟩, cell_of_row _ _ _ _ _ _ hS⟩
        · exact ⟨_, .inr ⟨rfl, rfl⟩, cell_of_row _ _ _ _ _ _ hS⟩
      have HN : NobC wo v := by
        rcases hv with ⟨_, rfl⟩ | ⟨_, rfl⟩
        · exact .inl rfl
        · exact .inr ⟨_, rfl, hC⟩
      have h1 := hidn (nobNext wo v HN)
      have HNN := hidn HN
      have HV := hidn hv
      have HCS := hidn (And.intro hC hS)
      clear hC hS HN hv
      go_wp2_with fail
      refine h1.out.mono ?_
      rintro e w2 ⟨rfl, b2⟩
      obtain ⟨w3, hw3⟩ : ∃ w3, w3 = w2.alloc (.cells #[.int .i64 0, .int .u64 0] 29) := ⟨_, rfl⟩
      have b23 : Below w2.heap.size w2 w3 := by rw [hw3]; exact (Below.refl _ w2).alloc (Nat.le_refl _) _
      have b3 : Below wo.heap.size wo w3 := b2.trans (b23.mono b2.size)
      have q3 : w3.heap[w2.heap.size]? = some (.cells #[.int .i64 0, .int .u64 0] 29 (0, 0)) := by rw [hw3]; exact heap_alloc_new w2 _
      have h2 := hidn (nobSeek w3 v n (HNN.out.below b3))
      have HW3 := hidn hw3
      have HB3 := hidn b3
      have HQ3 := hidn q3
      clear hw3 b23 b3 q3 b2 h1
      go_wp2_with fail
      rw [← HW3.out]
      refine h2.out.mono ?_
      rintro e w4 ⟨rfl, b4⟩
      obtain ⟨w5, hw5⟩ : ∃ w5, w5 = w4.alloc (.cells #[.int .i64 0, .int .u64 0] 29) := ⟨_, rfl⟩
      have b45 : Below w4.heap.size w4 w5 := by rw [hw5]; exact (Below.refl _ w4).alloc (Nat.le_refl _) _
      have b35 : Below w3.heap.size w3 w5 := b4.trans (b45.mono b4.size)
      have b5 : Below wo.heap.size wo w5 := HB3.out.trans (b35.mono HB3.out.size)
      have q5 : w5.heap[w4.heap.size]? = some (.cells #[.int .i64 0, .int .u64 0] 29 (0, 0)) := by rw [hw5]; exact heap_alloc_new w4 _
      have q35 := (b35.block _ (Array.getElem?_eq_some_iff.1 HQ3.out).1).trans HQ3.out
      have y0 : w5.cell? ⟨w2.heap.size, 0, none⟩ = some (.int .i64 0) := cell_of_row _ _ _ _ _ _ q35
      have y1 : w5.cell? ⟨w2.heap.size, 1, none⟩ = some (.int .u64 0) := cell_of_row _ _ _ _ _ _ q35
      have y2 : w5.cell? ⟨w4.heap.size, 0, none⟩ = some (.int .i64 0) := cell_of_row _ _ _ _ _ _ q5
      have y3 : w5.cell? ⟨w4.heap.size, 1, none⟩ = some (.int .u64 0) := cell_of_row _ _ _ _ _ _ q5
      have h3 := hidn (nobAll w5 v (HNN.out.below b5))
      have HW5 := hidn hw5
      have HB5 := hidn b5
      have d0 : (w4.alloc (.cells #[.int .i64 0, .int .u64 0] 29)).cell? ⟨w2.heap.size, 0, none⟩ = some (.int .i64 0) := by rw [← HW5.out]; exact y0
      have d1 : (w4.alloc (.cells #[.int .i64 0, .int .u64 0] 29)).cell? ⟨w2.heap.size, 1, none⟩ = some (.int .u64 0) := by rw [← HW5.out]; exact y1
      clear hw5 b45 b35 b5 q5 q35 b4 h2
      go_wp2_with fail
      rw [← HW5.out]
      refine h3.out.mono ?_
      rintro e w6 ⟨⟨a6, c6, rfl⟩, b6⟩
      have HB6 : Hid (Below w.heap.size w w6) := hidn ((HB.out.trans (HB5.out.mono HB.out.size)).trans (b6 _ (Nat.le_trans HB.out.size HB5.out.size) (fun b hb => by
        rcases HV.out with ⟨_, rfl⟩ | ⟨_, rfl⟩
        · cases hb
        · cases hb; exact Nat.le_refl _)))
      have HK6 : Hid (k + 1 < 2 → CurB w6 w.heap.size (.slice none 0 0) ∧ w6.heap[w.heap.size + 1]? = some (.cells #[.pointer none, .pointer (some ⟨w.heap.size, 0, none⟩)] 22 (0, 0))) := hidn (fun hk1 => by
        have e0 : v = .pointer none := by
          rcases HV.out with ⟨_, e⟩ | ⟨h1, _⟩
          · exact e
          · omega
        have b56 := b6 _ (Nat.le_refl _) (fun b hb => by rw [e0] at hb; cases hb)
        have bo6 := HB5.out.trans (b56.mono HB5.out.size)
        exact ⟨(bo6.block _ (Array.getElem?_eq_some_iff.1 HCS.out.1).1).trans HCS.out.1, (bo6.block _ (Array.getElem?_eq_some_iff.1 HCS.out.2).1).trans HCS.out.2⟩)
      clear b6
      go_wp2_with fail
      go_roundw
      case rel => exact ⟨k + 1, by omega, by first | rfl | simp, HB6, HK6⟩
      case measure => simp [intOf]; omega
    · have hlt2 : ¬ (k : Int) < 2 := by omega
      have HA := hidn (awake26 wo)
      go_wp2_with fail
      refine HA.out.mono ?_
      rintro e w2 ⟨rfl, b2⟩
      have HB2 := hidn (HB.out.trans (b2.mono HB.out.size))
      clear b2
      go_wp2_with fail
      go_ret
      exact ⟨rfl, HB2.out⟩
end Go.Proofs.Ythmknpdhgfmogac
