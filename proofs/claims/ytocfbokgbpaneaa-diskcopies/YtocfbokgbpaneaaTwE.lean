/- slices.Equal of two lists of names, or of spots, that are the same; Spoil of one row; what Full makes. -/
import Derived.Test.YtocfbokgbpaneaaMn
import Derived.Test.YtocfbokgbpaneaaMg
import Derived.Test.YtocfbokgbpaneaaRyA
import Derived.Test.YtocfbokgbpaneaaMm
import Derived.Test.YtocfbokgbpaneaaMj
import Derived.BigQuiet
import Derived.Deep.QuietTactic
namespace Go.Proofs.Ytocfbokgbpaneaa
open Go.RowKit Go.Maps
set_option linter.unusedVariables false

theorem below_drewN {B : Nat} {a w : World} (h : Below B a w) (n : Nat) : Below B a (w.drewN n) := h.trans ⟨rfl, rfl, rfl, Nat.le_refl _, fun _ _ => rfl⟩

theorem spv_at : ∀ (l : List (List UInt8 × Nat)) (k : Nat) (p : List UInt8 × Nat), l[k]? = some p → (spv l)[k * 2]? = some (encStr p.1) ∧ (spv l)[k * 2 + 1]? = some (.int .i64 (p.2 : Int))
  | a :: r, 0, p, h => by
    obtain rfl : a = p := by simpa using h
    exact ⟨rfl, rfl⟩
  | a :: r, k + 1, p, h => by
    have ih := spv_at r k p (by simpa using h)
    have e : spv (a :: r) = encStr a.1 :: .int .i64 (a.2 : Int) :: spv r := rfl
    rw [e, show (k + 1) * 2 = k * 2 + 1 + 1 from by omega, show k * 2 + 1 + 1 + 1 = (k * 2 + 1) + 1 + 1 from by omega]
    simp only [List.getElem?_cons_succ]
    exact ih

theorem own_at {w : World} {base e size n : Nat} {a : Option Addr} {c : Nat} {xs : List Value} (h : w.ownsRow base e size (.slice a n c) n xs) (h0 : 0 < n) : ∃ g, a = some ⟨g, 0, none⟩ ∧ g < w.heap.size ∧ ∀ j v, xs[j]? = some v → w.cell? ⟨g, j, none⟩ = some v := by
  rcases h.2 with ⟨_, h1⟩ | ⟨g, cap, cur, hv, _, hg, _⟩
  · omega
  · obtain ⟨rfl, _, _⟩ : a = some ⟨g, 0, none⟩ ∧ n = n ∧ c = cap := by simpa using hv
    refine ⟨g, rfl, (Array.getElem?_eq_some_iff.1 hg).1, fun j v hj => ?_⟩
    have := h.cells (g := g) rfl j v hj
    rw [add_none, Nat.zero_add] at this
    exact this

set_option maxHeartbeats 4000000 in
set_option maxRecDepth 100000 in
theorem strsEq_same (w : World) (a b : Option Addr) (n ca cb b1 b2 : Nat) (ss : List ByteArray) (ha : w.ownsRow b1 9 1 (.slice a n ca) n (ss.map .string)) (hb : w.ownsRow b2 9 1 (.slice b n cb) n (ss.map .string)) (hn : n ≤ 1000000) :
    Calls Try.prog 28 #[.slice a n ca, .slice b n cb] w fun e w' => e = .returned (.bool true) ∧ Below w.heap.size w w' := by
  have HA := hidn ha
  have HB := hidn hb
  have HL : Hid (ss.length = n) := hidn (by have := ha.1; simpa using this)
  clear ha hb
  go_enter Try.func28, Try.ntmps28
  go_wp2
  go_loopw [13] (fun i wr => ∃ k : Nat, k ≤ n ∧ i = .int .i64 k ∧ Below w.heap.size w wr) (fun i wr => n - (intOf i).toNat)
  case atStart => exact ⟨0, Nat.zero_le _, rfl, Below.refl _ _⟩
  case round =>
    obtain ⟨k, hk, rfl, hbl⟩ := hrel
    by_cases hlt : k < n
    · obtain ⟨ga, rfl, hga, hca⟩ := own_at HA.out (by omega)
      obtain ⟨gb, rfl, hgb, hcb⟩ := own_at HB.out (by omega)
      obtain ⟨s, hs⟩ : ∃ s, ss[k]? = some s := ⟨_, List.getElem?_eq_getElem (by rw [HL.out]; exact hlt)⟩
      have hs2 : (ss.map Value.string)[k]? = some (.string s) := by rw [List.getElem?_map, hs]; rfl
      have c0 : wr.cell? ⟨ga, k, none⟩ = some (.string s) := (hbl.cell (p := ⟨ga, k, none⟩) hga).trans (hca k _ hs2)
      have d0 : wr.cell? ⟨gb, k, none⟩ = some (.string s) := (hbl.cell (p := ⟨gb, k, none⟩) hgb).trans (hcb k _ hs2)
      clear hca hcb hs hs2
      have hse : (s.toList == s.toList) = true := by simp
      have hse2 : (s.toList != s.toList) = false := by simp
      go_wp2
      go_quiet (fail)
      go_wp2
      exact ⟨⟨k + 1, by omega, by go_num, below_drewN hbl _⟩, by simp [intOf]; omega⟩
    · obtain rfl : k = n := by omega
      go_wp2
      go_ret
      exact ⟨rfl, hbl⟩

set_option maxHeartbeats 4000000 in
set_option maxRecDepth 100000 in
theorem spotsEq_same (w : World) (a b : Option Addr) (n ca cb b1 b2 : Nat) (l : List (List UInt8 × Nat)) (ha : w.ownsRow b1 73 2 (.slice a n ca) n (spv l)) (hb : w.ownsRow b2 73 2 (.slice b n cb) n (spv l)) (hl : l.length = n) (hn : n ≤ 1000000) :
    Calls Try.prog 32 #[.slice a n ca, .slice b n cb] w fun e w' => e = .returned (.bool true) ∧ Below w.heap.size w w' := by
  have HA := hidn ha
  have HB := hidn hb
  have HL := hidn hl
  clear ha hb hl
  go_enter Try.func32, Try.ntmps32
  go_wp2
  go_loopw [13] (fun i wr => ∃ k : Nat, k ≤ n ∧ i = .int .i64 k ∧ Below w.heap.size w wr) (fun i wr => n - (intOf i).toNat)
  case atStart => exact ⟨0, Nat.zero_le _, rfl, Below.refl _ _⟩
  case round =>
    obtain ⟨k, hk, rfl, hbl⟩ := hrel
    by_cases hlt : k < n
    · obtain ⟨ga, rfl, hga, hca⟩ := own_at HA.out (by omega)
      obtain ⟨gb, rfl, hgb, hcb⟩ := own_at HB.out (by omega)
      obtain ⟨p, hp⟩ : ∃ p, l[k]? = some p := ⟨_, List.getElem?_eq_getElem (by rw [HL.out]; exact hlt)⟩
      obtain ⟨q0, q1⟩ := spv_at l k p hp
      obtain ⟨s, hs⟩ : ∃ s : ByteArray, encStr p.1 = .string s := ⟨_, rfl⟩
      rw [hs] at q0
      obtain ⟨z, hz⟩ : ∃ z : Int, z = (p.2 : Int) := ⟨_, rfl⟩
      rw [← hz] at q1
      have c0 : wr.cell? ⟨ga, k * 2, none⟩ = some (.string s) := (hbl.cell (p := ⟨ga, k * 2, none⟩) hga).trans (hca _ _ q0)
      have c1 : wr.cell? ⟨ga, k * 2 + 1, none⟩ = some (.int .i64 z) := (hbl.cell (p := ⟨ga, k * 2 + 1, none⟩) hga).trans (hca _ _ q1)
      have d0 : wr.cell? ⟨gb, k * 2, none⟩ = some (.string s) := (hbl.cell (p := ⟨gb, k * 2, none⟩) hgb).trans (hcb _ _ q0)
      have d1 : wr.cell? ⟨gb, k * 2 + 1, none⟩ = some (.int .i64 z) := (hbl.cell (p := ⟨gb, k * 2 + 1, none⟩) hgb).trans (hcb _ _ q1)
      clear hca hcb hp q0 q1 hs hz
      have hnq := fun wx => neq_spot wx s z
      go_wp2
      go_quiet (fail)
      go_wp2
      exact ⟨⟨k + 1, by omega, by go_num, below_drewN hbl _⟩, by simp [intOf]; omega⟩
    · obtain rfl : k = n := by omega
      go_wp2
      go_ret
      exact ⟨rfl, hbl⟩

/-- A row of 128 bytes that may be written. -/
def Row128 (w : World) (b : Nat) : Prop := ∃ (cs : List Nat) (t : TypeId), w.heap[b]? = some (.cells (vb cs).toArray t (0, 0)) ∧ cs.length = 128 ∧ ∀ x ∈ cs, x < 256

theorem Row128.put {w : World} {b : Nat} (h : Row128 w b) (j x : Nat) (hx : x < 256) : Row128 (w.setCell ⟨b, j, none⟩ (.int .u8 (x : Int))) b := by
  obtain ⟨cs, t, h1, h2, h3⟩ := h
  refine ⟨cs.set j x, t, ?_, by rw [List.length_set]; exact h2, fun y hy => ?_⟩
  · rw [setCell_eq_setRow _ _ _ _ _ _ _ h1, setRow_heap _ _ _ _ _ _ h1]
    congr 2
    simp [vb, List.map_set]
  · rcases List.mem_or_eq_of_mem_set hy with h | rfl
    · exact h3 y h
    · exact hx

theorem Row128.at {w : World} {b : Nat} (h : Row128 w b) (j : Nat) (hj : j < 128) : ∃ x, x < 256 ∧ w.cell? ⟨b, j, none⟩ = some (.int .u8 ((x : Nat) : Int)) ∧ w.frozen? ⟨b, j, none⟩ = false := by
  obtain ⟨cs, t, h1, h2, h3⟩ := h
  refine ⟨cs.getD j 0, getD_b (by rw [h2]; exact hj) h3, ?_, frozen_of_row _ _ j _ _ h1⟩
  rw [cell_of_row _ _ _ _ _ _ h1, List.getElem?_toArray]
  exact vb_getD cs j (by rw [h2]; exact hj)

set_option maxHeartbeats 4000000 in
set_option maxRecDepth 100000 in
/-- One row of 128 bytes is spoilt, all else is as it was. -/
theorem spoil_one (w : World) (g b c : Nat) (hg : w.heap[g]? = some (.cells #[.slice (some ⟨b, 0, none⟩) 128 c] 29 (0, 0))) (hr : Row128 w b) (hgb : g ≠ b) :
    Calls Try.prog 15 #[.slice (some ⟨g, 0, none⟩) 1 1] w fun e w' => e = .returned (.tuple #[]) ∧ Keeps (fun k => k = b) w w' := by
  have HG := hidn hg
  have HR := hidn hr
  have HNE := hidn hgb
  clear hg hr hgb
  go_enter Try.func15, Try.ntmps15
  go_wp2
  go_loopw [7] (fun i wr => ∃ k : Nat, k ≤ 1 ∧ i = .int .i64 (k : Int) ∧ Hid (Keeps (fun k => k = b) w wr) ∧ Hid (Row128 wr b)) (fun i _ => 1 - (intOf i).toNat)
  case atStart => exact ⟨0, by omega, rfl, hidn (Keeps.refl _ _), HR⟩
  case round =>
    obtain ⟨k, hk, rfl, HK, HW⟩ := hrel
    obtain ⟨wo, hwo⟩ : ∃ wo, wo = wr := ⟨_, rfl⟩
    subst hwo
    by_cases h0 : k = 0
    · subst h0
      have c0 : wo.cell? ⟨g, 0, none⟩ = some (.slice (some ⟨b, 0, none⟩) 128 c) := by
        have h1 : wo.heap[g]? = w.heap[g]? := HK.out.block g (Array.getElem?_eq_some_iff.1 HG.out).1 HNE.out
        rw [cell_of_row _ _ _ _ _ _ (h1.trans HG.out)]
        rfl
      have hlt : ((0 : Nat) : Int) < 1 := by omega
      clear hk
      go_wp2
      clear c0
      go_loopw [13] (fun i wr => ∃ j : Nat, j ≤ 128 ∧ i = .int .i64 (j : Int) ∧ Hid (Keeps (fun k => k = b) w wr) ∧ Hid (Row128 wr b)) (fun i _ => 128 - (intOf i).toNat)
      case atStart => exact ⟨0, by omega, rfl, HK, HW⟩
      case round =>
        obtain ⟨j, hj, rfl, HK2, HW2⟩ := hrel
        by_cases hj2 : j < 128
        · have hj3 : (j : Int) < 128 := by omega
          obtain ⟨x, hx, hc, hf⟩ := HW2.out.at j hj2
          obtain ⟨x2, hx2⟩ : ∃ x2, x2 = x ^^^ 255 := ⟨_, rfl⟩
          have hxo : bits .xor .u8 (x : Int) 255 = ((x2 : Nat) : Int) := by rw [hx2]; exact xor8 x 255 hx (by omega)
          have hx3 : x2 < 256 := by rw [hx2]; exact Nat.xor_lt_two_pow (n := 8) hx (by omega)
          have HP := hidn (HW2.out.put j x2 hx3)
          have HK3 := hidn (HK2.out.setCell (p := ⟨b, j, none⟩) rfl (.int .u8 (x2 : Int)))
          clear hx2
          go_wp2
          go_roundw
          case rel => exact ⟨j + 1, hj2, by simp, HK3, HP⟩
          case measure => simp [intOf]; omega
        · have hj3 : ¬ (j : Int) < 128 := by omega
          go_wp2
          go_roundw
          case rel => exact ⟨1, by omega, by simp, HK2, HW2⟩
          case measure => simp [intOf]
    · have hk1 : k = 1 := by omega
      subst hk1
      have hlt : ¬ ((1 : Nat) : Int) < 1 := by omega
      go_wp2
      go_end0
      exact ⟨rfl, HK.out⟩

set_option maxHeartbeats 2000000 in
theorem full_row (w : World) (y0 y1 y2 y3 y4 y6 y7 : Value) (a : Option Addr) (len cap : Nat) (zs : List Nat) (hB : Bs w a len zs) :
    Calls Try.prog 13 #[.agg #[y0, y1, y2, y3, y4, .slice a len cap, y6, y7]] w fun e w' => ∃ b, e = .returned (.slice (some ⟨b, 0, none⟩) 128 128) ∧ w.heap.size ≤ b ∧ b < w'.heap.size ∧ Bs w' (some ⟨b, 0, none⟩) 128 (padTo zs) ∧ Below w.heap.size w w' ∧ Row128 w' b := by
  have hmk := mk128
  obtain ⟨w1, hw1⟩ : ∃ w1, w1 = w.alloc (.cells #[y0, y1, y2, y3, y4, .slice a len cap, y6, y7] 32) := ⟨_, rfl⟩
  have hb1 : Below w.heap.size w w1 := by rw [hw1]; exact (Below.refl _ _).alloc (Nat.le_refl _) _
  have hs1 : w1.heap.size = w.heap.size + 1 := by rw [hw1, World.size_alloc]
  have hb2 : Below w.heap.size w (w1.alloc (.cells zero128 5)) := hb1.alloc hb1.size _
  obtain ⟨w3, m, hcp, hb3, hg3⟩ := copy128 _ w1.heap.size a len cap zs (heap_alloc_new w1 _) (hB.below hb2)
  have B3 := hb2.trans (hb3 w.heap.size hb1.size)
  have hbs := row_bs hg3 (padTo_length zs) (by decide) (padTo_lt hB.2.2.1)
  have hro : Row128 w3 w1.heap.size := ⟨padTo zs, _, hg3, padTo_length zs, padTo_lt hB.2.2.1⟩
  have HF := hidn (show w.heap.size ≤ w1.heap.size ∧ w1.heap.size < w3.heap.size ∧ Bs w3 (some ⟨w1.heap.size, 0, none⟩) 128 (padTo zs) ∧ Below w.heap.size w w3 ∧ Row128 w3 w1.heap.size from ⟨hb1.size, (Array.getElem?_eq_some_iff.1 hg3).1, hbs, B3, hro⟩)
  rw [hs1] at hcp HF
  rw [hw1] at hcp
  clear hb1 hb2 hb3 hg3 B3 hbs hw1 hs1 hB hro
  go_enter Try.func13, Try.ntmps13
  go_wp2
  go_ret
  exact ⟨_, rfl, HF.out⟩
end Go.Proofs.Ytocfbokgbpaneaa
