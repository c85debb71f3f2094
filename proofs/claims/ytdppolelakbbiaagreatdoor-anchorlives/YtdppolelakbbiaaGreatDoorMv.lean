/- slices.Equal of two lists of one spot that are the same. -/
import Derived.Test.YtdppolelakbbiaaGreatDoorMu
import Derived.Test.YtdppolelakbbiaaGreatDoorMe
import Derived.Test.YtdppolelakbbiaaGreatDoorMp
import Derived.Test.YtdppolelakbbiaaGreatDoorRyL
import Derived.Test.YtdppolelakbbiaaGreatDoorMo
import Derived.BigQuiet
import Derived.Deep.QuietTactic
import Derived.Test.YtdppolelakbbiaaGreatDoorTwB
import Derived.Test.YtdppolelakbbiaaGreatDoorMl
import Derived.Test.YtdppolelakbbiaaGreatDoorMt
namespace Go.Proofs.YtdppolelakbbiaaGreatDoor
open Go.RowKit Go.Maps
set_option linter.unusedVariables false
theorem neq_spot (w : World) (s : ByteArray) (i : Int) : (binOp .neq 105 (.agg #[.string s, .int .i64 i]) (.agg #[.string s, .int .i64 i])).run Tryz.prog w = .ok (.bool false) w := by
 rw [run_neq_struct]
 simp [go_sem, Tryz.underlying105]
end Go.Proofs.YtdppolelakbbiaaGreatDoor

namespace Go.Proofs.YtdppolelakbbiaaGreatDoor
open Go.RowKit Go.Maps
set_option linter.unusedVariables false
theorem below_drewN {B : Nat} {a w : World} (h : Below B a w) (n : Nat) : Below B a (w.drewN n) := h.trans ⟨rfl, rfl, rfl, Nat.le_refl _, fun _ _ => rfl⟩
theorem spv_at : ∀ (l : List (List UInt8 × Nat)) (k : Nat) (p : List UInt8 × Nat), l[k]? = some p → (spv l)[k * 2]? = some (encStr p.1) ∧ (spv l)[k * 2 + 1]? = some (.int .i64 (p.2 : Int))
 | a :: r, 0, p, h => by
  obtain rfl : a = p := by simpa using h
  exact ⟨rfl, rfl⟩
 | a :: r, k + 1, p, h => by
  have ih := spv_at r k p (by simpa using h)
  have e : spv (a :: r) = encStr a.1 :: .int .i64 (a.2 : Int) :: spv r := rfl
  rw [e, show (k + 1) * 2 = k * 2 + 1 + 1 from by omega, show k * 2 + 1 + 1 + 1 = (k * 2 + 1) + 1 + 1 from by omega]
  simp only [List.getElem?_cons_succ]
  exact ih
theorem own_at {w : World} {base e size n : Nat} {a : Option Addr} {c : Nat} {xs : List Value} (h : w.ownsRow base e size (.slice a n c) n xs) (h0 : 0 < n) : ∃ g, a = some ⟨g, 0, none⟩ ∧ g < w.heap.size ∧ ∀ j v, xs[j]? = some v → w.cell? ⟨g, j, none⟩ = some v := by
 rcases h.2 with ⟨_, h1⟩ | ⟨g, cap, cur, hv, _, hg, _⟩
 ·
  omega
 ·
  obtain ⟨rfl, _, _⟩ : a = some ⟨g, 0, none⟩ ∧ n = n ∧ c = cap := by simpa using hv
  refine ⟨g, rfl, (lQ3.1 hg).1, fun j v hj => ?_⟩
  have := h.cells (g := g) rfl j v hj
  rw [add_none, Nat.zero_add] at this
  exact this
set_option maxHeartbeats 4000000 in
set_option maxRecDepth 100000 in
theorem strsEq_same (w : World) (a b : Option Addr) (n ca cb b1 b2 : Nat) (ss : List ByteArray) (ha : w.ownsRow b1 9 1 (.slice a n ca) n (ss.map .string)) (hb : w.ownsRow b2 9 1 (.slice b n cb) n (ss.map .string)) (hn : n ≤ 1000000) :
  Calls Tryz.prog 65 #[.slice a n ca, .slice b n cb] w fun e w' => e = .returned (.bool true) ∧ Below w.heap.size w w' := by
 have HA := hidn ha
 have HB := hidn hb
 have HL : Hid (ss.length = n) := hidn (by have := ha.1; simpa using this)
 clear ha hb
 go_enter Tryz.func65, Tryz.ntmps65
 go_wp2
 go_loopw [13] (fun i wr => ∃ k : Nat, k ≤ n ∧ i = .int .i64 k ∧ Below w.heap.size w wr) (fun i wr => n - (intOf i).toNat)
 case atStart => exact ⟨0, Nat.zero_le _, rfl, Below.refl _ _⟩
 case round =>
  obtain ⟨k, hk, rfl, hbl⟩ := hrel
  by_cases hlt : k < n
  ·
   obtain ⟨ga, rfl, hga, hca⟩ := own_at HA.out (by omega)
   obtain ⟨gb, rfl, hgb, hcb⟩ := own_at HB.out (by omega)
   obtain ⟨s, hs⟩ : ∃ s, ss[k]? = some s := ⟨_, lQ6 (by rw [HL.out]; exact hlt)⟩
   have hs2 : (ss.map Value.string)[k]? = some (.string s) := by rw [List.getElem?_map, hs]; rfl
   have c0 : wr.cell? ⟨ga, k, none⟩ = some (.string s) := (hbl.cell (p := ⟨ga, k, none⟩) hga).trans (hca k _ hs2)
   have d0 : wr.cell? ⟨gb, k, none⟩ = some (.string s) := (hbl.cell (p := ⟨gb, k, none⟩) hgb).trans (hcb k _ hs2)
   clear hca hcb hs hs2
   have hse : (s.toList == s.toList) = true := by simp
   have hse2 : (s.toList != s.toList) = false := by simp
   go_wp2
   go_quiet (fail)
   go_wp2
   exact ⟨⟨k + 1, by omega, by go_num, below_drewN hbl _⟩, by simp [intOf]; omega⟩
  ·
   obtain rfl : k = n := by omega
   go_wp2
   go_ret
   exact ⟨rfl, hbl⟩
set_option maxHeartbeats 4000000 in
set_option maxRecDepth 100000 in
theorem spotsEq_same (w : World) (a b : Option Addr) (n ca cb b1 b2 : Nat) (l : List (List UInt8 × Nat)) (ha : w.ownsRow b1 105 2 (.slice a n ca) n (spv l)) (hb : w.ownsRow b2 105 2 (.slice b n cb) n (spv l)) (hl : l.length = n) (hn : n ≤ 1000000) :
  Calls Tryz.prog 69 #[.slice a n ca, .slice b n cb] w fun e w' => e = .returned (.bool true) ∧ Below w.heap.size w w' := by
 have HA := hidn ha
 have HB := hidn hb
 have HL := hidn hl
 clear ha hb hl
 go_enter Tryz.func69, Tryz.ntmps69
 go_wp2
 go_loopw [13] (fun i wr => ∃ k : Nat, k ≤ n ∧ i = .int .i64 k ∧ Below w.heap.size w wr) (fun i wr => n - (intOf i).toNat)
 case atStart => exact ⟨0, Nat.zero_le _, rfl, Below.refl _ _⟩
 case round =>
  obtain ⟨k, hk, rfl, hbl⟩ := hrel
  by_cases hlt : k < n
  ·
   obtain ⟨ga, rfl, hga, hca⟩ := own_at HA.out (by omega)
   obtain ⟨gb, rfl, hgb, hcb⟩ := own_at HB.out (by omega)
   obtain ⟨p, hp⟩ : ∃ p, l[k]? = some p := ⟨_, lQ6 (by rw [HL.out]; exact hlt)⟩
   obtain ⟨q0, q1⟩ := spv_at l k p hp
   obtain ⟨s, hs⟩ : ∃ s : ByteArray, encStr p.1 = .string s := ⟨_, rfl⟩
   rw [hs] at q0
   obtain ⟨z, hz⟩ : ∃ z : Int, z = (p.2 : Int) := ⟨_, rfl⟩
   rw [← hz] at q1
   have c0 : wr.cell? ⟨ga, k * 2, none⟩ = some (.string s) := (hbl.cell (p := ⟨ga, k * 2, none⟩) hga).trans (hca _ _ q0)
   have c1 : wr.cell? ⟨ga, k * 2 + 1, none⟩ = some (.int .i64 z) := (hbl.cell (p := ⟨ga, k * 2 + 1, none⟩) hga).trans (hca _ _ q1)
   have d0 : wr.cell? ⟨gb, k * 2, none⟩ = some (.string s) := (hbl.cell (p := ⟨gb, k * 2, none⟩) hgb).trans (hcb _ _ q0)
   have d1 : wr.cell? ⟨gb, k * 2 + 1, none⟩ = some (.int .i64 z) := (hbl.cell (p := ⟨gb, k * 2 + 1, none⟩) hgb).trans (hcb _ _ q1)
   clear hca hcb hp q0 q1 hs hz
   have hnq := fun wx => neq_spot wx s z
   go_wp2
   go_quiet (fail)
   go_wp2
   exact ⟨⟨k + 1, by omega, by go_num, below_drewN hbl _⟩, by simp [intOf]; omega⟩
  ·
   obtain rfl : k = n := by omega
   go_wp2
   go_ret
   exact ⟨rfl, hbl⟩
def Row128 (w : World) (b : Nat) : Prop := ∃ (cs : List Nat) (t : TypeId), w.heap[b]? = some (.cells (vb cs).toArray t (0, 0)) ∧ cs.length = 128 ∧ ∀ x ∈ cs, x < 256
theorem Row128.put {w : World} {b : Nat} (h : Row128 w b) (j x : Nat) (hx : x < 256) : Row128 (w.setCell ⟨b, j, none⟩ (.int .u8 (x : Int))) b := by
 obtain ⟨cs, t, h1, h2, h3⟩ := h
 refine ⟨cs.set j x, t, ?_, by rw [List.length_set]; exact h2, fun y hy => ?_⟩
 ·
  rw [setCell_eq_setRow _ _ _ _ _ _ _ h1, setRow_heap _ _ _ _ _ _ h1]
  congr 2
  simp [vb, List.map_set]
 ·
  rcases List.mem_or_eq_of_mem_set hy with h | rfl
  ·
   exact h3 y h
  ·
   exact hx
theorem Row128.at {w : World} {b : Nat} (h : Row128 w b) (j : Nat) (hj : j < 128) : ∃ x, x < 256 ∧ w.cell? ⟨b, j, none⟩ = some (.int .u8 ((x : Nat) : Int)) ∧ w.frozen? ⟨b, j, none⟩ = false := by
 obtain ⟨cs, t, h1, h2, h3⟩ := h
 refine ⟨cs.getD j 0, getD_b (by rw [h2]; exact hj) h3, ?_, frozen_of_row _ _ j _ _ h1⟩
 rw [cell_of_row _ _ _ _ _ _ h1, List.getElem?_toArray]
 exact vb_getD cs j (by rw [h2]; exact hj)
theorem spoil_one (w : World) (g b c : Nat) (hg : w.heap[g]? = some (.cells #[.slice (some ⟨b, 0, none⟩) 128 c] 28 (0, 0))) (hr : Row128 w b) (hgb : g ≠ b) :
  Calls Tryz.prog 57 #[.slice (some ⟨g, 0, none⟩) 1 1] w fun e w' => e = .returned (.tuple #[]) ∧ Keeps (fun k => k = b) w w' := by
 have HG := hidn hg
 have HR := hidn hr
 have HNE := hidn hgb
 clear hg hr hgb
 go_enter Tryz.func57, Tryz.ntmps57
 go_wp2
 go_loopw [7] (fun i wr => ∃ k : Nat, k ≤ 1 ∧ i = .int .i64 (k : Int) ∧ Hid (Keeps (fun k => k = b) w wr) ∧ Hid (Row128 wr b)) (fun i _ => 1 - (intOf i).toNat)
 case atStart => exact ⟨0, by omega, rfl, hidn (Keeps.refl _ _), HR⟩
 case round =>
  obtain ⟨k, hk, rfl, HK, HW⟩ := hrel
  obtain ⟨wo, hwo⟩ : ∃ wo, wo = wr := ⟨_, rfl⟩
  subst hwo
  by_cases h0 : k = 0
  ·
   subst h0
   have c0 : wo.cell? ⟨g, 0, none⟩ = some (.slice (some ⟨b, 0, none⟩) 128 c) := by
    have h1 : wo.heap[g]? = w.heap[g]? := HK.out.block g (lQ3.1 HG.out).1 HNE.out
    rw [cell_of_row _ _ _ _ _ _ (h1.trans HG.out)]
    rfl
   have hlt : ((0 : Nat) : Int) < 1 := by omega
   clear hk
   go_wp2
   clear c0
   go_loopw [13] (fun i wr => ∃ j : Nat, j ≤ 128 ∧ i = .int .i64 (j : Int) ∧ Hid (Keeps (fun k => k = b) w wr) ∧ Hid (Row128 wr b)) (fun i _ => 128 - (intOf i).toNat)
   case atStart => exact ⟨0, by omega, rfl, HK, HW⟩
   case round =>
    obtain ⟨j, hj, rfl, HK2, HW2⟩ := hrel
    by_cases hj2 : j < 128
    ·
     have hj3 : (j : Int) < 128 := by omega
     obtain ⟨x, hx, hc, hf⟩ := HW2.out.at j hj2
     obtain ⟨x2, hx2⟩ : ∃ x2, x2 = x ^^^ 255 := ⟨_, rfl⟩
     have hxo : bits .xor .u8 (x : Int) 255 = ((x2 : Nat) : Int) := by rw [hx2]; exact xor8 x 255 hx (by omega)
     have hx3 : x2 < 256 := by rw [hx2]; exact Nat.xor_lt_two_pow (n := 8) hx (by omega)
     have HP := hidn (HW2.out.put j x2 hx3)
     have HK3 := hidn (HK2.out.setCell (p := ⟨b, j, none⟩) rfl (.int .u8 (x2 : Int)))
     clear hx2
     go_wp2
     go_roundw
     case rel => exact ⟨j + 1, hj2, by simp, HK3, HP⟩
     case measure => simp [intOf]; omega
    ·
     have hj3 : ¬ (j : Int) < 128 := by omega
     go_wp2
     go_roundw
     case rel => exact ⟨1, by omega, by simp, HK2, HW2⟩
     case measure => simp [intOf]
  ·
   have hk1 : k = 1 := by omega
   subst hk1
   have hlt : ¬ ((1 : Nat) : Int) < 1 := by omega
   go_wp2
   go_end0
   exact ⟨rfl, HK.out⟩
set_option maxHeartbeats 2000000 in
theorem full_row (w : World) (y0 y1 y2 y3 y4 y6 y7 : Value) (a : Option Addr) (len cap : Nat) (zs : List Nat) (hB : Bs w a len zs) :
  Calls Tryz.prog 55 #[.agg #[y0, y1, y2, y3, y4, .slice a len cap, y6, y7]] w fun e w' => ∃ b, e = .returned (.slice (some ⟨b, 0, none⟩) 128 128) ∧ w.heap.size ≤ b ∧ b < w'.heap.size ∧ Bs w' (some ⟨b, 0, none⟩) 128 (padTo zs) ∧ Below w.heap.size w w' ∧ Row128 w' b := by
 have hmk := mk128
 obtain ⟨w1, hw1⟩ : ∃ w1, w1 = w.alloc (.cells #[y0, y1, y2, y3, y4, .slice a len cap, y6, y7] 31) := ⟨_, rfl⟩
 have hb1 : Below w.heap.size w w1 := by rw [hw1]; exact (Below.refl _ _).alloc (Nat.le_refl _) _
 have hs1 : w1.heap.size = w.heap.size + 1 := by rw [hw1, World.size_alloc]
 have hb2 : Below w.heap.size w (w1.alloc (.cells zero128 5)) := hb1.alloc hb1.size _
 obtain ⟨w3, m, hcp, hb3, hg3⟩ := copy128 _ w1.heap.size a len cap zs (heap_alloc_new w1 _) (hB.below hb2)
 have B3 := hb2.trans (hb3 w.heap.size hb1.size)
 have hbs := row_bs hg3 (padTo_length zs) (by decide) (padTo_lt hB.2.2.1)
 have hro : Row128 w3 w1.heap.size := ⟨padTo zs, _, hg3, padTo_length zs, padTo_lt hB.2.2.1⟩
 have HF := hidn (show w.heap.size ≤ w1.heap.size ∧ w1.heap.size < w3.heap.size ∧ Bs w3 (some ⟨w1.heap.size, 0, none⟩) 128 (padTo zs) ∧ Below w.heap.size w w3 ∧ Row128 w3 w1.heap.size from ⟨hb1.size, (lQ3.1 hg3).1, hbs, B3, hro⟩)
 rw [hs1] at hcp HF
 rw [hw1] at hcp
 clear hb1 hb2 hb3 hg3 B3 hbs hw1 hs1 hB hro
 go_enter Tryz.func55, Tryz.ntmps55
 go_wp2
 go_ret
 exact ⟨_, rfl, HF.out⟩
end Go.Proofs.YtdppolelakbbiaaGreatDoor

namespace Go.Proofs.YtdppolelakbbiaaGreatDoor
open Go.RowKit Go.Maps
set_option linter.unusedVariables false
set_option maxHeartbeats 1000000 in
theorem halvesY_any (w : World) (s : ByteArray) (hs : s.size ≤ 1000) :
  Calls Tryz.prog 48 #[.string s] w fun e w' => e = .returned (.slice (some ⟨w.heap.size, 0, none⟩) 2 2) ∧ w'.heap[w.heap.size]? = some (.cells #[.string (fileA s), .string (fileB s)] 9 (0, 0)) ∧ Below w.heap.size w w' := by
 have ha : s ++ ⟨#[46, 97]⟩ = fileA s := rfl
 have hb : s ++ ⟨#[46, 98]⟩ = fileB s := rfl
 have h1 : s.size + 2 ≤ 1002 := by omega
 go_enter Tryz.func48, Tryz.ntmps48
 go_wp2
 go_ret
 exact ⟨rfl, heap_alloc_new _ _, (Below.refl _ _).alloc (Nat.le_refl _) _⟩
theorem im_cap {w : World} {q : Nat × Nat} {zs : List Nat} (h : Im w q zs) : 128 ≤ q.2 := by
 rcases h.2 with ⟨h1, _⟩ | ⟨g, cap, cur, hv, _, _, hle, _⟩
 ·
  simp [im] at h1
 ·
  obtain ⟨_, _, rfl⟩ : (⟨q.1, 0, none⟩ : Addr) = ⟨g, 0, none⟩ ∧ 128 = 128 ∧ q.2 = cap := by simpa [im] using hv
  exact hle
theorem own_baseL {w : World} {base b0 e size n : Nat} {v : Value} {xs : List Value} (h : w.ownsRow base e size v n xs) (hb : b0 ≤ base) : w.ownsRow b0 e size v n xs := by
 obtain ⟨hl, h1⟩ := h
 refine ⟨hl, ?_⟩
 rcases h1 with h1 | ⟨g, cap, cur, hv, hg, r⟩
 ·
  exact .inl h1
 ·
  exact .inr ⟨g, cap, cur, hv, lQ1 hb hg, r⟩
theorem readY_all (w : World) (y : Nat) (F : Nat → Prop) (room : Int) (st : St) (h : DiskY w y F room st) (hF : ∀ k, F k → k < w.heap.size) (s : ByteArray) (i : Int) :
  Calls Tryz.prog 49 #[.pointer (some ⟨y, 0, none⟩), .string s, .int .i64 i] w fun e w' => ∃ a len c z r, e = .returned (.tuple #[.slice a len c, .int .i64 r]) ∧ Bs w' a len z ∧ len ≤ c ∧ Hid (∀ nm, openB z nm i = rdO (st.M s.data.toList) nm i) ∧ Below w.heap.size w w' := by
 obtain ⟨fa, fc, R, hR, hV⟩ := h
 obtain ⟨hl, hsm⟩ := hV.short
 have hlen : (extY R s).length = (st.M s.data.toList).length := by rw [ext_len, hV.ext]
 by_cases hi : i < 0 ∨ ((extY R s).length : Int) ≤ i
 ·
  refine (readY_no w y F fa fc R room st.fuse hR hF s hl i _ (hidn rfl) hi).mono ?_
  rintro e w' ⟨rfl, hb⟩
  refine ⟨none, 0, 0, [], 30, rfl, Bs.nil _, Nat.le_refl _, hidn (fun nm => ?_), hb⟩
  rw [openB_nil]
  unfold rdO
  rcases hi with hi | hi
  ·
   rw [if_pos hi]
  ·
   split
   ·
    rfl
   ·
    rw [List.getElem?_eq_none (by rw [← hlen]; omega)]; rfl
 ·
  obtain ⟨j, rfl⟩ : ∃ j : Nat, i = (j : Int) := ⟨i.toNat, by omega⟩
  cases hp : placeY R s with
  | none =>
   have := (place_view_no hV hp).1
   rw [this] at hlen
   rw [hlen] at hi
   simp at hi
  | some k =>
   obtain ⟨f, hf, _⟩ := place_at hp
   obtain ⟨hn, hM⟩ := place_view hV hp hf
   have hj : j < f.l.length := by rw [hlen, hM, List.length_map] at hi; omega
   obtain ⟨c, hc⟩ : ∃ c, f.l[j]? = some c := ⟨_, lQ6 hj⟩
   have hok : c.x.ok := ((hR.ok f (lQ7 hf)).2.2) c (lQ7 hc)
   have hrdl : c.x.rd.length = 128 ∧ ∀ z ∈ c.x.rd, z < 256 := by
    obtain ⟨o1, o2, o3⟩ := hok
    unfold Ext.rd
    split
    ·
     exact o3
    ·
     exact o1
   refine (readY_yes w y F fa fc R room st.fuse hR hF s hl j k f c hp hf hc (by have := sumL_at hf hsm; omega)).mono ?_
   rintro e w' ⟨q, rfl, him, hq, hb⟩
   refine ⟨_, 128, q.2, c.x.rd, 0, rfl, him.bs hrdl.1 hrdl.2, im_cap him, hidn (fun nm => ?_), hb⟩
   unfold rdO
   rw [if_neg (by omega), Int.toNat_natCast, hM, getE_map hc]
   rfl
def BestY (base : Nat) (cur : Option (List Nat × Nat)) (gv pv : Value) (w : World) : Prop :=
 match cur with
 | none => gv = .int .i64 (-1) ∧ pv = .slice none 0 0
 | some (p, g) => gv = .int .i64 (g : Int) ∧ w.ownsRow base 5 1 pv p.length (vb p)
theorem BestY.below {base : Nat} {cur : Option (List Nat × Nat)} {gv pv : Value} {w w' : World} (h : BestY base cur gv pv w) (hb : Below w.heap.size w w') : BestY base cur gv pv w' := by
 cases cur with
 | none => exact h
 | some x => exact ⟨h.1, own_below h.2 hb⟩
set_option maxHeartbeats 4000000 in
theorem getY_all (w : World) (y : Nat) (F : Nat → Prop) (room : Int) (st : St) (h : DiskY w y F room st) (hF : ∀ k, F k → k < w.heap.size) (s : ByteArray) (hs : s.size ≤ 1000) (i : Int) :
  Calls Tryz.prog 22 #[.pointer (some ⟨y, 0, none⟩), .string s, .int .i64 i] w (GetPost w (getP st.M s i)) := by
 have HD := hidn h
 have HF := hidn hF
 have hHv := fun wx => halvesY_any wx s hs
 have hsA : (fileA s).size ≤ maxLen := by
  have : (fileA s).size = s.size + 2 := by show (s ++ (⟨#[46, 97]⟩ : ByteArray)).size = _; rw [ByteArray.size_append]; rfl
  rw [this]; unfold maxLen; omega
 have hsB : (fileB s).size ≤ maxLen := by
  have : (fileB s).size = s.size + 2 := by show (s ++ (⟨#[46, 98]⟩ : ByteArray)).size = _; rw [ByteArray.size_append]; rfl
  rw [this]; unfold maxLen; omega
 have hP : getP st.M s i = getO (rdO (st.M (fileA s).data.toList) (nums (fileA s)) i) (rdO (st.M (fileB s).data.toList) (nums (fileB s)) i) := rfl
 rw [hP]
 obtain ⟨fa, hfa⟩ : ∃ fa, fa = fileA s := ⟨_, rfl⟩
 obtain ⟨fb, hfb⟩ : ∃ fb, fb = fileB s := ⟨_, rfl⟩
 rw [← hfa, ← hfb] at hHv
 rw [← hfa] at hsA ⊢
 rw [← hfb] at hsB ⊢
 obtain ⟨rA, hrA⟩ : ∃ rA, rA = rdO (st.M fa.data.toList) (nums fa) i := ⟨_, rfl⟩
 obtain ⟨rB, hrB⟩ : ∃ rB, rB = rdO (st.M fb.data.toList) (nums fb) i := ⟨_, rfl⟩
 rw [← hrA, ← hrB]
 have HRA := hidn hrA
 have HRB := hidn hrB
 clear hP hfa hfb hrA hrB h hF
 go_enter Tryz.func22, Tryz.ntmps22
 go_wp2_with fail
 refine (hHv _).mono ?_
 rintro e w1 ⟨rfl, hrow, hb1⟩
 have HRow := hidn hrow
 have HB1 := hidn hb1
 have hw1 : w.heap.size < w1.heap.size := (lQ3.1 hrow).1
 clear hHv hrow hb1
 go_wp2_with fail
 go_loopw [9, 10, 21] (fun gv pv iv wr => ∃ k : Nat, iv = .int .i64 k ∧ Hid (Below w1.heap.size w1 wr) ∧ ((k = 0 ∧ gv = .int .i64 (-1) ∧ pv = .slice none 0 0) ∨ (k = 1 ∧ Hid (BestY w.heap.size rA gv pv wr)) ∨ (k = 2 ∧ Hid (BestY w.heap.size (getO rA rB) gv pv wr)))) (fun gv pv iv _ => 2 - (intOf iv).toNat)
 case atStart => exact ⟨0, rfl, hidn (Below.refl _ _), Or.inl ⟨rfl, rfl, rfl⟩⟩
 case round =>
  obtain ⟨k, rfl, HBk, (⟨rfl, rfl, rfl⟩ | ⟨rfl, hBV⟩ | ⟨rfl, hBV⟩)⟩ := hrel
  ·
   have c0 : wr.cell? ⟨w.heap.size, 0, none⟩ = some (.string fa) := by rw [cell_of_row _ _ _ _ _ _ ((HBk.out.block _ hw1).trans HRow.out)]; rfl
   have hDk := hidn (HD.out.below HF.out (HB1.out.trans (HBk.out.mono HB1.out.size)))
   have hFk : ∀ k, F k → k < wr.heap.size := fun k hk => by have := HF.out k hk; have := HB1.out.size; have := HBk.out.size; omega
   go_wp2_with fail
   refine (readY_all _ y F room st hDk.out hFk fa i).mono ?_
   rintro e w6 ⟨a6, l6, c6, z6, r6, rfl, hB6, hc6, HO6, hbl6⟩
   have HB6 := hidn (HBk.out.trans (hbl6.mono HBk.out.size))
   have HOp := hidn (refOpen_any fa i a6 l6 c6 z6 w6 hB6 hc6 hsA)
   rw [HO6.out, ← HRA.out] at HOp
   clear hbl6 hB6 hDk hFk c0
   go_wp2_with fail
   refine HOp.out.mono ?_
   clear HOp
   rintro e w7 ⟨hb7, ho7⟩
   have HB7 := hidn (HB6.out.trans (hb7.mono HB6.out.size))
   have hs67 : w.heap.size ≤ w6.heap.size := by have := HB6.out.size; omega
   clear hb7
   cases hra : rA with
   | none =>
    rw [hra] at ho7
    obtain rfl := (show e = .returned (.tuple #[.slice none 0 0, .int .i64 0, .int .i64 40]) from ho7)
    have HE : Hid (BestY w.heap.size rA (.int .i64 (-1)) (.slice none 0 0) w7) := hidn (by rw [hra]; exact ⟨rfl, rfl⟩)
    clear ho7 hra
    go_wp2
    go_roundw
    case rel => exact ⟨1, by first | rfl | go_num | simp, HB7, Or.inr (Or.inl ⟨rfl, HE⟩)⟩
    case measure => simp [intOf]
   | some x =>
    obtain ⟨p, g⟩ := x
    rw [hra] at ho7
    obtain ⟨v, rfl, hown⟩ := (show ∃ v, e = .returned (.tuple #[v, .int .i64 (g : Int), .int .i64 0]) ∧ w7.ownsRow w6.heap.size 5 1 v p.length (vb p) from ho7)
    obtain ⟨va, vc, rfl⟩ := own_sliceG hown
    have HE : Hid (BestY w.heap.size rA (.int .i64 (g : Int)) (.slice va p.length vc) w7) := hidn (by rw [hra]; exact ⟨rfl, own_baseL hown hs67⟩)
    have hgt : decide ((-1 : Int) < (g : Int)) = true := by simp; omega
    have hgt2 : (-1 : Int) < (g : Int) := by omega
    clear ho7 hra hown
    go_wp2
    go_roundw
    case rel => exact ⟨1, by first | rfl | go_num | simp, HB7, Or.inr (Or.inl ⟨rfl, HE⟩)⟩
    case measure => simp [intOf]
  ·
   have c1 : wr.cell? ⟨w.heap.size, 1, none⟩ = some (.string fb) := by rw [cell_of_row _ _ _ _ _ _ ((HBk.out.block _ hw1).trans HRow.out)]; rfl
   have hDk := hidn (HD.out.below HF.out (HB1.out.trans (HBk.out.mono HB1.out.size)))
   have hFk : ∀ k, F k → k < wr.heap.size := fun k hk => by have := HF.out k hk; have := HB1.out.size; have := HBk.out.size; omega
   go_wp2_with fail
   refine (readY_all _ y F room st hDk.out hFk fb i).mono ?_
   rintro e w6 ⟨a6, l6, c6, z6, r6, rfl, hB6, hc6, HO6, hbl6⟩
   have HB6 := hidn (HBk.out.trans (hbl6.mono HBk.out.size))
   have HV6 := hidn (hBV.out.below hbl6)
   have HOp := hidn (refOpen_any fb i a6 l6 c6 z6 w6 hB6 hc6 hsB)
   rw [HO6.out, ← HRB.out] at HOp
   clear hbl6 hB6 hDk hFk c1 hBV
   go_wp2_with fail
   refine HOp.out.mono ?_
   clear HOp
   rintro e w7 ⟨hb7, ho7⟩
   have HB7 := hidn (HB6.out.trans (hb7.mono HB6.out.size))
   have HV7 := hidn (HV6.out.below hb7)
   have hs67 : w.heap.size ≤ w6.heap.size := by have := HB6.out.size; omega
   clear hb7 HV6
   cases hrb : rB with
   | none =>
    rw [hrb] at ho7
    obtain rfl := (show e = .returned (.tuple #[.slice none 0 0, .int .i64 0, .int .i64 40]) from ho7)
    have HE : Hid (BestY w.heap.size (getO rA rB) u9 u10 w7) := hidn (by
     rw [hrb]
     have := HV7.out
     cases hra : rA with
     | none => rw [hra] at this; exact this
     | some x => rw [hra] at this; exact this)
    clear ho7 hrb HV7
    go_wp2
    go_roundw
    case rel => exact ⟨2, by first | rfl | go_num | simp, HB7, Or.inr (Or.inr ⟨rfl, HE⟩)⟩
    case measure => simp [intOf]
   | some x =>
    obtain ⟨p, g⟩ := x
    rw [hrb] at ho7
    obtain ⟨v, rfl, hown⟩ := (show ∃ v, e = .returned (.tuple #[v, .int .i64 (g : Int), .int .i64 0]) ∧ w7.ownsRow w6.heap.size 5 1 v p.length (vb p) from ho7)
    obtain ⟨va, vc, rfl⟩ := own_sliceG hown
    have hown2 := own_baseL hown hs67
    clear ho7 hown
    cases hra : rA with
    | none =>
     have hv := HV7.out
     rw [hra] at hv
     obtain ⟨rfl, rfl⟩ := hv
     have HE : Hid (BestY w.heap.size (getO rA rB) (.int .i64 (g : Int)) (.slice va p.length vc) w7) := hidn (by rw [hra, hrb]; exact ⟨rfl, hown2⟩)
     have hgt : decide ((-1 : Int) < (g : Int)) = true := by simp; omega
     have hgt2 : (-1 : Int) < (g : Int) := by omega
     clear hra hrb hown2 HV7
     go_wp2
     go_roundw
     case rel => exact ⟨2, by first | rfl | go_num | simp, HB7, Or.inr (Or.inr ⟨rfl, HE⟩)⟩
     case measure => simp [intOf]
    | some x =>
     obtain ⟨p0, g0⟩ := x
     have hv := HV7.out
     rw [hra] at hv
     obtain ⟨rfl, hown0⟩ := (show u9 = .int .i64 (g0 : Int) ∧ w7.ownsRow w.heap.size 5 1 u10 p0.length (vb p0) from hv)
     clear hv HV7
     by_cases hgg : g0 < g
     ·
      have HE : Hid (BestY w.heap.size (getO rA rB) (.int .i64 (g : Int)) (.slice va p.length vc) w7) := hidn (by rw [hra, hrb]; show BestY w.heap.size (if g0 < g then some (p, g) else some (p0, g0)) _ _ _; rw [if_pos hgg]; exact ⟨rfl, hown2⟩)
      have hgt : decide ((g0 : Int) < (g : Int)) = true := by simp; omega
      have hgt2 : (g0 : Int) < (g : Int) := by omega
      have hgt3 : decide (g0 < g) = true := decide_eq_true hgg
      clear hra hrb hown2 hown0
      go_wp2
      go_roundw
      case rel => exact ⟨2, by first | rfl | go_num | simp, HB7, Or.inr (Or.inr ⟨rfl, HE⟩)⟩
      case measure => simp [intOf]
     ·
      have HE : Hid (BestY w.heap.size (getO rA rB) (.int .i64 (g0 : Int)) u10 w7) := hidn (by rw [hra, hrb]; show BestY w.heap.size (if g0 < g then some (p, g) else some (p0, g0)) _ _ _; rw [if_neg hgg]; exact ⟨rfl, hown0⟩)
      have hgt : decide ((g0 : Int) < (g : Int)) = false := by simp; omega
      have hgt2 : ¬ (g0 : Int) < (g : Int) := by omega
      have hgt3 : decide (g0 < g) = false := decide_eq_false hgg
      clear hra hrb hown2 hown0
      go_wp2
      go_roundw
      case rel => exact ⟨2, by first | rfl | go_num | simp, HB7, Or.inr (Or.inr ⟨rfl, HE⟩)⟩
      case measure => simp [intOf]
  ·
   have HBz := hidn (HB1.out.trans (HBk.out.mono HB1.out.size))
   cases hr : getO rA rB with
   | none =>
    have hv := hBV.out
    rw [hr] at hv
    obtain ⟨rfl, rfl⟩ := hv
    have HRR := hidn hr
    clear hr hBV
    go_wp2
    go_ret3
    refine ⟨HBz.out, ?_⟩
    rw [HRR.out]
    exact rfl
   | some x =>
    obtain ⟨p, g⟩ := x
    have hv := hBV.out
    rw [hr] at hv
    obtain ⟨rfl, hown⟩ := (show u9 = .int .i64 (g : Int) ∧ wr.ownsRow w.heap.size 5 1 u10 p.length (vb p) from hv)
    have HO := hidn hown
    have hg0 : decide ((g : Int) < 0) = false := by simp
    have hg1 : ¬ (g : Int) < 0 := by omega
    have HRR := hidn hr
    clear hr hBV hv hown
    go_wp2
    go_ret3
    refine ⟨HBz.out, ?_⟩
    rw [HRR.out]
    exact ⟨u10, rfl, HO.out⟩
end Go.Proofs.YtdppolelakbbiaaGreatDoor
