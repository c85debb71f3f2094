/- The writer of bits: what it holds, and its method part. -/
import Derived.Test.YtfgfkifdokeefaaDoorCodMath
import Derived.Test.YtfgfkifdokeefaaDoorDrawn
import Derived.Lib.OthersKept
import Derived.Lib.FrozenHead2
import Derived.Lib.SmallJoins
namespace Go.Proofs.YtfgfkifdokeefaaDoor.Cd
open Go.RowKit Go.Joins
set_option linter.unusedVariables false

theorem hidn {p : Prop} (h : p) : Hid p := h
/-- A writer in memory: its block b, its whole bytes in a row of its own, its tail. -/
def WI (w : World) (B b : Nat) (L : List Bool) : Prop :=
  B ≤ b ∧ ∃ (v : Value) (zs ys : List Nat) (T : List Bool) (a : Option Addr) (cap : Nat),
    w.heap[b]? = some (.cells #[v, .slice a ys.length cap, .int .i64 (T.length : Nat)] 81 (0, 0)) ∧
    w.ownsRow B 5 1 v zs.length (vb zs) ∧ Bs w a ys.length ys ∧ WS zs ys T L ∧ (a = none → cap = 0)

theorem bs_drop {w : World} {g off y m : Nat} {ys : List Nat} (h : Bs w (some ⟨g, off, none⟩) y ys) (hm : m ≤ y) : Bs w (if y = m then some ⟨g, off, none⟩ else some ⟨g, off + m, none⟩) (y - m) (ys.drop m) := by
  obtain ⟨h1, h2, h3, h4, h5⟩ := h
  refine ⟨by simp [h1], by omega, fun x hx => h3 x (List.mem_of_mem_drop hx), ?_, fun x hx j hj => ?_⟩
  · intro hn; split at hn <;> cases hn
  · rw [if_neg (by omega)] at hx
    cases hx
    have := h5 _ rfl (m + j) (by omega)
    rw [add_none] at this ⊢
    rw [show off + m + j = off + (m + j) from by omega, this]
    simp [List.getD_eq_getElem?_getD, List.getElem?_drop]
theorem own_setCell {w : World} {base e size n : Nat} {v : Value} {xs : List Value} (h : w.ownsRow base e size v n xs) {a : Addr} (ha : v.ownBlock ≠ some a.block) (u : Value) : (w.setCell a u).ownsRow base e size v n xs := by
  obtain ⟨hl, h1⟩ := h
  refine ⟨hl, ?_⟩
  rcases h1 with h1 | ⟨g, cap, cur, rfl, hg, hh, r⟩
  · exact .inl h1
  · refine .inr ⟨g, cap, cur, rfl, hg, ?_, r⟩
    rw [Below.heap_setCell _ _ _ _ (fun e => ha (by simp [Value.ownBlock, e]))]
    exact hh
theorem own_slice {w : World} {base e size n : Nat} {v : Value} {xs : List Value} (h : w.ownsRow base e size v n xs) : ∃ a c, v = .slice a n c := by
  rcases h.2 with ⟨rfl, rfl⟩ | ⟨g, cap, cur, rfl, _⟩
  · exact ⟨_, _, rfl⟩
  · exact ⟨_, _, rfl⟩
theorem bs_setCell {w : World} {a : Option Addr} {len : Nat} {zs : List Nat} (h : Bs w a len zs) {p : Addr} (hp : ∀ x, a = some x → x.block ≠ p.block) (u : Value) : Bs (w.setCell p u) a len zs := by
  obtain ⟨h1, h2, h3, h4, h5⟩ := h
  refine ⟨h1, h2, h3, h4, fun x hx j hj => ?_⟩
  have h6 := h5 x hx j hj
  have hne : p ≠ x.add j := by
    intro h
    have := congrArg Addr.block h
    have hb : (x.add j).block = x.block := by unfold Addr.add; split <;> rfl
    exact hp x hx (by rw [this, hb])
  exact (World.cell?_setCell_other (w := _) (a := _) (b := _) (v := _) hne).trans h6
theorem bs_drew {w : World} {a : Option Addr} {len : Nat} {zs : List Nat} (h : Bs w a len zs) : Bs w.drew a len zs := h
theorem bs_take_cells {w : World} {g off y m : Nat} {ys : List Nat} (h : Bs w (some ⟨g, off, none⟩) y ys) (hm : m ≤ y) : ∀ (j : Nat) (u : Value), (vb (ys.take m))[j]? = some u → w.cell? ((⟨g, off, none⟩ : Addr).add j) = some u := by
  intro j u hj
  have hlt := (List.getElem?_eq_some_iff.1 hj).1
  rw [length_vb, List.length_take, h.1] at hlt
  rw [vb_getD _ _ (by rw [List.length_take, h.1]; exact hlt)] at hj
  cases hj
  have := h.2.2.2.2 _ rfl j (by omega)
  rw [this]
  simp [List.getD_eq_getElem?_getD, show j < m from by omega]
theorem app_run {o : Oper} {a : Act} {w w' : World} {t u : TypeId} {x y : Operand} {vx vy v : Value} (ho : o.op = .call { callee := .builtin .append, args := #[x, y], argTypes := #[t, u] }) (hx : a.eval x = vx) (hy : a.eval y = vy) (hr : (Builtin.append_ #[t, u] o.type #[vx, vy]).run Tryd.prog w = .ok v w') : (execOp a.eval o).run Tryd.prog w = .ok (.value v) w' := by
  unfold execOp
  simp only [ho, resolve, invoke, builtin, Sem.run_bind, Sem.run_pure, Result.andThen_ok, List.map_toArray, List.map_cons, List.map_nil, hx, hy, hr]

set_option maxHeartbeats 2000000 in
set_option maxRecDepth 100000 in
theorem part_any (B b g : Nat) (v : Value) (a0 : Option Addr) (l0 k0 : Nat) (n0 : Int) (zs ys : List Nat) (T : List Bool) (w : World) (hBb : B ≤ b) (hBw : B ≤ w.heap.size)
    (hb : w.heap[b]? = some (.cells #[v, .slice a0 l0 k0, .int .i64 n0] 81 (0, 0)))
    (hown : w.ownsRow B 5 1 v zs.length (vb zs)) (hz : isB zs) (hB : Bs w (some ⟨g, 0, none⟩) ys.length ys) (hg : v.ownBlock ≠ some g) (hgb : g ≠ b) (hp : IsPack ys T) (hlen : 8 * zs.length + T.length ≤ 1099511627776) :
    Calls Tryd.prog 52 #[.pointer (some ⟨b, 0, none⟩), .agg #[.slice (some ⟨g, 0, none⟩) ys.length ys.length, .int .i64 (T.length : Nat)]] w fun e w' =>
      e = .returned (.tuple #[]) ∧ WI w' B b (bitsL zs (8 * zs.length) ++ T) ∧ Below B w w' ∧ Lib.OthersKept 5 (some b) w w' := by
  obtain ⟨i0, hi, hz0, hz1, hz2⟩ := info_parts Tryd.info5
  have hws := hidn (WS.part hz hp rfl)
  have hyl := hp.1
  obtain ⟨n, hn⟩ : ∃ n, n = T.length := ⟨_, rfl⟩
  obtain ⟨y, hy⟩ : ∃ y, y = ys.length := ⟨_, rfl⟩
  rw [← hn] at hlen hyl hws ⊢
  rw [← hy] at hB hyl ⊢
  have hf : n / 8 ≤ y := by rw [hyl]; unfold nb; omega
  have hfi : ((n : Int) / 8) ≤ (y : Int) := by omega
  have hyb : y ≤ 137438953472 := by rw [hyl]; unfold nb; omega
  have HN := hidn hn
  have HY := hidn hy
  have hblt : b < w.heap.size := (Array.getElem?_eq_some_iff.1 hb).1
  have c0 : w.cell? ⟨b, 0, none⟩ = some v := cell_of_row _ _ _ _ _ _ hb
  have f0 : w.frozen? ⟨b, 0, none⟩ = false := unfrozen_of_block hb _
  have f1 : w.frozen? ⟨b, 1, none⟩ = false := unfrozen_of_block hb _
  have f2 : w.frozen? ⟨b, 2, none⟩ = false := unfrozen_of_block hb _
  clear hn hy hyl
  go_enter Tryd.func52, Tryd.ntmps52
  go_wp2_with fail
  have hP0 := heap_alloc_new w (.cells #[.slice (some ⟨g, 0, none⟩) y y, .int .i64 (n : Int)] 79)
  have hb1 : (w.alloc (.cells #[.slice (some ⟨g, 0, none⟩) y y, .int .i64 (n : Int)] 79)).heap[b]? = _ := (Below.heap_alloc _ _ _ hblt).trans hb
  have hown1 := hown.alloc (.cells #[.slice (some ⟨g, 0, none⟩) y y, .int .i64 (n : Int)] 79)
  have hB1 := hB.below ((Below.refl w.heap.size w).alloc (Nat.le_refl _) (.cells #[.slice (some ⟨g, 0, none⟩) y y, .int .i64 (n : Int)] 79))
  have hK1 := (Lib.OthersKept.refl 5 none w).alloc (.cells #[.slice (some ⟨g, 0, none⟩) y y, .int .i64 (n : Int)] 79)
  have hL1 := (Below.refl B w).alloc hBw (.cells #[.slice (some ⟨g, 0, none⟩) y y, .int .i64 (n : Int)] 79)
  have hpb : w.heap.size ≠ b := by omega
  have hs1 : (w.alloc (.cells #[.slice (some ⟨g, 0, none⟩) y y, .int .i64 (n : Int)] 79)).heap.size = w.heap.size + 1 := by simp
  obtain ⟨p, hp0⟩ : ∃ p, p = w.heap.size := ⟨_, rfl⟩
  rw [← hp0] at hP0 hpb hs1 ⊢
  have HP0 := hidn hp0
  generalize hW : w.alloc (.cells #[.slice (some ⟨g, 0, none⟩) y y, .int .i64 (n : Int)] 79) = W at *
  clear hW hp0
  have c0' : W.drew.cell? ⟨b, 0, none⟩ = some v := cell_of_row _ _ _ _ _ _ hb1
  have hPd : W.drew.heap[p]? = some (.cells #[.slice (some ⟨g, 0, none⟩) y y, .int .i64 (n : Int)] 79 (0, 0)) := hP0
  obtain ⟨m, hm⟩ : ∃ m, m = n / 8 := ⟨_, rfl⟩
  have hmi : (n : Int) / 8 = (m : Int) := by omega
  rw [← hm] at hf hws
  have HM := hidn hm
  have hmy : (m : Int) ≤ (y : Int) := by omega
  rw [hmi] at hfi ⊢
  clear hm hmi
  have hBW : B ≤ W.heap.size := by have := HP0.out; omega
  obtain ⟨v2, w2, hrun, hown2, hgr, _⟩ := run_append_own (P := Tryd.prog) W.drew B 25 25 5 i0 (.int .u8 0) 1 1 Tryd.underlying25 hi hz0 hz1 hz2 rfl (by decide) v zs.length (vb zs) hown1 ⟨g, 0, none⟩ m y (vb (ys.take m)) (by rw [length_vb, List.length_take, hB.1]; omega) (bs_take_cells (bs_drew hB1) hf) (one_vb _) (by unfold maxLen; omega) (by omega) hBW
  obtain ⟨a2, k2, rfl⟩ := own_slice hown2
  have hK2n : Lib.OthersKept 5 none w w2 := hK1.drew.grown hgr (by
    intro q hq
    obtain ⟨c, fz, hc⟩ := Lib.ownsRowF_kind (World.ownsRowF_of hown1) q hq
    exact ⟨c, fz, hc⟩)
  have hK2 : Lib.OthersKept 5 (some b) w w2 := fun k o h1 _ h3 => hK2n k o h1 (fun h => by cases h) h3
  have hb2 : w2.heap[b]? = some (.cells #[v, .slice a0 l0 k0, .int .i64 n0] 81 (0, 0)) := hK2n b _ hb (fun h => by cases h) (fun c f h => by cases h)
  have hP2 : w2.heap[p]? = some (.cells #[.slice (some ⟨g, 0, none⟩) y y, .int .i64 (n : Int)] 79 (0, 0)) := by
    have hlt : p < W.drew.heap.size := by show p < W.heap.size; omega
    rw [hgr.block p hlt (fun h => ?_)]
    · exact hPd
    · obtain ⟨c, fz, hc⟩ := Lib.ownsRowF_kind (World.ownsRowF_of hown1) p h.symm
      rw [hP0] at hc
      cases hc
  have hB2 : Bs w2 (some ⟨g, 0, none⟩) y ys := by
    obtain ⟨h1, h2, h3, h4, h5⟩ := hB1
    refine ⟨h1, h2, h3, h4, fun x hx j hj => ?_⟩
    have h6 := h5 x hx j hj
    cases hx
    rw [add_none] at h6 ⊢
    exact hgr.cell h6 (fun h => hg h.symm)
  have hL2 : Below B w w2 := hL1.drew.grown hgr hBW (fun k hk => (hown1.lt k hk).1)
  have d0 : w2.cell? ⟨b, 0, none⟩ = some v := cell_of_row _ _ _ _ _ _ hb2
  have e0 : w2.frozen? ⟨b, 0, none⟩ = false := unfrozen_of_block hb2 _
  generalize hWd : W.drew = wd at *
  refine wp_region_noPanic ?_
  refine wp_region_held_drew (S := fun w' => w'.heap[p]? = some (.cells #[.slice (some ⟨g, 0, none⟩) y y, .int .i64 (n : Int)] 79 (0, 0))) (by kernel_rfl) (by rw [hWd]; exact hPd) (fun hHeld => ?_)
  rw [hWd] at hHeld ⊢
  refine drawn_take (i := 0) (v := .pointer (some ⟨b, 0, none⟩)) (some 8) rfl rfl (by kernel_rfl) (by kernel_rfl) (by kernel_rfl) (fun _ _ _ h => h) (Or.inl ⟨by kernel_rfl, fun wq hw => by go_simp⟩) hHeld ?_
  simp only [Act.put, List.setIfInBounds_toArray, List.set_cons_succ, List.set_cons_zero]
  refine drawn_take (i := 1) (v := .pointer (some ⟨b, 0, none⟩)) (some 9) rfl rfl (by kernel_rfl) (by kernel_rfl) (by kernel_rfl) (fun _ _ _ h => h) (Or.inl ⟨by kernel_rfl, fun wq hw => by go_simp⟩) hHeld ?_
  simp only [Act.put, List.setIfInBounds_toArray, List.set_cons_succ, List.set_cons_zero]
  refine drawn_take (i := 2) (v := .pointer (some ⟨b, 0, none⟩)) (some 10) rfl rfl (by kernel_rfl) (by kernel_rfl) (by kernel_rfl) (fun _ _ _ h => h) (Or.inl ⟨by kernel_rfl, fun wq hw => by go_simp⟩) hHeld ?_
  simp only [Act.put, List.setIfInBounds_toArray, List.set_cons_succ, List.set_cons_zero]
  refine drawn_take (i := 3) (v := .pointer (some ⟨b, 0, none⟩)) (some 11) rfl rfl (by kernel_rfl) (by kernel_rfl) (by kernel_rfl) (fun _ _ _ h => h) (Or.inl ⟨by kernel_rfl, fun wq hw => by go_simp⟩) hHeld ?_
  simp only [Act.put, List.setIfInBounds_toArray, List.set_cons_succ, List.set_cons_zero]
  refine drawn_take (i := 5) (v := .pointer (some ⟨p, 0, none⟩)) (some 13) rfl rfl (by kernel_rfl) (by kernel_rfl) (by kernel_rfl) (fun _ _ _ h => h) (Or.inl ⟨by kernel_rfl, fun wq hw => by go_simp⟩) hHeld ?_
  simp only [Act.put, List.setIfInBounds_toArray, List.set_cons_succ, List.set_cons_zero]
  refine drawn_take (i := 6) (v := .slice (some ⟨g, 0, none⟩) y y) (some 14) rfl rfl (by kernel_rfl) (by kernel_rfl) (by kernel_rfl) (fun _ _ _ h => h) (Or.inl ⟨by kernel_rfl, fun wq hw => by have q0 : wq.cell? ⟨p, 0, none⟩ = some (.slice (some ⟨g, 0, none⟩) y y) := cell_of_row _ _ _ _ _ _ hw; go_simp⟩) hHeld ?_
  simp only [Act.put, List.setIfInBounds_toArray, List.set_cons_succ, List.set_cons_zero]
  refine drawn_take (i := 7) (v := .int .i64 (m : Int)) (some 15) rfl rfl (by kernel_rfl) (by kernel_rfl) (by kernel_rfl) (fun _ _ _ h => h) (Or.inl ⟨by kernel_rfl, fun wq hw => by go_simp⟩) hHeld ?_
  simp only [Act.put, List.setIfInBounds_toArray, List.set_cons_succ, List.set_cons_zero]
  refine drawn_take (i := 8) (v := .slice (some ⟨g, 0, none⟩) m y) (some 16) rfl rfl (by kernel_rfl) (by kernel_rfl) (by kernel_rfl) (fun _ _ _ h => h) (Or.inl ⟨by kernel_rfl, fun wq hw => by go_simp⟩) hHeld ?_
  simp only [Act.put, List.setIfInBounds_toArray, List.set_cons_succ, List.set_cons_zero]
  refine wpAnyH_ready (rs := [4]) (by kernel_rfl) (by simp) ?_
  refine rdy_val (i := 4) rfl rfl (some 12) rfl (v) (wd) (by go_simp) (hPd) (fun hHeld => ?_) rdy_nil
  simp only [Act.put, List.setIfInBounds_toArray, List.set_cons_succ, List.set_cons_zero]
  refine wpAnyH_ready (rs := [9]) (by kernel_rfl) (by simp) ?_
  refine rdy_val (i := 9) rfl rfl (some 17) rfl ((.slice a2 (zs.length + m) k2)) (w2) (app_run (x := .tmp 12) (y := .tmp 16) (by kernel_rfl) (by kernel_rfl) (by kernel_rfl) hrun) (hP2) (fun hHeld => ?_) rdy_nil
  simp only [Act.put, List.setIfInBounds_toArray, List.set_cons_succ, List.set_cons_zero]
  refine drawn_take (i := 10) (v := .pointer (some ⟨b, 0, none⟩)) (some 18) rfl rfl (by kernel_rfl) (by kernel_rfl) (by kernel_rfl) (fun _ _ _ h => h) (Or.inl ⟨by kernel_rfl, fun wq hw => by go_simp⟩) hHeld ?_
  simp only [Act.put, List.setIfInBounds_toArray, List.set_cons_succ, List.set_cons_zero]
  refine drawn_take (i := 11) (v := .pointer (some ⟨b, 0, none⟩)) (some 19) rfl rfl (by kernel_rfl) (by kernel_rfl) (by kernel_rfl) (fun _ _ _ h => h) (Or.inl ⟨by kernel_rfl, fun wq hw => by go_simp⟩) hHeld ?_
  simp only [Act.put, List.setIfInBounds_toArray, List.set_cons_succ, List.set_cons_zero]
  refine wpAnyH_ready (rs := [12]) (by kernel_rfl) (by simp) ?_
  refine rdy_unit (i := 12) rfl rfl none rfl (w2.setCell ⟨b, 0, none⟩ (.slice a2 (zs.length + m) k2)) (by go_simp) ((Below.heap_setCell _ _ _ _ hpb).trans hP2) (fun hHeld => ?_) rdy_nil
  simp only [Act.put]
  refine wpAnyH_done (by kernel_rfl) ?_ _
  refine NoPanic.normal ?_
  clear hHeld
  have hb3 : (w2.setCell ⟨b, 0, none⟩ (.slice a2 (zs.length + m) k2)).heap[b]? = some (.cells #[(.slice a2 (zs.length + m) k2), .slice a0 l0 k0, .int .i64 n0] 81 (0, 0)) := block_setCell hb2 (.slice a2 (zs.length + m) k2)
  have hP3 : (w2.setCell ⟨b, 0, none⟩ (.slice a2 (zs.length + m) k2)).heap[p]? = some (.cells #[.slice (some ⟨g, 0, none⟩) y y, .int .i64 (n : Int)] 79 (0, 0)) := (Below.heap_setCell _ _ _ _ hpb).trans hP2
  have hb2n : (Value.slice a2 (zs.length + m) k2).ownBlock ≠ some b := by
    intro h
    obtain ⟨c, fz, hc⟩ := Lib.ownsRowF_kind (World.ownsRowF_of hown2) b h
    rw [hb2] at hc
    cases hc
  obtain ⟨ta, hta⟩ : ∃ ta, (if y = m then some (⟨g, 0, none⟩ : Addr) else some ⟨g, m, none⟩) = ta := ⟨_, rfl⟩
  have hB3 : Bs (w2.setCell ⟨b, 0, none⟩ (.slice a2 (zs.length + m) k2)) (some ⟨g, 0, none⟩) y ys := bs_setCell hB2 (fun x hx => by cases hx; exact hgb) _
  have htab : ∀ x, ta = some x → x.block ≠ b := by
    intro x hx
    rw [← hta] at hx
    split at hx <;> (cases hx; exact hgb)
  have hBt := bs_drop hB3 hf
  rw [Nat.zero_add, hta] at hBt
  have hL3 := hL2.setCell (p := ⟨b, 0, none⟩) hBb (.slice a2 (zs.length + m) k2)
  have hK3 := hK2.setCell ⟨b, 0, none⟩ rfl (.slice a2 (zs.length + m) k2)
  have hown3 : (w2.setCell ⟨b, 0, none⟩ (.slice a2 (zs.length + m) k2)).ownsRow B 5 1 (.slice a2 (zs.length + m) k2) (zs.length + m) (vb zs ++ vb (ys.take m)) := own_setCell hown2 hb2n (.slice a2 (zs.length + m) k2)
  generalize hW3 : w2.setCell ⟨b, 0, none⟩ (.slice a2 (zs.length + m) k2) = w3 at *
  have HTA := hidn hta
  have hk3 : ((m : Int) ≤ (y : Int)) := hmy
  clear hta
  go_wp2_with fail
  have hb4 : w3.drew.heap[b]? = some (.cells #[.slice a2 (zs.length + m) k2, .slice a0 l0 k0, .int .i64 n0] 81 (0, 0)) := hb3
  have hP4 : w3.drew.heap[p]? = some (.cells #[.slice (some ⟨g, 0, none⟩) y y, .int .i64 (n : Int)] 79 (0, 0)) := hP3
  have hBt4 : Bs w3.drew ta (y - m) (ys.drop m) := hBt
  have hL4 : Below B w w3.drew := hL3.drew
  have hK4 : Lib.OthersKept 5 (some b) w w3.drew := hK3.drew
  have hown4 : w3.drew.ownsRow B 5 1 (.slice a2 (zs.length + m) k2) (zs.length + m) (vb zs ++ vb (ys.take m)) := hown3
  generalize hWd4 : w3.drew = w4 at *
  refine wp_region_noPanic ?_
  refine wp_region_held_drew (S := fun w' => w'.heap[p]? = some (.cells #[.slice (some ⟨g, 0, none⟩) y y, .int .i64 (n : Int)] 79 (0, 0))) (by kernel_rfl) (by rw [hWd4]; exact hP4) (fun hHeld => ?_)
  rw [hWd4] at hHeld ⊢
  refine drawn_take (i := 0) (v := .pointer (some ⟨b, 0, none⟩)) (some 20) rfl rfl (by kernel_rfl) (by kernel_rfl) (by kernel_rfl) (fun _ _ _ h => h) (Or.inl ⟨by kernel_rfl, fun wq hw => by go_simp⟩) hHeld ?_
  simp only [Act.put, List.setIfInBounds_toArray, List.set_cons_succ, List.set_cons_zero]
  refine drawn_take (i := 1) (v := .pointer (some ⟨p, 0, none⟩)) (some 21) rfl rfl (by kernel_rfl) (by kernel_rfl) (by kernel_rfl) (fun _ _ _ h => h) (Or.inl ⟨by kernel_rfl, fun wq hw => by go_simp⟩) hHeld ?_
  simp only [Act.put, List.setIfInBounds_toArray, List.set_cons_succ, List.set_cons_zero]
  refine drawn_take (i := 2) (v := .slice (some ⟨g, 0, none⟩) y y) (some 22) rfl rfl (by kernel_rfl) (by kernel_rfl) (by kernel_rfl) (fun _ _ _ h => h) (Or.inl ⟨by kernel_rfl, fun wq hw => by have q0 : wq.cell? ⟨p, 0, none⟩ = some (.slice (some ⟨g, 0, none⟩) y y) := cell_of_row _ _ _ _ _ _ hw; go_simp⟩) hHeld ?_
  simp only [Act.put, List.setIfInBounds_toArray, List.set_cons_succ, List.set_cons_zero]
  refine drawn_take (i := 3) (v := .int .i64 (m : Int)) (some 23) rfl rfl (by kernel_rfl) (by kernel_rfl) (by kernel_rfl) (fun _ _ _ h => h) (Or.inl ⟨by kernel_rfl, fun wq hw => by go_simp⟩) hHeld ?_
  simp only [Act.put, List.setIfInBounds_toArray, List.set_cons_succ, List.set_cons_zero]
  refine drawn_take (i := 4) (v := .slice ta (y - m) (y - m)) (some 24) rfl rfl (by kernel_rfl) (by kernel_rfl) (by kernel_rfl) (fun _ _ _ h => h) (Or.inl ⟨by kernel_rfl, fun wq hw => by rw [← HTA.out]; go_simp⟩) hHeld ?_
  simp only [Act.put, List.setIfInBounds_toArray, List.set_cons_succ, List.set_cons_zero]
  refine drawn_take (i := 5) (v := .pointer (some ⟨p, 1, none⟩)) (some 25) rfl rfl (by kernel_rfl) (by kernel_rfl) (by kernel_rfl) (fun _ _ _ h => h) (Or.inl ⟨by kernel_rfl, fun wq hw => by go_simp⟩) hHeld ?_
  simp only [Act.put, List.setIfInBounds_toArray, List.set_cons_succ, List.set_cons_zero]
  refine drawn_take (i := 6) (v := .int .i64 (n : Int)) (some 26) rfl rfl (by kernel_rfl) (by kernel_rfl) (by kernel_rfl) (fun _ _ _ h => h) (Or.inl ⟨by kernel_rfl, fun wq hw => by have q0 : wq.cell? ⟨p, 1, none⟩ = some (.int .i64 (n : Int)) := cell_of_row _ _ _ _ _ _ hw; go_simp⟩) hHeld ?_
  simp only [Act.put, List.setIfInBounds_toArray, List.set_cons_succ, List.set_cons_zero]
  have htm : (n : Int).tmod 8 = ((n % 8 : Nat) : Int) := by rw [Int.tmod_eq_emod_of_nonneg (by omega)]; omega
  obtain ⟨r, hr⟩ : ∃ r, r = n % 8 := ⟨_, rfl⟩
  rw [← hr] at htm
  have HR := hidn hr
  clear hr
  refine drawn_take (i := 7) (v := .int .i64 (r : Int)) (some 27) rfl rfl (by kernel_rfl) (by kernel_rfl) (by kernel_rfl) (fun _ _ _ h => h) (Or.inl ⟨by kernel_rfl, fun wq hw => by go_simp⟩) hHeld ?_
  simp only [Act.put, List.setIfInBounds_toArray, List.set_cons_succ, List.set_cons_zero]
  refine drawn_take (i := 8) (v := .agg #[.slice ta (y - m) (y - m), .int .i64 (r : Int)]) (some 28) rfl rfl (by kernel_rfl) (by kernel_rfl) (by kernel_rfl) (fun _ _ _ h => h) (Or.inl ⟨by kernel_rfl, fun wq hw => by go_simp⟩) hHeld ?_
  simp only [Act.put, List.setIfInBounds_toArray, List.set_cons_succ, List.set_cons_zero]
  refine drawn_take (i := 9) (v := .pointer (some ⟨b, 0, none⟩)) (some 29) rfl rfl (by kernel_rfl) (by kernel_rfl) (by kernel_rfl) (fun _ _ _ h => h) (Or.inl ⟨by kernel_rfl, fun wq hw => by go_simp⟩) hHeld ?_
  simp only [Act.put, List.setIfInBounds_toArray, List.set_cons_succ, List.set_cons_zero]
  refine drawn_take (i := 10) (v := .pointer (some ⟨b, 1, none⟩)) (some 30) rfl rfl (by kernel_rfl) (by kernel_rfl) (by kernel_rfl) (fun _ _ _ h => h) (Or.inl ⟨by kernel_rfl, fun wq hw => by go_simp⟩) hHeld ?_
  simp only [Act.put, List.setIfInBounds_toArray, List.set_cons_succ, List.set_cons_zero]
  have g1 : w4.frozen? ⟨b, 1, none⟩ = false := unfrozen_of_block hb4 _
  have g2 : w4.frozen? ⟨b, 2, none⟩ = false := unfrozen_of_block hb4 _
  have g3 : w4.cell? ⟨b, 1, none⟩ = some (.slice a0 l0 k0) := cell_of_row _ _ _ _ _ _ hb4
  have g4 : w4.cell? ⟨b, 2, none⟩ = some (.int .i64 n0) := cell_of_row _ _ _ _ _ _ hb4
  refine wpAnyH_ready (rs := [11]) (by kernel_rfl) (by simp) ?_
  refine rdy_unit (i := 11) rfl rfl none rfl ((w4.setCell ⟨b, 1, none⟩ (.slice ta (y - m) (y - m))).setCell ⟨b, 2, none⟩ (.int .i64 (r : Int))) (by go_simp) ((Below.heap_setCell _ _ _ _ hpb).trans ((Below.heap_setCell _ _ _ _ hpb).trans hP4)) (fun hHeld => ?_) rdy_nil
  simp only [Act.put]
  refine wpAnyH_done (by kernel_rfl) ?_ _
  refine NoPanic.normal ?_
  clear hHeld
  have hfin : Hid (WI ((w4.setCell ⟨b, 1, none⟩ (.slice ta (y - m) (y - m))).setCell ⟨b, 2, none⟩ (.int .i64 (r : Int))) B b (bitsL zs (8 * zs.length) ++ T)) := hidn (by
    have e1 : (ys.drop m).length = y - m := by rw [List.length_drop, ← HY.out]
    have e2 : (T.drop (8 * m)).length = r := by rw [List.length_drop, ← HN.out, HR.out, HM.out]; omega
    have e3 : (zs ++ ys.take m).length = zs.length + m := by rw [List.length_append, List.length_take, ← HY.out]; omega
    refine ⟨hBb, .slice a2 (zs.length + m) k2, zs ++ ys.take m, ys.drop m, T.drop (8 * m), ta, y - m, ?_, ?_, ?_, hws.out, fun h => by rw [← HTA.out] at h; split at h <;> cases h⟩
    · rw [e1, e2]
      have q1 := block_setCell (block_setCell (i := 1) hb4 (.slice ta (y - m) (y - m))) (i := 2) (.int .i64 (r : Int))
      exact q1
    · rw [e3, show vb (zs ++ ys.take m) = vb zs ++ vb (ys.take m) from by simp [vb]]
      exact own_setCell (own_setCell hown4 hb2n _) hb2n _
    · rw [e1]
      exact bs_setCell (bs_setCell hBt4 htab _) htab _)
  have hfL := hidn ((hL4.setCell (p := ⟨b, 1, none⟩) hBb (.slice ta (y - m) (y - m))).setCell (p := ⟨b, 2, none⟩) hBb (.int .i64 (r : Int)))
  have hfK := hidn ((hK4.setCell ⟨b, 1, none⟩ rfl (.slice ta (y - m) (y - m))).setCell ⟨b, 2, none⟩ rfl (.int .i64 (r : Int)))
  go_wp2_with fail
  go_end0
  exact ⟨rfl, hfin.out, hfL.out, hfK.out⟩
end Go.Proofs.YtfgfkifdokeefaaDoor.Cd

namespace Go.Proofs.YtfgfkifdokeefaaDoor.Cd
open Go.RowKit Go.Joins
set_option linter.unusedVariables false

theorem part_next (B b g N1 y1 : Nat) (L new : List Bool) (v : Value) (zs ys ys1 : List Nat) (T : List Bool) (a : Option Addr) (cap : Nat) (w w1 : World) (hBw : B ≤ w.heap.size) (hBb : B ≤ b)
    (hb : w.heap[b]? = some (.cells #[v, .slice a ys.length cap, .int .i64 (T.length : Nat)] 81 (0, 0))) (hown : w.ownsRow B 5 1 v zs.length (vb zs)) (hws : WS zs ys T L)
    (hg : w.heap.size ≤ g) (hown1 : w1.ownsRow w.heap.size 5 1 (.slice (some ⟨g, 0, none⟩) ys1.length ys1.length) ys1.length (vb ys1)) (hpk : IsPack ys1 (bitsL ys T.length ++ new)) (hb1 : Below w.heap.size w w1)
    (hlen : L.length ≤ 1099511627000) (hnew : new.length ≤ 200) (hN1 : N1 = T.length + new.length) (hy1 : y1 = ys1.length) :
    Calls Tryd.prog 52 #[.pointer (some ⟨b, 0, none⟩), .agg #[.slice (some ⟨g, 0, none⟩) y1 y1, .int .i64 (N1 : Int)]] (w1.alloc (.cells #[.slice (some ⟨g, 0, none⟩) y1 y1, .int .i64 (N1 : Int)] 79)) fun e w' =>
      e = .returned (.tuple #[]) ∧ WI w' B b (L ++ new) ∧ Below B w w' ∧ Lib.OthersKept 5 (some b) w w' := by
  rw [hws.tail.bits] at hpk
  obtain ⟨ag, cg, hvg, hBs1⟩ := bs_of_own hown1 hpk.2.1
  injection hvg with e1 e2 e3
  subst e1
  clear e2 e3
  have hblt : b < w.heap.size := (Array.getElem?_eq_some_iff.1 hb).1
  have hbk : w1.heap[b]? = some (.cells #[v, .slice a ys.length cap, .int .i64 (T.length : Nat)] 81 (0, 0)) := (hb1.block b hblt).trans hb
  have hown1' : w1.ownsRow B 5 1 v zs.length (vb zs) := own_of_below hown hb1
  have hLl : L.length = 8 * zs.length + T.length := by rw [hws.all, List.length_append, bitsL_length]
  have hTl : (T ++ new).length = N1 := by rw [List.length_append, hN1]
  have hgv : v.ownBlock ≠ some g := by
    intro h
    have := (hown.lt g h).2
    omega
  have hgb : g ≠ b := by omega
  have hs1 := hb1.size
  have hp := part_any B b g v a ys.length cap (T.length : Nat) zs ys1 (T ++ new) (w1.alloc (.cells #[.slice (some ⟨g, 0, none⟩) y1 y1, .int .i64 (N1 : Int)] 79)) hBb (by simp; omega)
    ((Below.heap_alloc _ _ _ (by omega)).trans hbk) (hown1'.alloc _) hws.whole (hBs1.below ((Below.refl _ _).alloc (Nat.le_refl _) _)) hgv hgb hpk (by rw [hTl]; omega)
  rw [hTl, ← hy1] at hp
  refine hp.mono ?_
  rintro e w' ⟨he, hW, hL, hK⟩
  refine ⟨he, ?_, ((hb1.mono hBw).alloc (by omega) _).trans hL, ?_⟩
  · rw [hws.all, List.append_assoc]; exact hW
  · refine Lib.OthersKept.trans (Lib.OthersKept.alloc ?_ _) hK
    exact fun k o h1 _ _ => (hb1.block k (Array.getElem?_eq_some_iff.1 h1).1).trans h1

set_option maxHeartbeats 2000000 in
set_option maxRecDepth 100000 in
theorem wput_any (B b : Nat) (L : List Bool) (n count : Nat) (w : World) (hBw : B ≤ w.heap.size) (h : WI w B b L) (hn : n < 18446744073709551616) (hc : count ≤ 64) (hlen : L.length ≤ 1099511627000) :
    Calls Tryd.prog 43 #[.pointer (some ⟨b, 0, none⟩), .int .u64 (n : Int), .int .i64 (count : Int)] w fun e w' =>
      e = .returned (.tuple #[]) ∧ WI w' B b (L ++ lowBits n count) ∧ Below B w w' ∧ Lib.OthersKept 5 (some b) w w' := by
  obtain ⟨hBb, v, zs, ys, T, a, cap, hb, hown, hB, hws, hac⟩ := h
  have c1 : w.cell? ⟨b, 1, none⟩ = some (.slice a ys.length cap) := cell_of_row _ _ _ _ _ _ hb
  have c2 : w.cell? ⟨b, 2, none⟩ = some (.int .i64 (T.length : Nat)) := cell_of_row _ _ _ _ _ _ hb
  go_enter Tryd.func43, Tryd.ntmps43
  go_wp2_with fail
  have hfew := hws.few
  have hcan := (canB_iff ys (T.length : Nat)).2 hws.tail.can
  refine (put_ok a ys.length cap T.length n count ys _ hB (by omega) hn hcan hc).mono ?_
  rintro e w1 ⟨g, ys1, rfl, hg, hown1, hpk, hb1⟩
  obtain ⟨N1, hN1⟩ : ∃ N1, N1 = T.length + count := ⟨_, rfl⟩
  obtain ⟨y1, hy1⟩ : ∃ y1, y1 = ys1.length := ⟨_, rfl⟩
  rw [← hN1, ← hy1]
  have hpp := hidn (part_next B b g N1 y1 L (lowBits n count) v zs ys ys1 T a cap w w1 hBw hBb hb hown hws hg hown1 hpk hb1 hlen (by rw [lowBits_length]; omega) (by rw [lowBits_length]; exact hN1) hy1)
  clear hN1 hy1 hcan hws hown1 hown hb1 hpk
  go_wp2_with fail
  refine hpp.out.mono ?_
  rintro e w2 ⟨rfl, hr⟩
  have HR := hidn hr
  clear hr hpp
  go_wp2_with fail
  go_end0
  exact ⟨rfl, HR.out⟩

set_option maxHeartbeats 2000000 in
set_option maxRecDepth 100000 in
theorem wputInt_any (B b : Nat) (L : List Bool) (n : Int) (w : World) (hBw : B ≤ w.heap.size) (h : WI w B b L) (hlen : L.length ≤ 1099511627000) (hT : BitsTab w) :
    Calls Tryd.prog 44 #[.pointer (some ⟨b, 0, none⟩), .int .i64 n] w fun e w' =>
      e = .returned (.tuple #[]) ∧ WI w' B b (L ++ intBits n) ∧ Below B w w' ∧ Lib.OthersKept 5 (some b) w w' := by
  obtain ⟨hBb, v, zs, ys, T, a, cap, hb, hown, hB, hws, hac⟩ := h
  have c1 : w.cell? ⟨b, 1, none⟩ = some (.slice a ys.length cap) := cell_of_row _ _ _ _ _ _ hb
  have c2 : w.cell? ⟨b, 2, none⟩ = some (.int .i64 (T.length : Nat)) := cell_of_row _ _ _ _ _ _ hb
  have hil : intLen n ≤ 68 := by have h1 := clsMarks_le (cls n); have h2 := clsWidth_le (cls n); unfold intLen; omega
  go_enter Tryd.func44, Tryd.ntmps44
  go_wp2_with fail
  have hfew := hws.few
  have hcan := (canB_iff ys (T.length : Nat)).2 hws.tail.can
  refine (putInt_ok a ys.length cap T.length n ys _ hB (by omega) hcan hT).mono ?_
  rintro e w1 ⟨g, ys1, rfl, hg, hown1, hpk, hb1⟩
  obtain ⟨N1, hN1⟩ : ∃ N1, N1 = T.length + intLen n := ⟨_, rfl⟩
  obtain ⟨y1, hy1⟩ : ∃ y1, y1 = ys1.length := ⟨_, rfl⟩
  rw [← hN1, ← hy1]
  have hpp := hidn (part_next B b g N1 y1 L (intBits n) v zs ys ys1 T a cap w w1 hBw hBb hb hown hws hg hown1 hpk hb1 hlen (by rw [intBits_length]; omega) (by rw [intBits_length]; exact hN1) hy1)
  clear hN1 hy1 hcan hws hown1 hown hb1 hpk
  go_wp2_with fail
  refine hpp.out.mono ?_
  rintro e w2 ⟨rfl, hr⟩
  have HR := hidn hr
  clear hr hpp
  go_wp2_with fail
  go_end0
  exact ⟨rfl, HR.out⟩

set_option maxHeartbeats 2000000 in
set_option maxRecDepth 100000 in
theorem wbytes_any (B b : Nat) (L : List Bool) (w : World) (hBw : B ≤ w.heap.size) (h : WI w B b L) (hlen : L.length ≤ 1099511627000) (h0 : 8 ≤ L.length) :
    Calls Tryd.prog 46 #[.pointer (some ⟨b, 0, none⟩)] w fun e w' =>
      ∃ (v : Value) (zs : List Nat), e = .returned v ∧ IsPack zs L ∧ w'.ownsRow B 5 1 v zs.length (vb zs) ∧ Below B w w' := by
  obtain ⟨i0, hi, hz0, hz1, hz2⟩ := info_parts Tryd.info5
  obtain ⟨hBb, v, zs, ys, T, a, cap, hb, hown, hB, hws, hac⟩ := h
  have c0 : w.cell? ⟨b, 0, none⟩ = some v := cell_of_row _ _ _ _ _ _ hb
  have c1 : w.cell? ⟨b, 1, none⟩ = some (.slice a ys.length cap) := cell_of_row _ _ _ _ _ _ hb
  have hblt : b < w.heap.size := (Array.getElem?_eq_some_iff.1 hb).1
  obtain ⟨v2, w2, hrun, hown2, hgr, hb2⟩ : ∃ v2 w2, (Builtin.append_ #[25, 25] 25 #[v, .slice a ys.length cap]).run Tryd.prog w.drew = .ok v2 w2 ∧ w2.ownsRow B 5 1 v2 (zs.length + ys.length) (vb (zs ++ ys)) ∧ Below B w w2 ∧ w2.heap[b]? = w.heap[b]? := by
    have hLl : L.length = 8 * zs.length + T.length := by rw [hws.all, List.length_append, bitsL_length]
    have hyl : ys.length ≤ 1 := by have := hws.tail.1; have := hws.few; unfold nb at *; omega
    cases a with
    | none =>
      obtain rfl := hac rfl
      have h0 : ys.length = 0 := hB.2.2.2.1 rfl
      have hys : ys = [] := List.length_eq_zero_iff.1 h0
      subst hys
      refine ⟨v, w.drew, run_append_owned_none w.drew B 25 25 5 i0 1 Tryd.underlying25 hi v zs.length (vb zs) hown, by simp only [List.append_nil, List.length_nil, Nat.add_zero]; exact own_drew hown, (Below.refl _ _).drew, rfl⟩
    | some x =>
      obtain ⟨v2, w2, hrun, hown2, hgr, _⟩ := run_append_own (P := Tryd.prog) w.drew B 25 25 5 i0 (.int .u8 0) 1 1 Tryd.underlying25 hi hz0 hz1 hz2 rfl (by decide) v zs.length (vb zs) hown x ys.length cap (vb ys) (by rw [length_vb]; omega) (bs_news (bs_drew hB)) (one_vb _) (by unfold maxLen; omega) (by omega) hBw
      refine ⟨v2, w2, hrun, by rw [show vb (zs ++ ys) = vb zs ++ vb ys from by simp [vb]]; exact hown2, (Below.refl B w).drew.grown hgr hBw (fun k hk => (hown.lt k hk).1), hgr.block b hblt (fun h => ?_)⟩
      obtain ⟨c, fz, hc⟩ := Lib.ownsRowF_kind (World.ownsRowF_of hown) b h.symm
      rw [hb] at hc
      cases hc
  have hfin : Hid (IsPack (zs ++ ys) L ∧ w2.ownsRow B 5 1 v2 (zs ++ ys).length (vb (zs ++ ys)) ∧ Below B w w2) := hidn ⟨hws.pack, by rw [List.length_append]; exact hown2, hgr⟩
  have hbd : w.drew.heap[b]? = some (.cells #[v, .slice a ys.length cap, .int .i64 (T.length : Nat)] 81 (0, 0)) := hb
  rw [hb] at hb2
  have HRUN := hidn hrun
  generalize ys.length = yl at *
  generalize (T.length : Int) = tl at *
  clear hown2 hgr hown hws hB hac hrun hb c0 c1
  go_enter Tryd.func46, Tryd.ntmps46
  go_wp2_with fail
  generalize hWd : w.drew = wd at *
  refine wp_region_noPanic ?_
  refine wp_region_held_drew (S := fun w' => w'.heap[b]? = some (.cells #[v, .slice a yl cap, .int .i64 tl] 81 (0, 0))) (by kernel_rfl) (by rw [hWd]; exact hbd) (fun hHeld => ?_)
  rw [hWd] at hHeld ⊢
  refine drawn_take (i := 0) (v := .pointer (some ⟨b, 0, none⟩)) (some 3) rfl rfl (by kernel_rfl) (by kernel_rfl) (by kernel_rfl) (fun _ _ _ h => h) (Or.inl ⟨by kernel_rfl, fun wq hw => by go_simp⟩) hHeld ?_
  simp only [Act.put, List.setIfInBounds_toArray, List.set_cons_succ, List.set_cons_zero]
  refine drawn_take (i := 1) (v := .pointer (some ⟨b, 0, none⟩)) (some 4) rfl rfl (by kernel_rfl) (by kernel_rfl) (by kernel_rfl) (fun _ _ _ h => h) (Or.inl ⟨by kernel_rfl, fun wq hw => by go_simp⟩) hHeld ?_
  simp only [Act.put, List.setIfInBounds_toArray, List.set_cons_succ, List.set_cons_zero]
  refine drawn_take (i := 2) (v := .pointer (some ⟨b, 0, none⟩)) (some 5) rfl rfl (by kernel_rfl) (by kernel_rfl) (by kernel_rfl) (fun _ _ _ h => h) (Or.inl ⟨by kernel_rfl, fun wq hw => by go_simp⟩) hHeld ?_
  simp only [Act.put, List.setIfInBounds_toArray, List.set_cons_succ, List.set_cons_zero]
  refine drawn_take (i := 3) (v := v) (some 6) rfl rfl (by kernel_rfl) (by kernel_rfl) (by kernel_rfl) (fun _ _ _ h => h) (Or.inl ⟨by kernel_rfl, fun wq hw => by have q0 : wq.cell? ⟨b, 0, none⟩ = some v := cell_of_row _ _ _ _ _ _ hw; go_simp⟩) hHeld ?_
  simp only [Act.put, List.setIfInBounds_toArray, List.set_cons_succ, List.set_cons_zero]
  refine drawn_take (i := 4) (v := .pointer (some ⟨b, 0, none⟩)) (some 7) rfl rfl (by kernel_rfl) (by kernel_rfl) (by kernel_rfl) (fun _ _ _ h => h) (Or.inl ⟨by kernel_rfl, fun wq hw => by go_simp⟩) hHeld ?_
  simp only [Act.put, List.setIfInBounds_toArray, List.set_cons_succ, List.set_cons_zero]
  refine drawn_take (i := 5) (v := .pointer (some ⟨b, 0, none⟩)) (some 8) rfl rfl (by kernel_rfl) (by kernel_rfl) (by kernel_rfl) (fun _ _ _ h => h) (Or.inl ⟨by kernel_rfl, fun wq hw => by go_simp⟩) hHeld ?_
  simp only [Act.put, List.setIfInBounds_toArray, List.set_cons_succ, List.set_cons_zero]
  refine drawn_take (i := 6) (v := .pointer (some ⟨b, 1, none⟩)) (some 9) rfl rfl (by kernel_rfl) (by kernel_rfl) (by kernel_rfl) (fun _ _ _ h => h) (Or.inl ⟨by kernel_rfl, fun wq hw => by go_simp⟩) hHeld ?_
  simp only [Act.put, List.setIfInBounds_toArray, List.set_cons_succ, List.set_cons_zero]
  refine drawn_take (i := 7) (v := .pointer (some ⟨b, 1, none⟩)) (some 10) rfl rfl (by kernel_rfl) (by kernel_rfl) (by kernel_rfl) (fun _ _ _ h => h) (Or.inl ⟨by kernel_rfl, fun wq hw => by go_simp⟩) hHeld ?_
  simp only [Act.put, List.setIfInBounds_toArray, List.set_cons_succ, List.set_cons_zero]
  refine drawn_take (i := 8) (v := .slice a yl cap) (some 11) rfl rfl (by kernel_rfl) (by kernel_rfl) (by kernel_rfl) (fun _ _ _ h => h) (Or.inl ⟨by kernel_rfl, fun wq hw => by have q0 : wq.cell? ⟨b, 1, none⟩ = some (.slice a yl cap) := cell_of_row _ _ _ _ _ _ hw; go_simp⟩) hHeld ?_
  simp only [Act.put, List.setIfInBounds_toArray, List.set_cons_succ, List.set_cons_zero]
  refine wpAnyH_ready (rs := [9]) (by kernel_rfl) (by simp) ?_
  refine rdy_val (i := 9) rfl rfl (some 12) rfl (v2) (w2) (app_run (x := .tmp 6) (y := .tmp 11) (by kernel_rfl) (by kernel_rfl) (by kernel_rfl) HRUN.out) (hb2) (fun hHeld => ?_) rdy_nil
  simp only [Act.put, List.setIfInBounds_toArray, List.set_cons_succ, List.set_cons_zero]
  refine drawn_take (i := 10) (v := v2) (some 2) rfl rfl (by kernel_rfl) (by kernel_rfl) (by kernel_rfl) (fun _ _ _ h => h) (Or.inl ⟨by kernel_rfl, fun wq hw => by go_simp⟩) hHeld ?_
  simp only [Act.put, List.setIfInBounds_toArray, List.set_cons_succ, List.set_cons_zero]
  refine wpAnyH_done (by kernel_rfl) ?_ _
  refine NoPanic.normal ?_
  clear hHeld
  go_wp2_with fail
  go_ret
  exact ⟨_, _, rfl, hfin.out⟩
end Go.Proofs.YtfgfkifdokeefaaDoor.Cd
