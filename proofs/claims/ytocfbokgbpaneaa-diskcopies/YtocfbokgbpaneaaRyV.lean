/- The document's disk: Copy. -/
import Derived.Test.YtocfbokgbpaneaaRyQ
namespace Go.Proofs.Ytocfbokgbpaneaa
open Go.RowKit Go.Maps
set_option linter.unusedVariables false

def keyY (f : Yf) : ByteArray × List Ext := (f.name, f.l.map Yc.x)

/-- The row of a new file, so far. -/
structure NewRow (w : World) (n0 : Nat) (v : Value) (L : List Yc) (src : List Yc) (j : Nat) : Prop where
  own : w.ownsRow n0 57 5 v L.length (cellsC L)
  len : L.length = j
  xs : L.map Yc.x = (src.take j).map Yc.x
  ims : ∀ c ∈ L, Im w c.q0 c.x.rd ∧ Im w c.q1 c.x.dur ∧ Im w c.q2 c.x.syn ∧ Im w c.q3 c.x.wri
  fi : ∀ c ∈ L, n0 ≤ c.q0.1 ∧ n0 ≤ c.q1.1 ∧ n0 ≤ c.q2.1 ∧ n0 ≤ c.q3.1

section
variable {P : Program} {ops : Array Oper} {Q : Exit → Act → World → Prop} {md : Region.Mode} {S : World → Prop} {z : Nat}
theorem Z_as {fuel : Nat} {listed l' : Array Bool} {a a' : Act} {w : World} (h : listed = l') (h2 : a = a') (hh : wpAnyZ P md ops Q S z fuel l' a' w) : wpAnyZ P md ops Q S z fuel listed a w := h ▸ h2 ▸ hh
/-- A drawn region by its states: what is done, what stands in the slots, the world; each state needs only those behind it. -/
theorem any_statesZ {listed : Array Bool} {a : Act} (Rel : Nat → List Nat → List (Nat × Value) → World → Prop)
    (hstep : ∀ fuel dn l W, Rel fuel dn l W → (∀ f' dn' l' W', f' < fuel → Rel f' dn' l' W' → wpAnyZ P md ops Q S z f' (dn'.foldl (fun q i => q.setIfInBounds i true) listed) (putAll a l') W') → wpAnyZ P md ops Q S z fuel (dn.foldl (fun q i => q.setIfInBounds i true) listed) (putAll a l) W)
    {fuel : Nat} {dn : List Nat} {l : List (Nat × Value)} {W : World} (h0 : Rel fuel dn l W) : wpAnyZ P md ops Q S z fuel (dn.foldl (fun q i => q.setIfInBounds i true) listed) (putAll a l) W := by
  induction fuel using Nat.strongRecOn generalizing dn l W with
  | ind n ih => exact hstep n dn l W h0 (fun f' dn' l' W' hl hr => ih f' hl hr)
end
theorem grown_new {ws W : World} {row : Option Nat} {o : Obj} (h : ws.grownBy W row) : ws.grownBy (W.alloc o) row :=
  ⟨h.os, h.tape, h.output, by have := h.size; rw [World.size_alloc]; omega, fun k hk hr => (Below.heap_alloc W o k (by have := h.size; omega)).trans (h.block k hk hr)⟩
theorem grown_mid {ws W W' : World} {row : Option Nat} {b : Nat} (h : ws.grownBy W row) (hg : W.grownBy W' (some b)) (hb : ws.heap.size ≤ b) : ws.grownBy W' row :=
  ⟨hg.os.trans h.os, hg.tape.trans h.tape, hg.output.trans h.output, Nat.le_trans h.size hg.size, fun k hk hr => (hg.block k (by have := h.size; omega) (fun e => by have := Option.some.inj e; omega)).trans (h.block k hk hr)⟩

theorem grown_any {w w' : World} {row : Option Nat} (h : w.grownBy w' none) : w.grownBy w' row :=
  ⟨h.os, h.tape, h.output, h.size, fun k hk _ => h.block k hk (by simp)⟩
theorem grown_last {ws W W' : World} {row : Option Nat} (h : ws.grownBy W none) (hg : W.grownBy W' row) : ws.grownBy W' row :=
  ⟨hg.os.trans h.os, hg.tape.trans h.tape, hg.output.trans h.output, Nat.le_trans h.size hg.size, fun k hk hr => (hg.block k (Nat.lt_of_lt_of_le hk h.size) hr).trans (h.block k hk (by simp))⟩

theorem bs1c_run {o : Oper} {a : Act} {w : World} {x : Operand} {q1 q2 q3 q4 : Nat × Nat} {wt : Bool} (ho : o.op = Op.buildSlice 53 1 #[(0, x)]) (hx : a.eval x = .agg #[im q1, im q2, im q3, im q4, .bool wt]) : (execOp a.eval o).run Try.prog w = .ok (.value (.slice (some ⟨w.heap.size, 0, none⟩) 1 1)) (w.alloc (.cells #[im q1, im q2, im q3, im q4, .bool wt] 57)) := by
  have h : (Instr.buildSlice 53 1 #[(0, .agg #[im q1, im q2, im q3, im q4, .bool wt])]).run Try.prog w = .ok (.slice (some ⟨w.heap.size, 0, none⟩) 1 1) (w.alloc (.cells #[im q1, im q2, im q3, im q4, .bool wt] 57)) := by kernel_rfl
  simp [execOp, ho, hx, h, Result.andThen]

theorem appCn (W : World) (n0 : Nat) (v : Value) (n : Nat) (xs : List Value) (hown : W.ownsRow n0 57 5 v n xs) (hle : n0 ≤ W.heap.size) (b : Nat) (a0 a1 a2 a3 a4 : Value) (o0 : a0.oneCell' = true) (o1 : a1.oneCell' = true) (o2 : a2.oneCell' = true) (o3 : a3.oneCell' = true) (o4 : a4.oneCell' = true) (hb : W.heap[b]? = some (.cells #[a0, a1, a2, a3, a4] 57 (0, 0))) (hn : n ≤ 100000) :
    ∃ g2 c2 W', (Builtin.append_ #[53, 53] 53 #[v, .slice (some ⟨b, 0, none⟩) 1 1]).run Try.prog W = .ok (.slice (some ⟨g2, 0, none⟩) (n + 1) c2) W' ∧ W'.ownsRow n0 57 5 (.slice (some ⟨g2, 0, none⟩) (n + 1) c2) (n + 1) (xs ++ [a0, a1, a2, a3, a4]) ∧ W.grownBy W' v.ownBlock := by
  have h : (Try.prog.info? 57).map (fun i => (i.zero, i.size, i.bytes)) = some (some (.agg #[.slice none 0 0, .slice none 0 0, .slice none 0 0, .slice none 0 0, .bool false]), 5, 104) := by kernel_rfl
  obtain ⟨i0, hi, h1, h2, h3⟩ := info_parts h
  obtain ⟨g2, c2, W', hr, ho, hg, hp⟩ := appN (P := Try.prog) W 53 53 57 i0 _ 5 104 Try.underlying53 hi h1 h2 h3 rfl (by decide) v n xs n0 hown hle ⟨b, 0, none⟩ 1 1 (by omega) [a0, a1, a2, a3, a4] rfl (fun j u hj => by
    rw [add_none, Nat.zero_add, cell_of_row _ _ _ _ _ _ hb]
    simpa using hj) (fun u hu => by
    simp only [List.mem_cons, List.not_mem_nil, or_false] at hu
    rcases hu with rfl | rfl | rfl | rfl | rfl <;> assumption) (by unfold maxLen; omega) (by omega)
  exact ⟨g2, c2, W', hr, ho, hg⟩

theorem NewRow.step {wi ws W8 : World} {n1 : Nat} {v6 : Value} {L src : List Yc} {i : Nat} (h : NewRow wi n1 v6 L src i) {c : Yc} (hc : src[i]? = some c) (hBs : Below wi.heap.size wi ws) (hG : ws.grownBy W8 v6.ownBlock) (hn1 : n1 ≤ ws.heap.size) {g2 c2 : Nat} {q1 q2 q3 q4 : Nat × Nat} {wt : Bool} (hwt : wt = c.x.waits)
    (ho : W8.ownsRow n1 57 5 (.slice (some ⟨g2, 0, none⟩) (i + 1) c2) (i + 1) (cellsC L ++ [im q1, im q2, im q3, im q4, .bool wt])) (I1 : Im W8 q1 c.x.rd ∧ ws.heap.size ≤ q1.1) (I2 : Im W8 q2 c.x.dur ∧ ws.heap.size ≤ q2.1) (I3 : Im W8 q3 c.x.syn ∧ ws.heap.size ≤ q3.1) (I4 : Im W8 q4 c.x.wri ∧ ws.heap.size ≤ q4.1)
    {b6 : Nat} {cs : Array Value} (hb6 : W8.heap[b6]? = some (.cells cs 55 (0, 0))) (x : Value) : NewRow (W8.setCell ⟨b6, 1, none⟩ x) n1 (.slice (some ⟨g2, 0, none⟩) (i + 1) c2) (L ++ [⟨c.x, q1, q2, q3, q4⟩]) src (i + 1) := by
  have hset : ∀ {v : Value} {base e size n : Nat} {xs : List Value}, W8.ownsRow base e size v n xs → e ≠ 55 → (W8.setCell ⟨b6, 1, none⟩ x).ownsRow base e size v n xs := fun {v base e size n xs} h0 hne => own_other h0 (fun g hg => Below.heap_setCell W8 ⟨b6, 1, none⟩ x g (own_ne h0 hg hb6 hne))
  have hmi : ∀ {q : Nat × Nat} {zs : List Nat}, Im wi q zs → Im W8 q zs := fun {q zs} hq => by
    have hs : Im ws q zs := own_other hq (fun g hg => hBs.block g (own_lt hq g hg))
    have hv : ws.ownsRow n1 57 5 v6 L.length (cellsC L) := own_other h.own (fun g hg => hBs.block g (own_lt h.own g hg))
    exact im_grown hs hG (fun e => own_ne2 hs hv rfl e.symm (by decide) rfl)
  have hL : L.length = i := h.len
  refine ⟨?_, by simp [hL], ?_, fun c' hc' => ?_, fun c' hc' => ?_⟩
  · have he : cellsC (L ++ [⟨c.x, q1, q2, q3, q4⟩]) = cellsC L ++ [im q1, im q2, im q3, im q4, .bool wt] := by simp [cellsC, Yc.cells, hwt]
    rw [he, List.length_append, hL]
    exact hset ho (by decide)
  · rw [List.map_append, h.xs, List.take_add_one, List.map_append, hc]; rfl
  · rcases List.mem_append.1 hc' with hm | hm
    · obtain ⟨a0, a1, a2, a3⟩ := h.ims c' hm
      exact ⟨hset (hmi a0) (by decide), hset (hmi a1) (by decide), hset (hmi a2) (by decide), hset (hmi a3) (by decide)⟩
    · obtain rfl := List.mem_singleton.1 hm
      exact ⟨hset I1.1 (by decide), hset I2.1 (by decide), hset I3.1 (by decide), hset I4.1 (by decide)⟩
  · rcases List.mem_append.1 hc' with hm | hm
    · exact h.fi c' hm
    · obtain rfl := List.mem_singleton.1 hm
      exact ⟨Nat.le_trans hn1 I1.2, Nat.le_trans hn1 I2.2, Nat.le_trans hn1 I3.2, Nat.le_trans hn1 I4.2⟩

theorem grown_chain {w1 wi ws W8 : World} {b6 : Nat} {row : Option Nat} (h : w1.grownBy wi (some b6)) (hB : Below wi.heap.size wi ws) (hG : ws.grownBy W8 row) (hr : ∀ b, row = some b → w1.heap.size ≤ b) (x : Value) : w1.grownBy (W8.setCell ⟨b6, 1, none⟩ x) (some b6) :=
  ⟨hG.os.trans (hB.os.trans h.os), hG.tape.trans (hB.tape.trans h.tape), hG.output.trans (hB.output.trans h.output), by rw [World.size_setCell]; exact Nat.le_trans h.size (Nat.le_trans hB.size hG.size), fun k hk hne => by
    rw [Below.heap_setCell W8 ⟨b6, 1, none⟩ x k (fun e => hne (by rw [e]))]
    have hk2 : k < wi.heap.size := Nat.lt_of_lt_of_le hk h.size
    exact (hG.block k (Nat.lt_of_lt_of_le hk2 hB.size) (fun e => by have := hr k e.symm; omega)).trans ((hB.block k hk2).trans (h.block k hk hne))⟩

theorem own_raise {w : World} {base base' e size n : Nat} {v : Value} {xs : List Value} (h : w.ownsRow base e size v n xs) (hb : ∀ g, v.ownBlock = some g → base' ≤ g) : w.ownsRow base' e size v n xs := by
  rcases h.2 with h2 | ⟨g', cap, cur, hv, hbase, r⟩
  · exact ⟨h.1, .inl h2⟩
  · exact ⟨h.1, .inr ⟨g', cap, cur, hv, hb g' (by rw [hv]; rfl), r⟩⟩

theorem ldf_run {o : Oper} {a : Act} {w : World} {x : Operand} {b : Nat} {s : ByteArray} {v : Value} (ho : o.op = Op.load 55 x) (hx : a.eval x = .pointer (some ⟨b, 0, none⟩)) (hb : w.heap[b]? = some (.cells #[.string s, v] 55 (0, 0))) : (execOp a.eval o).run Try.prog w = .ok (.value (.agg #[.string s, v])) w := by
  unfold execOp
  simp only [ho, hx, Instr.loadAt, Instr.sureAddr, Sem.run_bind, Sem.run_pure, Result.andThen_ok, run_loadVar_row w b 55 55 #[.string s, v] (0, 0) _ hb Try.underlying55 rfl (by kernel_rfl)]

theorem bs1g_run {o : Oper} {a : Act} {w : World} {x : Operand} {s : ByteArray} {aa : Option Addr} {n c : Nat} (ho : o.op = Op.buildSlice 50 1 #[(0, x)]) (hx : a.eval x = .agg #[.string s, .slice aa n c]) : (execOp a.eval o).run Try.prog w = .ok (.value (.slice (some ⟨w.heap.size, 0, none⟩) 1 1)) (w.alloc (.cells #[.string s, .slice aa n c] 55)) := by
  have h : (Instr.buildSlice 50 1 #[(0, .agg #[.string s, .slice aa n c])]).run Try.prog w = .ok (.slice (some ⟨w.heap.size, 0, none⟩) 1 1) (w.alloc (.cells #[.string s, .slice aa n c] 55)) := by kernel_rfl
  simp [execOp, ho, hx, h, Result.andThen]

theorem srcG {W : World} {b : Nat} {s : ByteArray} {aa : Option Addr} {n c : Nat} (he : W.heap[b]? = some (.cells #[.string s, .slice aa n c] 55 (0, 0))) : ([.string s, .slice aa n c] : List Value).length = 1 * 2 ∧ (∀ u ∈ ([.string s, .slice aa n c] : List Value), u.oneCell' = true) ∧ ((some ⟨b, 0, none⟩ : Option Addr) = none → (1 : Nat) = 0) ∧ ∀ x, (some ⟨b, 0, none⟩ : Option Addr) = some x → ∀ j u, ([.string s, .slice aa n c] : List Value)[j]? = some u → W.cell? (x.add j) = some u := by
  refine ⟨rfl, fun u hu => ?_, (fun e => by cases e), fun x hx j u hj => ?_⟩
  · simp only [List.mem_cons, List.not_mem_nil, or_false] at hu
    rcases hu with rfl | rfl <;> rfl
  · cases hx
    rw [add_none, Nat.zero_add, cell_of_row _ _ _ _ _ _ he]
    simpa using hj

/-- The same disk with one file more at its end; its row of files may lie where it lay. -/
theorem RyOf.files4 {w w' : World} {y : Nat} {F F' : Nat → Prop} {fa : Option Addr} {fc : Nat} {R : List Yf} {room fuse : Int} (h : RyOf w y F fa fc R room fuse) (f' : Yf) (hnm : f'.name.size ≤ 24) (hne0 : f'.l ≠ []) (a' : Option Addr) (c' : Nat)
    (hy : w'.heap[y]? = some (.cells #[.int .i64 room, .slice a' (R.length + 1) c', .int .i64 fuse] 52 (0, 0))) (hfiles : w'.ownsRow 0 55 2 (.slice a' (R.length + 1) c') (R.length + 1) (cellsR (R ++ [f'])))
    (hrow : w'.ownsRow 0 57 5 f'.row f'.l.length (cellsC f'.l))
    (him : ∀ c ∈ f'.l, (Im w' c.q0 c.x.rd ∧ Im w' c.q1 c.x.dur ∧ Im w' c.q2 c.x.syn ∧ Im w' c.q3 c.x.wri) ∧ c.x.ok ∧ F' c.q0.1 ∧ F' c.q1.1 ∧ F' c.q2.1 ∧ F' c.q3.1)
    (hb : ∀ b, F b → b ≠ y → (Value.slice fa R.length fc).ownBlock ≠ some b → w'.heap[b]? = w.heap[b]?) (hFF : ∀ b, F b → F' b) (hFa : ∀ x, a' = some x → F' x.block) (hFg : F' f'.g) (hnew : ¬ F f'.g) : RyOf w' y F' a' c' (R ++ [f']) room fuse := by
  have hlen : (R ++ [f']).length = R.length + 1 := by simp
  have hmem : ∀ f ∈ R ++ [f'], f ∈ R ∨ f = f' := fun f hf => by
    rcases List.mem_append.1 hf with hf | hf
    · exact .inl hf
    · exact .inr (List.mem_singleton.1 hf)
  refine ⟨by rw [hlen]; exact hy, by rw [hlen]; exact hfiles, fun f hf => ?_, fun f hf c hc => ?_, fun f hf => ?_, ?_, hFF _ h.fy, hFa, fun f hf => ?_, fun f hf c hc => ?_⟩
  · rcases hmem f hf with hm | rfl
    · exact own_other (h.rows f hm) (fun g hg => by
        obtain rfl : f.g = g := by simpa [Yf.row, Value.ownBlock] using hg
        exact hb _ (h.fr f hm) (own_ne (h.rows f hm) (g := f.g) rfl h.disk (Ne.symm tyDF.2.1)) (fun e => own_ne2 (h.rows f hm) h.files (g := f.g) rfl e (by decide) rfl))
    · exact hrow
  · rcases hmem f hf with hm | rfl
    · obtain ⟨a0, a1, a2, a3⟩ := h.ims f hm c hc
      obtain ⟨b0, b1, b2, b3⟩ := h.fi f hm c hc
      have nn : ∀ {q : Nat × Nat} {z : List Nat}, Im w q z → q.1 ≠ y := fun hq => own_ne hq rfl h.disk (Ne.symm tyDF.2.2.1)
      have nf : ∀ {q : Nat × Nat} {z : List Nat}, Im w q z → (Value.slice fa R.length fc).ownBlock ≠ some q.1 := fun hq e => own_ne2 hq h.files rfl e (by decide) rfl
      exact ⟨own_other a0 (fun g hg => by cases hg; exact hb _ b0 (nn a0) (nf a0)), own_other a1 (fun g hg => by cases hg; exact hb _ b1 (nn a1) (nf a1)), own_other a2 (fun g hg => by cases hg; exact hb _ b2 (nn a2) (nf a2)), own_other a3 (fun g hg => by cases hg; exact hb _ b3 (nn a3) (nf a3))⟩
    · exact (him c hc).1
  · rcases hmem f hf with hm | rfl
    · exact h.ok f hm
    · exact ⟨hnm, hne0, fun c hc => (him c hc).2.1⟩
  · have hp : (R ++ [f']).Perm (f' :: R) := List.perm_append_singleton f' R
    rw [(hp.map Yf.g).nodup_iff, List.map_cons, List.nodup_cons]
    refine ⟨fun hin => ?_, h.apart⟩
    obtain ⟨f2, h2, e⟩ := List.mem_map.1 hin
    exact hnew (e ▸ h.fr f2 h2)
  · rcases hmem f hf with hm | rfl
    · exact hFF _ (h.fr f hm)
    · exact hFg
  · rcases hmem f hf with hm | rfl
    · obtain ⟨b0, b1, b2, b3⟩ := h.fi f hm c hc
      exact ⟨hFF _ b0, hFF _ b1, hFF _ b2, hFF _ b3⟩
    · exact (him c hc).2.2

theorem setR2 {w : World} {y : Nat} {a b : Value} {t : TypeId} (h : w.heap[y]? = some (.cells #[a, b] t (0, 0))) (v : Value) : (w.setCell ⟨y, 1, none⟩ v).heap[y]? = some (.cells #[a, v] t (0, 0)) := by
  rw [setCell_eq_setRow _ _ _ _ _ _ _ h]
  exact setRow_heap _ _ _ _ _ _ h

theorem setR3 {w : World} {y : Nat} {a b c : Value} {t : TypeId} (h : w.heap[y]? = some (.cells #[a, b, c] t (0, 0))) (v : Value) : (w.setCell ⟨y, 1, none⟩ v).heap[y]? = some (.cells #[a, v, c] t (0, 0)) := by
  rw [setCell_eq_setRow _ _ _ _ _ _ _ h]
  exact setRow_heap _ _ _ _ _ _ h

set_option maxRecDepth 100000 in
set_option maxHeartbeats 16000000 in
theorem copyY_any (w : World) (y : Nat) (F : Nat → Prop) (fa : Option Addr) (fc : Nat) (R : List Yf) (room fuse : Int) (h : RyOf w y F fa fc R room fuse) (hF : ∀ k, F k → k < w.heap.size) (N : Nat) (hN : N = R.length) (hR : N ≤ 1000000) (hl : ∀ f ∈ R, f.l.length ≤ 100000) :
    Calls Try.prog 6 #[.pointer (some ⟨y, 0, none⟩)] w fun e w' => ∃ (y' : Nat) (fa' : Option Addr) (fc' : Nat) (R' : List Yf) (F' : Nat → Prop), e = .returned (.pointer (some ⟨y', 0, none⟩)) ∧ RyOf w' y' F' fa' fc' R' room fuse ∧ R'.map keyY = R.map keyY ∧ (∀ b, F' b → w.heap.size ≤ b ∧ b < w'.heap.size) ∧ Below w.heap.size w w' := by
  have c0 : w.cell? ⟨y, 0, none⟩ = some (.int .i64 room) := by rw [cell_of_row _ _ _ _ _ _ h.disk]; rfl
  have c1 : w.cell? ⟨y, 1, none⟩ = some (.slice fa N fc) := by rw [cell_of_row _ _ _ _ _ _ h.disk, hN]; rfl
  have c2 : w.cell? ⟨y, 2, none⟩ = some (.int .i64 fuse) := by rw [cell_of_row _ _ _ _ _ _ h.disk]; rfl
  have hyl : y < w.heap.size := hF y h.fy
  obtain ⟨n0, hn0⟩ : ∃ n0, n0 = w.heap.size := ⟨_, rfl⟩
  obtain ⟨wa, hwa⟩ : ∃ wa, wa = (w.alloc (.cells #[.int .i64 room, .slice none 0 0, .int .i64 fuse] 52)).drew := ⟨_, rfl⟩
  have hBa : Below w.heap.size w wa := by rw [hwa]; exact ((Below.refl _ w).alloc (Nat.le_refl _) _).drew
  have HDa : Hid (wa.heap[n0]? = some (.cells #[.int .i64 room, .slice none 0 0, .int .i64 fuse] 52 (0, 0))) := hidn (by rw [hwa, hn0]; exact heap_alloc_new w _)
  have HI0 : Hid (∃ (fa' : Option Addr) (fc' : Nat) (R' : List Yf) (F' : Nat → Prop), RyOf wa n0 F' fa' fc' R' room fuse ∧ R'.map keyY = (R.take 0).map keyY ∧ ∀ b, F' b → w.heap.size ≤ b ∧ b < wa.heap.size) := hidn (by
    refine ⟨none, 0, [], fun b => b = n0, ⟨HDa.out, World.ownsRow_nil _ _ _ _, ?_, ?_, ?_, List.nodup_nil, rfl, ?_, ?_, ?_⟩, rfl, fun b hb => ?_⟩
    · intro f hf; cases hf
    · intro f hf; cases hf
    · intro f hf; cases hf
    · intro x hx; cases hx
    · intro f hf; cases hf
    · intro f hf; cases hf
    · subst hb
      exact ⟨by omega, (Array.getElem?_eq_some_iff.1 HDa.out).1⟩)
  have HBa := hidn hBa
  have HN0 : Hid (w.heap.size ≤ n0) := hidn (by rw [hn0]; exact Nat.le_refl _)
  have H := hidn h
  have HF := hidn hF
  have HNN := hidn hN
  have HLL := hidn hl
  have c1' : wa.cell? ⟨y, 1, none⟩ = some (.slice fa N fc) := (hBa.cell (p := ⟨y, 1, none⟩) hyl).trans c1
  clear h hF hN hl hBa
  go_enter Try.func6, Try.ntmps6
  go_wp2_with fail
  go_region
  rw [← hwa, ← hn0]
  clear hwa c0 c2 HDa hn0
  go_wp2_with fail
  go_loopw [24] (fun iv wr => ∃ k : Nat, k ≤ N ∧ iv = .int .i64 (k : Int) ∧ Hid (∃ (fa' : Option Addr) (fc' : Nat) (R' : List Yf) (F' : Nat → Prop), RyOf wr n0 F' fa' fc' R' room fuse ∧ R'.map keyY = (R.take k).map keyY ∧ ∀ b, F' b → w.heap.size ≤ b ∧ b < wr.heap.size) ∧ Hid (Below w.heap.size w wr)) (fun iv _ => N - (intOf iv).toNat)
  case atStart => exact ⟨0, Nat.zero_le _, rfl, HI0, HBa⟩
  case round =>
    clear HI0 HBa c1'
    obtain ⟨k, hk, rfl, HI, HB⟩ := hrel
    obtain ⟨wo, hwo⟩ : ∃ wo, wo = wr := ⟨_, rfl⟩
    subst hwo
    by_cases hlt : k < N
    · have hlt2 : (k : Int) < (N : Int) := by omega
      obtain ⟨f, hf⟩ : ∃ f, R[k]? = some f := ⟨_, List.getElem?_eq_getElem (by rw [← HNN.out]; exact hlt)⟩
      have HFK := hidn hf
      obtain ⟨g, hfa, hFg, hc0, hc1⟩ := (H.out.below HF.out HB.out).at hf
      subst hfa
      unfold Yf.row at hc1
      obtain ⟨nm, hnm⟩ : ∃ nm, nm = f.name := ⟨_, rfl⟩
      obtain ⟨fg, hfg⟩ : ∃ fg, fg = f.g := ⟨_, rfl⟩
      obtain ⟨fl, hfl⟩ : ∃ fl, fl = f.l.length := ⟨_, rfl⟩
      obtain ⟨fcc, hfcc⟩ : ∃ fcc, fcc = f.c := ⟨_, rfl⟩
      rw [← hnm] at hc0
      rw [← hfg, ← hfl, ← hfcc] at hc1
      have hflb : fl ≤ 100000 := by rw [hfl]; exact HLL.out f (List.mem_of_getElem? hf)
      have HFE := hidn (And.intro hnm (And.intro hfg hfl))
      obtain ⟨w1, hw1⟩ : ∃ w1, w1 = (wo.alloc (.cells #[.string nm, .slice (some ⟨fg, 0, none⟩) fl fcc] 55)).alloc (.cells #[.string nm, .slice none 0 0] 55) := ⟨_, rfl⟩
      obtain ⟨b5, hb5⟩ : ∃ b5, b5 = wo.heap.size := ⟨_, rfl⟩
      obtain ⟨b6, hb6⟩ : ∃ b6, b6 = b5 + 1 := ⟨_, rfl⟩
      have hx1 : Below wo.heap.size wo w1 := by rw [hw1]; exact (((Below.refl _ _).alloc (Nat.le_refl _) _)).alloc (by simp) _
      have HB5 : Hid (w1.heap[b5]? = some (.cells #[.string nm, .slice (some ⟨fg, 0, none⟩) fl fcc] 55 (0, 0))) := hidn (by rw [hw1, hb5, Below.heap_alloc _ _ _ (by simp)]; exact heap_alloc_new _ _)
      have HB6 : Hid (w1.heap[b6]? = some (.cells #[.string nm, .slice none 0 0] 55 (0, 0))) := hidn (by
        have q := heap_alloc_new (wo.alloc (.cells #[.string nm, .slice (some ⟨fg, 0, none⟩) fl fcc] 55)) (.cells #[.string nm, .slice none 0 0] 55)
        rw [World.size_alloc, ← hw1, ← hb5, ← hb6] at q
        exact q)
      have hb56 : b5 < n0 ∨ True := .inr trivial
      have HS := hidn (And.intro hb5 hb6)
      have HX1 := hidn hx1
      obtain ⟨n1, hn1⟩ : ∃ n1, n1 = w1.heap.size := ⟨_, rfl⟩
      have HN1 := hidn hn1
      clear hf hnm hfg hfl hfcc hFg hx1 hb56 hn1
      go_wp2_with fail
      rw [← hw1, ← hb5, ← hb6]
      clear hc0 hc1 hw1 hb5 hb6
      go_loopw [34] (fun iv wr => ∃ (i : Nat) (v6 : Value) (L : List Yc), i ≤ fl ∧ iv = .int .i64 (i : Int) ∧ Hid (NewRow wr n1 v6 L f.l i) ∧ Hid (Below w1.heap.size w1 wr ∨ True) ∧ Hid (wr.heap[b5]? = some (.cells #[.string nm, .slice (some ⟨fg, 0, none⟩) fl fcc] 55 (0, 0))) ∧ Hid (wr.heap[b6]? = some (.cells #[.string nm, v6] 55 (0, 0))) ∧ Hid (w1.grownBy wr (some b6))) (fun iv _ => fl - (intOf iv).toNat)
      case atStart => exact ⟨0, _, [], Nat.zero_le _, rfl, hidn ⟨World.ownsRow_nil _ _ _ _, rfl, rfl, (fun c hc => by cases hc), (fun c hc => by cases hc)⟩, hidn (.inr trivial), HB5, HB6, hidn ⟨rfl, rfl, rfl, Nat.le_refl _, fun _ _ _ => rfl⟩⟩
      case round =>
        clear HB5 HB6
        obtain ⟨i, v6, L, hi', rfl, HNR, _, HB5, HB6, HG⟩ := hrel
        obtain ⟨wi, hwi⟩ : ∃ wi, wi = wr := ⟨_, rfl⟩
        subst hwi
        by_cases hlti : i < fl
        · have hlti2 : (i : Int) < (fl : Int) := by omega
          have hwB : Below w.heap.size w wi := (HB.out.trans (HX1.out.mono HB.out.size)).grown HG.out (by have := HB.out.size; have := HX1.out.size; omega) (fun b hb => by cases hb; have := HB.out.size; have := HS.out.1; have := HS.out.2; omega)
          have hR2 := H.out.below HF.out hwB
          have hm := List.mem_of_getElem? HFK.out
          obtain ⟨c, hc⟩ : ∃ c, f.l[i]? = some c := ⟨_, List.getElem?_eq_getElem (by rw [← HFE.out.2.2]; exact hlti)⟩
          have hcm := List.mem_of_getElem? hc
          obtain ⟨d0, d1, d2, d3, d4⟩ := hR2.ext hm hc
          obtain ⟨x0, x1, x2, x3⟩ := hR2.ims _ hm c hcm
          have hok := (hR2.ok _ hm).2.2 c hcm
          rw [← HFE.out.2.1] at d0 d1 d2 d3 d4
          obtain ⟨⟨p0, r0⟩, hq0⟩ : ∃ q, q = c.q0 := ⟨_, rfl⟩
          obtain ⟨⟨p1, r1⟩, hq1⟩ : ∃ q, q = c.q1 := ⟨_, rfl⟩
          obtain ⟨⟨p2, r2⟩, hq2⟩ : ∃ q, q = c.q2 := ⟨_, rfl⟩
          obtain ⟨⟨p3, r3⟩, hq3⟩ : ∃ q, q = c.q3 := ⟨_, rfl⟩
          obtain ⟨wt, hwt⟩ : ∃ wt, wt = c.x.waits := ⟨_, rfl⟩
          rw [← hq0] at d0 x0
          rw [← hq1] at d1 x1
          rw [← hq2] at d2 x2
          rw [← hq3] at d3 x3
          rw [← hwt] at d4
          have cn5 : wi.cell? ⟨b5, 1, none⟩ = some (.slice (some ⟨fg, 0, none⟩) fl fcc) := by rw [cell_of_row _ _ _ _ _ _ HB5.out]; rfl
          have HWT := hidn hwt
          clear hR2 hm hcm hq0 hq1 hq2 hq3 hwt
          go_wp2_with fail
          obtain ⟨b8, hb8⟩ : ∃ b8, b8 = wi.heap.size := ⟨_, rfl⟩
          obtain ⟨ws, hws⟩ : ∃ ws, ws = wi.alloc (.cells #[.slice (some ⟨p0, 0, none⟩) 128 r0, .slice (some ⟨p1, 0, none⟩) 128 r1, .slice (some ⟨p2, 0, none⟩) 128 r2, .slice (some ⟨p3, 0, none⟩) 128 r3, .bool wt] 57) := ⟨_, rfl⟩
          have E8 : ws.heap[b8]? = some (.cells #[.slice (some ⟨p0, 0, none⟩) 128 r0, .slice (some ⟨p1, 0, none⟩) 128 r1, .slice (some ⟨p2, 0, none⟩) 128 r2, .slice (some ⟨p3, 0, none⟩) 128 r3, .bool wt] 57 (0, 0)) := by rw [hws, hb8]; exact heap_alloc_new _ _
          have hBs : Below wi.heap.size wi ws := by rw [hws]; exact (Below.refl _ _).alloc (Nat.le_refl _) _
          have E6 : ws.heap[b6]? = some (.cells #[.string nm, v6] 55 (0, 0)) := (hBs.block b6 (Array.getElem?_eq_some_iff.1 HB6.out).1).trans HB6.out
          have hv8 : v6.ownBlock ≠ some b8 := fun e => by have := own_lt HNR.out.own b8 e; omega
          have hv6 : v6.ownBlock ≠ some b6 := fun e => own_ne HNR.out.own (g := b6) e HB6.out (by decide) rfl
          have h8 : ∀ W, ws.grownBy W v6.ownBlock → W.heap[b8]? = ws.heap[b8]? := fun W hW => hW.block b8 (Array.getElem?_eq_some_iff.1 E8).1 (fun e => hv8 e.symm)
          have h6 : ∀ W, ws.grownBy W v6.ownBlock → W.heap[b6]? = ws.heap[b6]? := fun W hW => hW.block b6 (Array.getElem?_eq_some_iff.1 E6).1 (fun e => hv6 e.symm)
          have L0 : ∀ W, ws.grownBy W v6.ownBlock → W.cell? ⟨b8, 0, none⟩ = some (.slice (some ⟨p0, 0, none⟩) 128 r0) := fun W hW => by rw [cell_of_row _ _ _ _ _ _ ((h8 W hW).trans E8)]; rfl
          have L1 : ∀ W, ws.grownBy W v6.ownBlock → W.cell? ⟨b8, 1, none⟩ = some (.slice (some ⟨p1, 0, none⟩) 128 r1) := fun W hW => by rw [cell_of_row _ _ _ _ _ _ ((h8 W hW).trans E8)]; rfl
          have L2 : ∀ W, ws.grownBy W v6.ownBlock → W.cell? ⟨b8, 2, none⟩ = some (.slice (some ⟨p2, 0, none⟩) 128 r2) := fun W hW => by rw [cell_of_row _ _ _ _ _ _ ((h8 W hW).trans E8)]; rfl
          have L3 : ∀ W, ws.grownBy W v6.ownBlock → W.cell? ⟨b8, 3, none⟩ = some (.slice (some ⟨p3, 0, none⟩) 128 r3) := fun W hW => by rw [cell_of_row _ _ _ _ _ _ ((h8 W hW).trans E8)]; rfl
          have L4 : ∀ W, ws.grownBy W v6.ownBlock → W.cell? ⟨b8, 4, none⟩ = some (.bool wt) := fun W hW => by rw [cell_of_row _ _ _ _ _ _ ((h8 W hW).trans E8)]; rfl
          have L6 : ∀ W, ws.grownBy W v6.ownBlock → W.cell? ⟨b6, 1, none⟩ = some v6 := fun W hW => by rw [cell_of_row _ _ _ _ _ _ ((h6 W hW).trans E6)]; rfl
          have hl1 : c.x.rd.length = 128 := by have := x0.1; rw [length_vb] at this; omega
          have hsrc1 : ∀ W, ws.grownBy W v6.ownBlock → ∀ j u, (vb c.x.rd)[j]? = some u → W.cell? ((⟨p0, 0, none⟩ : Addr).add j) = some u := fun W hW => by
            have hlt := own_lt x0 p0 rfl
            have hne : v6.ownBlock ≠ some p0 := fun e => by
              obtain ⟨cur, hcur⟩ := own_ty x0 (g := p0) rfl
              exact own_ne HNR.out.own (g := p0) e hcur (by decide) rfl
            have y0 : Im W (p0, r0) c.x.rd := own_other x0 (fun b hb => by cases hb; exact (hW.block p0 (by have := hBs.size; omega) (fun e => hne e.symm)).trans (hBs.block p0 hlt))
            intro j u hj
            have hc := y0.cells (g := p0) rfl j u hj
            exact hc
          have hl2 : c.x.dur.length = 128 := by have := x1.1; rw [length_vb] at this; omega
          have hsrc2 : ∀ W, ws.grownBy W v6.ownBlock → ∀ j u, (vb c.x.dur)[j]? = some u → W.cell? ((⟨p1, 0, none⟩ : Addr).add j) = some u := fun W hW => by
            have hlt := own_lt x1 p1 rfl
            have hne : v6.ownBlock ≠ some p1 := fun e => by
              obtain ⟨cur, hcur⟩ := own_ty x1 (g := p1) rfl
              exact own_ne HNR.out.own (g := p1) e hcur (by decide) rfl
            have y1 : Im W (p1, r1) c.x.dur := own_other x1 (fun b hb => by cases hb; exact (hW.block p1 (by have := hBs.size; omega) (fun e => hne e.symm)).trans (hBs.block p1 hlt))
            intro j u hj
            have hc := y1.cells (g := p1) rfl j u hj
            exact hc
          have hl3 : c.x.syn.length = 128 := by have := x2.1; rw [length_vb] at this; omega
          have hsrc3 : ∀ W, ws.grownBy W v6.ownBlock → ∀ j u, (vb c.x.syn)[j]? = some u → W.cell? ((⟨p2, 0, none⟩ : Addr).add j) = some u := fun W hW => by
            have hlt := own_lt x2 p2 rfl
            have hne : v6.ownBlock ≠ some p2 := fun e => by
              obtain ⟨cur, hcur⟩ := own_ty x2 (g := p2) rfl
              exact own_ne HNR.out.own (g := p2) e hcur (by decide) rfl
            have y2 : Im W (p2, r2) c.x.syn := own_other x2 (fun b hb => by cases hb; exact (hW.block p2 (by have := hBs.size; omega) (fun e => hne e.symm)).trans (hBs.block p2 hlt))
            intro j u hj
            have hc := y2.cells (g := p2) rfl j u hj
            exact hc
          have hl4 : c.x.wri.length = 128 := by have := x3.1; rw [length_vb] at this; omega
          have hsrc4 : ∀ W, ws.grownBy W v6.ownBlock → ∀ j u, (vb c.x.wri)[j]? = some u → W.cell? ((⟨p3, 0, none⟩ : Addr).add j) = some u := fun W hW => by
            have hlt := own_lt x3 p3 rfl
            have hne : v6.ownBlock ≠ some p3 := fun e => by
              obtain ⟨cur, hcur⟩ := own_ty x3 (g := p3) rfl
              exact own_ne HNR.out.own (g := p3) e hcur (by decide) rfl
            have y3 : Im W (p3, r3) c.x.wri := own_other x3 (fun b hb => by cases hb; exact (hW.block p3 (by have := hBs.size; omega) (fun e => hne e.symm)).trans (hBs.block p3 hlt))
            intro j u hj
            have hc := y3.cells (g := p3) rfl j u hj
            exact hc
          rw [← hws, ← hb8]
          clear hws hb8
          have hown6 : wi.ownsRow n1 57 5 v6 i (cellsC L) := by have q := HNR.out.own; rwa [HNR.out.len] at q
          have hn1s : n1 ≤ ws.heap.size := by rw [HN1.out]; exact Nat.le_trans HG.out.size hBs.size
          have hi100 : i ≤ 100000 := Nat.le_trans hi' hflb
          refine region_cut (fun li w' => ∃ (e1 e2 e3 e4 : Nat) (q1 q2 q3 q4 : Nat × Nat) (b59 g2 c2 : Nat) (W : World), li = [(38, .pointer (some ⟨b6, 1, none⟩)), (39, v6), (40, .slice (some ⟨e1, 0, none⟩) 0 0), (41, .pointer (some ⟨b8, 0, none⟩)), (42, .slice (some ⟨p0, 0, none⟩) 128 r0), (43, im q1), (44, .slice (some ⟨e2, 0, none⟩) 0 0), (45, .pointer (some ⟨b8, 1, none⟩)), (46, .slice (some ⟨p1, 0, none⟩) 128 r1), (47, im q2), (48, .slice (some ⟨e3, 0, none⟩) 0 0), (49, .pointer (some ⟨b8, 2, none⟩)), (50, .slice (some ⟨p2, 0, none⟩) 128 r2), (51, im q3), (52, .slice (some ⟨e4, 0, none⟩) 0 0), (53, .pointer (some ⟨b8, 3, none⟩)), (54, .slice (some ⟨p3, 0, none⟩) 128 r3), (55, im q4), (56, .pointer (some ⟨b8, 4, none⟩)), (57, .bool wt), (58, .agg #[im q1, im q2, im q3, im q4, .bool wt]), (59, .slice (some ⟨b59, 0, none⟩) 1 1), (60, .slice (some ⟨g2, 0, none⟩) (i + 1) c2), (61, .pointer (some ⟨b6, 1, none⟩))] ∧ w' = W.setCell ⟨b6, 1, none⟩ (.slice (some ⟨g2, 0, none⟩) (i + 1) c2) ∧ ws.grownBy W v6.ownBlock ∧ W.ownsRow n1 57 5 (.slice (some ⟨g2, 0, none⟩) (i + 1) c2) (i + 1) (cellsC L ++ [im q1, im q2, im q3, im q4, .bool wt]) ∧ (Im W q1 c.x.rd ∧ ws.heap.size ≤ q1.1) ∧ (Im W q2 c.x.dur ∧ ws.heap.size ≤ q2.1) ∧ (Im W q3 c.x.syn ∧ ws.heap.size ≤ q3.1) ∧ (Im W q4 c.x.wri ∧ ws.heap.size ≤ q4.1)) ?_ ?_
          · refine wp_region_noPanic ?_
            refine wp_region_heldZ (S := fun W => ws.grownBy W v6.ownBlock) 24 (by kernel_rfl) ⟨rfl, rfl, rfl, Nat.le_refl _, fun _ _ _ => rfl⟩ (fun hHeld => ?_)
            refine drawnZ_take (i := 0) (v := .pointer (some ⟨b6, 1, none⟩)) (some 38) rfl (by kernel_rfl) rfl (by kernel_rfl) (by kernel_rfl) (by kernel_rfl) (fun _ _ _ h => h) (Or.inl ⟨by kernel_rfl, fun wq hw => by go_simp⟩) hHeld ?_
            simp only [Act.put, List.setIfInBounds_toArray, List.set_cons_succ, List.set_cons_zero]
            refine drawnZ_take (i := 1) (v := v6) (some 39) rfl (by kernel_rfl) rfl (by kernel_rfl) (by kernel_rfl) (by kernel_rfl) (fun _ _ _ h => h) (Or.inl ⟨by kernel_rfl, fun wq hw => by have q := L6 wq hw; go_simp⟩) hHeld ?_
            simp only [Act.put, List.setIfInBounds_toArray, List.set_cons_succ, List.set_cons_zero]
            refine drawnZ_take (i := 3) (v := .pointer (some ⟨b8, 0, none⟩)) (some 41) rfl (by kernel_rfl) rfl (by kernel_rfl) (by kernel_rfl) (by kernel_rfl) (fun _ _ _ h => h) (Or.inl ⟨by kernel_rfl, fun wq hw => by go_simp⟩) hHeld ?_
            simp only [Act.put, List.setIfInBounds_toArray, List.set_cons_succ, List.set_cons_zero]
            refine drawnZ_take (i := 4) (v := .slice (some ⟨p0, 0, none⟩) 128 r0) (some 42) rfl (by kernel_rfl) rfl (by kernel_rfl) (by kernel_rfl) (by kernel_rfl) (fun _ _ _ h => h) (Or.inl ⟨by kernel_rfl, fun wq hw => by have q := L0 wq hw; go_simp⟩) hHeld ?_
            simp only [Act.put, List.setIfInBounds_toArray, List.set_cons_succ, List.set_cons_zero]
            refine drawnZ_take (i := 7) (v := .pointer (some ⟨b8, 1, none⟩)) (some 45) rfl (by kernel_rfl) rfl (by kernel_rfl) (by kernel_rfl) (by kernel_rfl) (fun _ _ _ h => h) (Or.inl ⟨by kernel_rfl, fun wq hw => by go_simp⟩) hHeld ?_
            simp only [Act.put, List.setIfInBounds_toArray, List.set_cons_succ, List.set_cons_zero]
            refine drawnZ_take (i := 8) (v := .slice (some ⟨p1, 0, none⟩) 128 r1) (some 46) rfl (by kernel_rfl) rfl (by kernel_rfl) (by kernel_rfl) (by kernel_rfl) (fun _ _ _ h => h) (Or.inl ⟨by kernel_rfl, fun wq hw => by have q := L1 wq hw; go_simp⟩) hHeld ?_
            simp only [Act.put, List.setIfInBounds_toArray, List.set_cons_succ, List.set_cons_zero]
            refine drawnZ_take (i := 11) (v := .pointer (some ⟨b8, 2, none⟩)) (some 49) rfl (by kernel_rfl) rfl (by kernel_rfl) (by kernel_rfl) (by kernel_rfl) (fun _ _ _ h => h) (Or.inl ⟨by kernel_rfl, fun wq hw => by go_simp⟩) hHeld ?_
            simp only [Act.put, List.setIfInBounds_toArray, List.set_cons_succ, List.set_cons_zero]
            refine drawnZ_take (i := 12) (v := .slice (some ⟨p2, 0, none⟩) 128 r2) (some 50) rfl (by kernel_rfl) rfl (by kernel_rfl) (by kernel_rfl) (by kernel_rfl) (fun _ _ _ h => h) (Or.inl ⟨by kernel_rfl, fun wq hw => by have q := L2 wq hw; go_simp⟩) hHeld ?_
            simp only [Act.put, List.setIfInBounds_toArray, List.set_cons_succ, List.set_cons_zero]
            refine drawnZ_take (i := 15) (v := .pointer (some ⟨b8, 3, none⟩)) (some 53) rfl (by kernel_rfl) rfl (by kernel_rfl) (by kernel_rfl) (by kernel_rfl) (fun _ _ _ h => h) (Or.inl ⟨by kernel_rfl, fun wq hw => by go_simp⟩) hHeld ?_
            simp only [Act.put, List.setIfInBounds_toArray, List.set_cons_succ, List.set_cons_zero]
            refine drawnZ_take (i := 16) (v := .slice (some ⟨p3, 0, none⟩) 128 r3) (some 54) rfl (by kernel_rfl) rfl (by kernel_rfl) (by kernel_rfl) (by kernel_rfl) (fun _ _ _ h => h) (Or.inl ⟨by kernel_rfl, fun wq hw => by have q := L3 wq hw; go_simp⟩) hHeld ?_
            simp only [Act.put, List.setIfInBounds_toArray, List.set_cons_succ, List.set_cons_zero]
            refine drawnZ_take (i := 18) (v := .pointer (some ⟨b8, 4, none⟩)) (some 56) rfl (by kernel_rfl) rfl (by kernel_rfl) (by kernel_rfl) (by kernel_rfl) (fun _ _ _ h => h) (Or.inl ⟨by kernel_rfl, fun wq hw => by go_simp⟩) hHeld ?_
            simp only [Act.put, List.setIfInBounds_toArray, List.set_cons_succ, List.set_cons_zero]
            refine drawnZ_take (i := 19) (v := .bool wt) (some 57) rfl (by kernel_rfl) rfl (by kernel_rfl) (by kernel_rfl) (by kernel_rfl) (fun _ _ _ h => h) (Or.inl ⟨by kernel_rfl, fun wq hw => by have q := L4 wq hw; go_simp⟩) hHeld ?_
            simp only [Act.put, List.setIfInBounds_toArray, List.set_cons_succ, List.set_cons_zero]
          -- STATES
            refine any_statesZ (Rel := fun fuel dn l W => (fuel = 13 ∧ dn = [] ∧ l = [] ∧ ws.grownBy W none) ∨ (∃ (b1 : Nat), fuel = 12 ∧ dn = [2] ∧ l = [(40, .slice (some ⟨b1, 0, none⟩) 0 0)] ∧ ws.grownBy W none ∧ (W.heap[b1]? = some (.cells #[] 5 (0, 0)) ∧ ws.heap.size ≤ b1)) ∨ (∃ (b2 : Nat), fuel = 12 ∧ dn = [6] ∧ l = [(44, .slice (some ⟨b2, 0, none⟩) 0 0)] ∧ ws.grownBy W none ∧ (W.heap[b2]? = some (.cells #[] 5 (0, 0)) ∧ ws.heap.size ≤ b2)) ∨ (∃ (b3 : Nat), fuel = 12 ∧ dn = [10] ∧ l = [(48, .slice (some ⟨b3, 0, none⟩) 0 0)] ∧ ws.grownBy W none ∧ (W.heap[b3]? = some (.cells #[] 5 (0, 0)) ∧ ws.heap.size ≤ b3)) ∨ (∃ (b4 : Nat), fuel = 12 ∧ dn = [14] ∧ l = [(52, .slice (some ⟨b4, 0, none⟩) 0 0)] ∧ ws.grownBy W none ∧ (W.heap[b4]? = some (.cells #[] 5 (0, 0)) ∧ ws.heap.size ≤ b4)) ∨ (∃ (b1 b2 : Nat), fuel = 11 ∧ dn = [2, 6] ∧ l = [(40, .slice (some ⟨b1, 0, none⟩) 0 0), (44, .slice (some ⟨b2, 0, none⟩) 0 0)] ∧ ws.grownBy W none ∧ (W.heap[b1]? = some (.cells #[] 5 (0, 0)) ∧ ws.heap.size ≤ b1) ∧ (W.heap[b2]? = some (.cells #[] 5 (0, 0)) ∧ ws.heap.size ≤ b2) ∧ (b1 ≠ b2)) ∨ (∃ (b1 b3 : Nat), fuel = 11 ∧ dn = [2, 10] ∧ l = [(40, .slice (some ⟨b1, 0, none⟩) 0 0), (48, .slice (some ⟨b3, 0, none⟩) 0 0)] ∧ ws.grownBy W none ∧ (W.heap[b1]? = some (.cells #[] 5 (0, 0)) ∧ ws.heap.size ≤ b1) ∧ (W.heap[b3]? = some (.cells #[] 5 (0, 0)) ∧ ws.heap.size ≤ b3) ∧ (b1 ≠ b3)) ∨ (∃ (b1 b4 : Nat), fuel = 11 ∧ dn = [2, 14] ∧ l = [(40, .slice (some ⟨b1, 0, none⟩) 0 0), (52, .slice (some ⟨b4, 0, none⟩) 0 0)] ∧ ws.grownBy W none ∧ (W.heap[b1]? = some (.cells #[] 5 (0, 0)) ∧ ws.heap.size ≤ b1) ∧ (W.heap[b4]? = some (.cells #[] 5 (0, 0)) ∧ ws.heap.size ≤ b4) ∧ (b1 ≠ b4)) ∨ (∃ (b2 b3 : Nat), fuel = 11 ∧ dn = [6, 10] ∧ l = [(44, .slice (some ⟨b2, 0, none⟩) 0 0), (48, .slice (some ⟨b3, 0, none⟩) 0 0)] ∧ ws.grownBy W none ∧ (W.heap[b2]? = some (.cells #[] 5 (0, 0)) ∧ ws.heap.size ≤ b2) ∧ (W.heap[b3]? = some (.cells #[] 5 (0, 0)) ∧ ws.heap.size ≤ b3) ∧ (b2 ≠ b3)) ∨ (∃ (b2 b4 : Nat), fuel = 11 ∧ dn = [6, 14] ∧ l = [(44, .slice (some ⟨b2, 0, none⟩) 0 0), (52, .slice (some ⟨b4, 0, none⟩) 0 0)] ∧ ws.grownBy W none ∧ (W.heap[b2]? = some (.cells #[] 5 (0, 0)) ∧ ws.heap.size ≤ b2) ∧ (W.heap[b4]? = some (.cells #[] 5 (0, 0)) ∧ ws.heap.size ≤ b4) ∧ (b2 ≠ b4)) ∨ (∃ (b3 b4 : Nat), fuel = 11 ∧ dn = [10, 14] ∧ l = [(48, .slice (some ⟨b3, 0, none⟩) 0 0), (52, .slice (some ⟨b4, 0, none⟩) 0 0)] ∧ ws.grownBy W none ∧ (W.heap[b3]? = some (.cells #[] 5 (0, 0)) ∧ ws.heap.size ≤ b3) ∧ (W.heap[b4]? = some (.cells #[] 5 (0, 0)) ∧ ws.heap.size ≤ b4) ∧ (b3 ≠ b4)) ∨ (∃ (b1 b2 b3 : Nat), fuel = 10 ∧ dn = [2, 6, 10] ∧ l = [(40, .slice (some ⟨b1, 0, none⟩) 0 0), (44, .slice (some ⟨b2, 0, none⟩) 0 0), (48, .slice (some ⟨b3, 0, none⟩) 0 0)] ∧ ws.grownBy W none ∧ (W.heap[b1]? = some (.cells #[] 5 (0, 0)) ∧ ws.heap.size ≤ b1) ∧ (W.heap[b2]? = some (.cells #[] 5 (0, 0)) ∧ ws.heap.size ≤ b2) ∧ (W.heap[b3]? = some (.cells #[] 5 (0, 0)) ∧ ws.heap.size ≤ b3) ∧ (b1 ≠ b2) ∧ (b1 ≠ b3) ∧ (b2 ≠ b3)) ∨ (∃ (b1 b2 b4 : Nat), fuel = 10 ∧ dn = [2, 6, 14] ∧ l = [(40, .slice (some ⟨b1, 0, none⟩) 0 0), (44, .slice (some ⟨b2, 0, none⟩) 0 0), (52, .slice (some ⟨b4, 0, none⟩) 0 0)] ∧ ws.grownBy W none ∧ (W.heap[b1]? = some (.cells #[] 5 (0, 0)) ∧ ws.heap.size ≤ b1) ∧ (W.heap[b2]? = some (.cells #[] 5 (0, 0)) ∧ ws.heap.size ≤ b2) ∧ (W.heap[b4]? = some (.cells #[] 5 (0, 0)) ∧ ws.heap.size ≤ b4) ∧ (b1 ≠ b2) ∧ (b1 ≠ b4) ∧ (b2 ≠ b4)) ∨ (∃ (b1 b3 b4 : Nat), fuel = 10 ∧ dn = [2, 10, 14] ∧ l = [(40, .slice (some ⟨b1, 0, none⟩) 0 0), (48, .slice (some ⟨b3, 0, none⟩) 0 0), (52, .slice (some ⟨b4, 0, none⟩) 0 0)] ∧ ws.grownBy W none ∧ (W.heap[b1]? = some (.cells #[] 5 (0, 0)) ∧ ws.heap.size ≤ b1) ∧ (W.heap[b3]? = some (.cells #[] 5 (0, 0)) ∧ ws.heap.size ≤ b3) ∧ (W.heap[b4]? = some (.cells #[] 5 (0, 0)) ∧ ws.heap.size ≤ b4) ∧ (b1 ≠ b3) ∧ (b1 ≠ b4) ∧ (b3 ≠ b4)) ∨ (∃ (b2 b3 b4 : Nat), fuel = 10 ∧ dn = [6, 10, 14] ∧ l = [(44, .slice (some ⟨b2, 0, none⟩) 0 0), (48, .slice (some ⟨b3, 0, none⟩) 0 0), (52, .slice (some ⟨b4, 0, none⟩) 0 0)] ∧ ws.grownBy W none ∧ (W.heap[b2]? = some (.cells #[] 5 (0, 0)) ∧ ws.heap.size ≤ b2) ∧ (W.heap[b3]? = some (.cells #[] 5 (0, 0)) ∧ ws.heap.size ≤ b3) ∧ (W.heap[b4]? = some (.cells #[] 5 (0, 0)) ∧ ws.heap.size ≤ b4) ∧ (b2 ≠ b3) ∧ (b2 ≠ b4) ∧ (b3 ≠ b4)) ∨ (∃ (b1 b2 b3 b4 : Nat), fuel = 9 ∧ dn = [2, 6, 10, 14] ∧ l = [(40, .slice (some ⟨b1, 0, none⟩) 0 0), (44, .slice (some ⟨b2, 0, none⟩) 0 0), (48, .slice (some ⟨b3, 0, none⟩) 0 0), (52, .slice (some ⟨b4, 0, none⟩) 0 0)] ∧ ws.grownBy W none ∧ (W.heap[b1]? = some (.cells #[] 5 (0, 0)) ∧ ws.heap.size ≤ b1) ∧ (W.heap[b2]? = some (.cells #[] 5 (0, 0)) ∧ ws.heap.size ≤ b2) ∧ (W.heap[b3]? = some (.cells #[] 5 (0, 0)) ∧ ws.heap.size ≤ b3) ∧ (W.heap[b4]? = some (.cells #[] 5 (0, 0)) ∧ ws.heap.size ≤ b4) ∧ (b1 ≠ b2) ∧ (b1 ≠ b3) ∧ (b1 ≠ b4) ∧ (b2 ≠ b3) ∧ (b2 ≠ b4) ∧ (b3 ≠ b4)) ∨ (∃ (e1 : Nat), ∃ (q1 : Nat × Nat), fuel = 11 ∧ dn = [2, 5] ∧ l = [(40, .slice (some ⟨e1, 0, none⟩) 0 0), (43, im q1)] ∧ ws.grownBy W none ∧ (Im W q1 c.x.rd ∧ ws.heap.size ≤ q1.1)) ∨ (∃ (e1 b2 : Nat), ∃ (q1 : Nat × Nat), fuel = 10 ∧ dn = [2, 5, 6] ∧ l = [(40, .slice (some ⟨e1, 0, none⟩) 0 0), (43, im q1), (44, .slice (some ⟨b2, 0, none⟩) 0 0)] ∧ ws.grownBy W none ∧ (Im W q1 c.x.rd ∧ ws.heap.size ≤ q1.1) ∧ (W.heap[b2]? = some (.cells #[] 5 (0, 0)) ∧ ws.heap.size ≤ b2) ∧ (b2 ≠ q1.1)) ∨ (∃ (e1 b3 : Nat), ∃ (q1 : Nat × Nat), fuel = 10 ∧ dn = [2, 5, 10] ∧ l = [(40, .slice (some ⟨e1, 0, none⟩) 0 0), (43, im q1), (48, .slice (some ⟨b3, 0, none⟩) 0 0)] ∧ ws.grownBy W none ∧ (Im W q1 c.x.rd ∧ ws.heap.size ≤ q1.1) ∧ (W.heap[b3]? = some (.cells #[] 5 (0, 0)) ∧ ws.heap.size ≤ b3) ∧ (b3 ≠ q1.1)) ∨ (∃ (e1 b4 : Nat), ∃ (q1 : Nat × Nat), fuel = 10 ∧ dn = [2, 5, 14] ∧ l = [(40, .slice (some ⟨e1, 0, none⟩) 0 0), (43, im q1), (52, .slice (some ⟨b4, 0, none⟩) 0 0)] ∧ ws.grownBy W none ∧ (Im W q1 c.x.rd ∧ ws.heap.size ≤ q1.1) ∧ (W.heap[b4]? = some (.cells #[] 5 (0, 0)) ∧ ws.heap.size ≤ b4) ∧ (b4 ≠ q1.1)) ∨ (∃ (e1 b2 b3 : Nat), ∃ (q1 : Nat × Nat), fuel = 9 ∧ dn = [2, 5, 6, 10] ∧ l = [(40, .slice (some ⟨e1, 0, none⟩) 0 0), (43, im q1), (44, .slice (some ⟨b2, 0, none⟩) 0 0), (48, .slice (some ⟨b3, 0, none⟩) 0 0)] ∧ ws.grownBy W none ∧ (Im W q1 c.x.rd ∧ ws.heap.size ≤ q1.1) ∧ (W.heap[b2]? = some (.cells #[] 5 (0, 0)) ∧ ws.heap.size ≤ b2) ∧ (W.heap[b3]? = some (.cells #[] 5 (0, 0)) ∧ ws.heap.size ≤ b3) ∧ (b2 ≠ b3) ∧ (b2 ≠ q1.1) ∧ (b3 ≠ q1.1)) ∨ (∃ (e1 b2 b4 : Nat), ∃ (q1 : Nat × Nat), fuel = 9 ∧ dn = [2, 5, 6, 14] ∧ l = [(40, .slice (some ⟨e1, 0, none⟩) 0 0), (43, im q1), (44, .slice (some ⟨b2, 0, none⟩) 0 0), (52, .slice (some ⟨b4, 0, none⟩) 0 0)] ∧ ws.grownBy W none ∧ (Im W q1 c.x.rd ∧ ws.heap.size ≤ q1.1) ∧ (W.heap[b2]? = some (.cells #[] 5 (0, 0)) ∧ ws.heap.size ≤ b2) ∧ (W.heap[b4]? = some (.cells #[] 5 (0, 0)) ∧ ws.heap.size ≤ b4) ∧ (b2 ≠ b4) ∧ (b2 ≠ q1.1) ∧ (b4 ≠ q1.1)) ∨ (∃ (e1 b3 b4 : Nat), ∃ (q1 : Nat × Nat), fuel = 9 ∧ dn = [2, 5, 10, 14] ∧ l = [(40, .slice (some ⟨e1, 0, none⟩) 0 0), (43, im q1), (48, .slice (some ⟨b3, 0, none⟩) 0 0), (52, .slice (some ⟨b4, 0, none⟩) 0 0)] ∧ ws.grownBy W none ∧ (Im W q1 c.x.rd ∧ ws.heap.size ≤ q1.1) ∧ (W.heap[b3]? = some (.cells #[] 5 (0, 0)) ∧ ws.heap.size ≤ b3) ∧ (W.heap[b4]? = some (.cells #[] 5 (0, 0)) ∧ ws.heap.size ≤ b4) ∧ (b3 ≠ b4) ∧ (b3 ≠ q1.1) ∧ (b4 ≠ q1.1)) ∨ (∃ (e1 b2 b3 b4 : Nat), ∃ (q1 : Nat × Nat), fuel = 8 ∧ dn = [2, 5, 6, 10, 14] ∧ l = [(40, .slice (some ⟨e1, 0, none⟩) 0 0), (43, im q1), (44, .slice (some ⟨b2, 0, none⟩) 0 0), (48, .slice (some ⟨b3, 0, none⟩) 0 0), (52, .slice (some ⟨b4, 0, none⟩) 0 0)] ∧ ws.grownBy W none ∧ (Im W q1 c.x.rd ∧ ws.heap.size ≤ q1.1) ∧ (W.heap[b2]? = some (.cells #[] 5 (0, 0)) ∧ ws.heap.size ≤ b2) ∧ (W.heap[b3]? = some (.cells #[] 5 (0, 0)) ∧ ws.heap.size ≤ b3) ∧ (W.heap[b4]? = some (.cells #[] 5 (0, 0)) ∧ ws.heap.size ≤ b4) ∧ (b2 ≠ b3) ∧ (b2 ≠ b4) ∧ (b2 ≠ q1.1) ∧ (b3 ≠ b4) ∧ (b3 ≠ q1.1) ∧ (b4 ≠ q1.1)) ∨ (∃ (e1 e2 : Nat), ∃ (q1 q2 : Nat × Nat), fuel = 9 ∧ dn = [2, 5, 6, 9] ∧ l = [(40, .slice (some ⟨e1, 0, none⟩) 0 0), (44, .slice (some ⟨e2, 0, none⟩) 0 0), (43, im q1), (47, im q2)] ∧ ws.grownBy W none ∧ (Im W q1 c.x.rd ∧ ws.heap.size ≤ q1.1) ∧ (Im W q2 c.x.dur ∧ ws.heap.size ≤ q2.1)) ∨ (∃ (e1 e2 b3 : Nat), ∃ (q1 q2 : Nat × Nat), fuel = 8 ∧ dn = [2, 5, 6, 9, 10] ∧ l = [(40, .slice (some ⟨e1, 0, none⟩) 0 0), (44, .slice (some ⟨e2, 0, none⟩) 0 0), (43, im q1), (47, im q2), (48, .slice (some ⟨b3, 0, none⟩) 0 0)] ∧ ws.grownBy W none ∧ (Im W q1 c.x.rd ∧ ws.heap.size ≤ q1.1) ∧ (Im W q2 c.x.dur ∧ ws.heap.size ≤ q2.1) ∧ (W.heap[b3]? = some (.cells #[] 5 (0, 0)) ∧ ws.heap.size ≤ b3) ∧ (b3 ≠ q1.1) ∧ (b3 ≠ q2.1)) ∨ (∃ (e1 e2 b4 : Nat), ∃ (q1 q2 : Nat × Nat), fuel = 8 ∧ dn = [2, 5, 6, 9, 14] ∧ l = [(40, .slice (some ⟨e1, 0, none⟩) 0 0), (44, .slice (some ⟨e2, 0, none⟩) 0 0), (43, im q1), (47, im q2), (52, .slice (some ⟨b4, 0, none⟩) 0 0)] ∧ ws.grownBy W none ∧ (Im W q1 c.x.rd ∧ ws.heap.size ≤ q1.1) ∧ (Im W q2 c.x.dur ∧ ws.heap.size ≤ q2.1) ∧ (W.heap[b4]? = some (.cells #[] 5 (0, 0)) ∧ ws.heap.size ≤ b4) ∧ (b4 ≠ q1.1) ∧ (b4 ≠ q2.1)) ∨ (∃ (e1 e2 b3 b4 : Nat), ∃ (q1 q2 : Nat × Nat), fuel = 7 ∧ dn = [2, 5, 6, 9, 10, 14] ∧ l = [(40, .slice (some ⟨e1, 0, none⟩) 0 0), (44, .slice (some ⟨e2, 0, none⟩) 0 0), (43, im q1), (47, im q2), (48, .slice (some ⟨b3, 0, none⟩) 0 0), (52, .slice (some ⟨b4, 0, none⟩) 0 0)] ∧ ws.grownBy W none ∧ (Im W q1 c.x.rd ∧ ws.heap.size ≤ q1.1) ∧ (Im W q2 c.x.dur ∧ ws.heap.size ≤ q2.1) ∧ (W.heap[b3]? = some (.cells #[] 5 (0, 0)) ∧ ws.heap.size ≤ b3) ∧ (W.heap[b4]? = some (.cells #[] 5 (0, 0)) ∧ ws.heap.size ≤ b4) ∧ (b3 ≠ b4) ∧ (b3 ≠ q1.1) ∧ (b3 ≠ q2.1) ∧ (b4 ≠ q1.1) ∧ (b4 ≠ q2.1)) ∨ (∃ (e1 e2 e3 : Nat), ∃ (q1 q2 q3 : Nat × Nat), fuel = 7 ∧ dn = [2, 5, 6, 9, 10, 13] ∧ l = [(40, .slice (some ⟨e1, 0, none⟩) 0 0), (44, .slice (some ⟨e2, 0, none⟩) 0 0), (48, .slice (some ⟨e3, 0, none⟩) 0 0), (43, im q1), (47, im q2), (51, im q3)] ∧ ws.grownBy W none ∧ (Im W q1 c.x.rd ∧ ws.heap.size ≤ q1.1) ∧ (Im W q2 c.x.dur ∧ ws.heap.size ≤ q2.1) ∧ (Im W q3 c.x.syn ∧ ws.heap.size ≤ q3.1)) ∨ (∃ (e1 e2 e3 b4 : Nat), ∃ (q1 q2 q3 : Nat × Nat), fuel = 6 ∧ dn = [2, 5, 6, 9, 10, 13, 14] ∧ l = [(40, .slice (some ⟨e1, 0, none⟩) 0 0), (44, .slice (some ⟨e2, 0, none⟩) 0 0), (48, .slice (some ⟨e3, 0, none⟩) 0 0), (43, im q1), (47, im q2), (51, im q3), (52, .slice (some ⟨b4, 0, none⟩) 0 0)] ∧ ws.grownBy W none ∧ (Im W q1 c.x.rd ∧ ws.heap.size ≤ q1.1) ∧ (Im W q2 c.x.dur ∧ ws.heap.size ≤ q2.1) ∧ (Im W q3 c.x.syn ∧ ws.heap.size ≤ q3.1) ∧ (W.heap[b4]? = some (.cells #[] 5 (0, 0)) ∧ ws.heap.size ≤ b4) ∧ (b4 ≠ q1.1) ∧ (b4 ≠ q2.1) ∧ (b4 ≠ q3.1)) ∨ (∃ (e1 e2 e3 e4 : Nat), ∃ (q1 q2 q3 q4 : Nat × Nat), fuel = 5 ∧ dn = [2, 5, 6, 9, 10, 13, 14, 17] ∧ l = [(40, .slice (some ⟨e1, 0, none⟩) 0 0), (44, .slice (some ⟨e2, 0, none⟩) 0 0), (48, .slice (some ⟨e3, 0, none⟩) 0 0), (52, .slice (some ⟨e4, 0, none⟩) 0 0), (43, im q1), (47, im q2), (51, im q3), (55, im q4)] ∧ ws.grownBy W none ∧ (Im W q1 c.x.rd ∧ ws.heap.size ≤ q1.1) ∧ (Im W q2 c.x.dur ∧ ws.heap.size ≤ q2.1) ∧ (Im W q3 c.x.syn ∧ ws.heap.size ≤ q3.1) ∧ (Im W q4 c.x.wri ∧ ws.heap.size ≤ q4.1))) ?_ (fuel := 13) (dn := []) (l := []) (W := ws.drew) (Or.inl ⟨rfl, rfl, rfl, ⟨rfl, rfl, rfl, Nat.le_refl _, fun _ _ _ => rfl⟩⟩)
            rintro fuel dn l W hRel ih
            rcases hRel with hRel | hRel | hRel | hRel | hRel | hRel | hRel | hRel | hRel | hRel | hRel | hRel | hRel | hRel | hRel | hRel | hRel | hRel | hRel | hRel | hRel | hRel | hRel | hRel | hRel | hRel | hRel | hRel | hRel | hRel | hRel
            · obtain ⟨rfl, rfl, rfl, hS⟩ := hRel
              simp only [putAll, List.foldl_nil, Act.put]
              refine wpAnyZ_ready (rs := [2, 6, 10, 14]) (by kernel_rfl) (by simp) ?_
              exact (rdyZ_val (i := 2) rfl rfl (some 40) rfl (.slice (some ⟨W.heap.size, 0, none⟩) 0 0) (W.alloc (.cells #[] 5)) (mk0_run rfl) (grown_any (grown_new hS)) (fun _ => Z_as (by kernel_rfl) (by kernel_rfl) (ih 12 [2] [(40, .slice (some ⟨W.heap.size, 0, none⟩) 0 0)] (W.alloc (.cells #[] 5)) (by decide) (Or.inr (Or.inl ⟨W.heap.size, rfl, rfl, rfl, (grown_new hS), ⟨heap_alloc_new W _, hS.size⟩⟩)))) (rdyZ_val (i := 6) rfl rfl (some 44) rfl (.slice (some ⟨W.heap.size, 0, none⟩) 0 0) (W.alloc (.cells #[] 5)) (mk0_run rfl) (grown_any (grown_new hS)) (fun _ => Z_as (by kernel_rfl) (by kernel_rfl) (ih 12 [6] [(44, .slice (some ⟨W.heap.size, 0, none⟩) 0 0)] (W.alloc (.cells #[] 5)) (by decide) (Or.inr (Or.inr (Or.inl ⟨W.heap.size, rfl, rfl, rfl, (grown_new hS), ⟨heap_alloc_new W _, hS.size⟩⟩))))) (rdyZ_val (i := 10) rfl rfl (some 48) rfl (.slice (some ⟨W.heap.size, 0, none⟩) 0 0) (W.alloc (.cells #[] 5)) (mk0_run rfl) (grown_any (grown_new hS)) (fun _ => Z_as (by kernel_rfl) (by kernel_rfl) (ih 12 [10] [(48, .slice (some ⟨W.heap.size, 0, none⟩) 0 0)] (W.alloc (.cells #[] 5)) (by decide) (Or.inr (Or.inr (Or.inr (Or.inl ⟨W.heap.size, rfl, rfl, rfl, (grown_new hS), ⟨heap_alloc_new W _, hS.size⟩⟩)))))) (rdyZ_val (i := 14) rfl rfl (some 52) rfl (.slice (some ⟨W.heap.size, 0, none⟩) 0 0) (W.alloc (.cells #[] 5)) (mk0_run rfl) (grown_any (grown_new hS)) (fun _ => Z_as (by kernel_rfl) (by kernel_rfl) (ih 12 [14] [(52, .slice (some ⟨W.heap.size, 0, none⟩) 0 0)] (W.alloc (.cells #[] 5)) (by decide) (Or.inr (Or.inr (Or.inr (Or.inr (Or.inl ⟨W.heap.size, rfl, rfl, rfl, (grown_new hS), ⟨heap_alloc_new W _, hS.size⟩⟩))))))) rdyZ_nil))))
            · obtain ⟨b1, rfl, rfl, rfl, hS, E1⟩ := hRel
              simp only [putAll, List.foldl_cons, List.foldl_nil, Act.put, List.setIfInBounds_toArray, List.set_cons_succ, List.set_cons_zero]
              refine wpAnyZ_ready (rs := [5, 6, 10, 14]) (by kernel_rfl) (by simp) ?_
              obtain ⟨q1, W1, r1, hi1, ha1, hb1, hg1⟩ := cpy W b1 E1.1 ⟨p0, 0, none⟩ r0 c.x.rd hl1 (hsrc1 W (grown_any hS))
              exact (rdyZ_val (i := 5) rfl rfl (some 43) rfl (im q1) W1 (app_run3 (x := .tmp 40) (y := .tmp 42) rfl (by kernel_rfl) (by kernel_rfl) r1) (grown_any (grown_mid hS hg1 E1.2)) (fun _ => Z_as (by kernel_rfl) (by kernel_rfl) (ih 11 [2, 5] [(40, .slice (some ⟨b1, 0, none⟩) 0 0), (43, im q1)] W1 (by decide) (Or.inr (Or.inr (Or.inr (Or.inr (Or.inr (Or.inr (Or.inr (Or.inr (Or.inr (Or.inr (Or.inr (Or.inr (Or.inr (Or.inr (Or.inr (Or.inr (Or.inl ⟨b1, q1, rfl, rfl, rfl, (grown_mid hS hg1 E1.2), ⟨hi1, Nat.le_trans hS.size ha1⟩⟩))))))))))))))))))) (rdyZ_val (i := 6) rfl rfl (some 44) rfl (.slice (some ⟨W.heap.size, 0, none⟩) 0 0) (W.alloc (.cells #[] 5)) (mk0_run rfl) (grown_any (grown_new hS)) (fun _ => Z_as (by kernel_rfl) (by kernel_rfl) (ih 11 [2, 6] [(40, .slice (some ⟨b1, 0, none⟩) 0 0), (44, .slice (some ⟨W.heap.size, 0, none⟩) 0 0)] (W.alloc (.cells #[] 5)) (by decide) (Or.inr (Or.inr (Or.inr (Or.inr (Or.inr (Or.inl ⟨b1, W.heap.size, rfl, rfl, rfl, (grown_new hS), ⟨((grown_alloc W _).block _ (Array.getElem?_eq_some_iff.1 E1.1).1 (by simp)).trans E1.1, E1.2⟩, ⟨heap_alloc_new W _, hS.size⟩, (Nat.ne_of_lt (Array.getElem?_eq_some_iff.1 E1.1).1)⟩)))))))) (rdyZ_val (i := 10) rfl rfl (some 48) rfl (.slice (some ⟨W.heap.size, 0, none⟩) 0 0) (W.alloc (.cells #[] 5)) (mk0_run rfl) (grown_any (grown_new hS)) (fun _ => Z_as (by kernel_rfl) (by kernel_rfl) (ih 11 [2, 10] [(40, .slice (some ⟨b1, 0, none⟩) 0 0), (48, .slice (some ⟨W.heap.size, 0, none⟩) 0 0)] (W.alloc (.cells #[] 5)) (by decide) (Or.inr (Or.inr (Or.inr (Or.inr (Or.inr (Or.inr (Or.inl ⟨b1, W.heap.size, rfl, rfl, rfl, (grown_new hS), ⟨((grown_alloc W _).block _ (Array.getElem?_eq_some_iff.1 E1.1).1 (by simp)).trans E1.1, E1.2⟩, ⟨heap_alloc_new W _, hS.size⟩, (Nat.ne_of_lt (Array.getElem?_eq_some_iff.1 E1.1).1)⟩))))))))) (rdyZ_val (i := 14) rfl rfl (some 52) rfl (.slice (some ⟨W.heap.size, 0, none⟩) 0 0) (W.alloc (.cells #[] 5)) (mk0_run rfl) (grown_any (grown_new hS)) (fun _ => Z_as (by kernel_rfl) (by kernel_rfl) (ih 11 [2, 14] [(40, .slice (some ⟨b1, 0, none⟩) 0 0), (52, .slice (some ⟨W.heap.size, 0, none⟩) 0 0)] (W.alloc (.cells #[] 5)) (by decide) (Or.inr (Or.inr (Or.inr (Or.inr (Or.inr (Or.inr (Or.inr (Or.inl ⟨b1, W.heap.size, rfl, rfl, rfl, (grown_new hS), ⟨((grown_alloc W _).block _ (Array.getElem?_eq_some_iff.1 E1.1).1 (by simp)).trans E1.1, E1.2⟩, ⟨heap_alloc_new W _, hS.size⟩, (Nat.ne_of_lt (Array.getElem?_eq_some_iff.1 E1.1).1)⟩)))))))))) rdyZ_nil))))
            · obtain ⟨b2, rfl, rfl, rfl, hS, E2⟩ := hRel
              simp only [putAll, List.foldl_cons, List.foldl_nil, Act.put, List.setIfInBounds_toArray, List.set_cons_succ, List.set_cons_zero]
              refine wpAnyZ_ready (rs := [2, 10, 14]) (by kernel_rfl) (by simp) ?_
              exact (rdyZ_val (i := 2) rfl rfl (some 40) rfl (.slice (some ⟨W.heap.size, 0, none⟩) 0 0) (W.alloc (.cells #[] 5)) (mk0_run rfl) (grown_any (grown_new hS)) (fun _ => Z_as (by kernel_rfl) (by kernel_rfl) (ih 11 [2, 6] [(40, .slice (some ⟨W.heap.size, 0, none⟩) 0 0), (44, .slice (some ⟨b2, 0, none⟩) 0 0)] (W.alloc (.cells #[] 5)) (by decide) (Or.inr (Or.inr (Or.inr (Or.inr (Or.inr (Or.inl ⟨W.heap.size, b2, rfl, rfl, rfl, (grown_new hS), ⟨heap_alloc_new W _, hS.size⟩, ⟨((grown_alloc W _).block _ (Array.getElem?_eq_some_iff.1 E2.1).1 (by simp)).trans E2.1, E2.2⟩, (Nat.ne_of_lt (Array.getElem?_eq_some_iff.1 E2.1).1).symm⟩)))))))) (rdyZ_val (i := 10) rfl rfl (some 48) rfl (.slice (some ⟨W.heap.size, 0, none⟩) 0 0) (W.alloc (.cells #[] 5)) (mk0_run rfl) (grown_any (grown_new hS)) (fun _ => Z_as (by kernel_rfl) (by kernel_rfl) (ih 11 [6, 10] [(44, .slice (some ⟨b2, 0, none⟩) 0 0), (48, .slice (some ⟨W.heap.size, 0, none⟩) 0 0)] (W.alloc (.cells #[] 5)) (by decide) (Or.inr (Or.inr (Or.inr (Or.inr (Or.inr (Or.inr (Or.inr (Or.inr (Or.inl ⟨b2, W.heap.size, rfl, rfl, rfl, (grown_new hS), ⟨((grown_alloc W _).block _ (Array.getElem?_eq_some_iff.1 E2.1).1 (by simp)).trans E2.1, E2.2⟩, ⟨heap_alloc_new W _, hS.size⟩, (Nat.ne_of_lt (Array.getElem?_eq_some_iff.1 E2.1).1)⟩))))))))))) (rdyZ_val (i := 14) rfl rfl (some 52) rfl (.slice (some ⟨W.heap.size, 0, none⟩) 0 0) (W.alloc (.cells #[] 5)) (mk0_run rfl) (grown_any (grown_new hS)) (fun _ => Z_as (by kernel_rfl) (by kernel_rfl) (ih 11 [6, 14] [(44, .slice (some ⟨b2, 0, none⟩) 0 0), (52, .slice (some ⟨W.heap.size, 0, none⟩) 0 0)] (W.alloc (.cells #[] 5)) (by decide) (Or.inr (Or.inr (Or.inr (Or.inr (Or.inr (Or.inr (Or.inr (Or.inr (Or.inr (Or.inl ⟨b2, W.heap.size, rfl, rfl, rfl, (grown_new hS), ⟨((grown_alloc W _).block _ (Array.getElem?_eq_some_iff.1 E2.1).1 (by simp)).trans E2.1, E2.2⟩, ⟨heap_alloc_new W _, hS.size⟩, (Nat.ne_of_lt (Array.getElem?_eq_some_iff.1 E2.1).1)⟩)))))))))))) rdyZ_nil)))
            · obtain ⟨b3, rfl, rfl, rfl, hS, E3⟩ := hRel
              simp only [putAll, List.foldl_cons, List.foldl_nil, Act.put, List.setIfInBounds_toArray, List.set_cons_succ, List.set_cons_zero]
              refine wpAnyZ_ready (rs := [2, 6, 14]) (by kernel_rfl) (by simp) ?_
              exact (rdyZ_val (i := 2) rfl rfl (some 40) rfl (.slice (some ⟨W.heap.size, 0, none⟩) 0 0) (W.alloc (.cells #[] 5)) (mk0_run rfl) (grown_any (grown_new hS)) (fun _ => Z_as (by kernel_rfl) (by kernel_rfl) (ih 11 [2, 10] [(40, .slice (some ⟨W.heap.size, 0, none⟩) 0 0), (48, .slice (some ⟨b3, 0, none⟩) 0 0)] (W.alloc (.cells #[] 5)) (by decide) (Or.inr (Or.inr (Or.inr (Or.inr (Or.inr (Or.inr (Or.inl ⟨W.heap.size, b3, rfl, rfl, rfl, (grown_new hS), ⟨heap_alloc_new W _, hS.size⟩, ⟨((grown_alloc W _).block _ (Array.getElem?_eq_some_iff.1 E3.1).1 (by simp)).trans E3.1, E3.2⟩, (Nat.ne_of_lt (Array.getElem?_eq_some_iff.1 E3.1).1).symm⟩))))))))) (rdyZ_val (i := 6) rfl rfl (some 44) rfl (.slice (some ⟨W.heap.size, 0, none⟩) 0 0) (W.alloc (.cells #[] 5)) (mk0_run rfl) (grown_any (grown_new hS)) (fun _ => Z_as (by kernel_rfl) (by kernel_rfl) (ih 11 [6, 10] [(44, .slice (some ⟨W.heap.size, 0, none⟩) 0 0), (48, .slice (some ⟨b3, 0, none⟩) 0 0)] (W.alloc (.cells #[] 5)) (by decide) (Or.inr (Or.inr (Or.inr (Or.inr (Or.inr (Or.inr (Or.inr (Or.inr (Or.inl ⟨W.heap.size, b3, rfl, rfl, rfl, (grown_new hS), ⟨heap_alloc_new W _, hS.size⟩, ⟨((grown_alloc W _).block _ (Array.getElem?_eq_some_iff.1 E3.1).1 (by simp)).trans E3.1, E3.2⟩, (Nat.ne_of_lt (Array.getElem?_eq_some_iff.1 E3.1).1).symm⟩))))))))))) (rdyZ_val (i := 14) rfl rfl (some 52) rfl (.slice (some ⟨W.heap.size, 0, none⟩) 0 0) (W.alloc (.cells #[] 5)) (mk0_run rfl) (grown_any (grown_new hS)) (fun _ => Z_as (by kernel_rfl) (by kernel_rfl) (ih 11 [10, 14] [(48, .slice (some ⟨b3, 0, none⟩) 0 0), (52, .slice (some ⟨W.heap.size, 0, none⟩) 0 0)] (W.alloc (.cells #[] 5)) (by decide) (Or.inr (Or.inr (Or.inr (Or.inr (Or.inr (Or.inr (Or.inr (Or.inr (Or.inr (Or.inr (Or.inl ⟨b3, W.heap.size, rfl, rfl, rfl, (grown_new hS), ⟨((grown_alloc W _).block _ (Array.getElem?_eq_some_iff.1 E3.1).1 (by simp)).trans E3.1, E3.2⟩, ⟨heap_alloc_new W _, hS.size⟩, (Nat.ne_of_lt (Array.getElem?_eq_some_iff.1 E3.1).1)⟩))))))))))))) rdyZ_nil)))
            · obtain ⟨b4, rfl, rfl, rfl, hS, E4⟩ := hRel
              simp only [putAll, List.foldl_cons, List.foldl_nil, Act.put, List.setIfInBounds_toArray, List.set_cons_succ, List.set_cons_zero]
              refine wpAnyZ_ready (rs := [2, 6, 10]) (by kernel_rfl) (by simp) ?_
              exact (rdyZ_val (i := 2) rfl rfl (some 40) rfl (.slice (some ⟨W.heap.size, 0, none⟩) 0 0) (W.alloc (.cells #[] 5)) (mk0_run rfl) (grown_any (grown_new hS)) (fun _ => Z_as (by kernel_rfl) (by kernel_rfl) (ih 11 [2, 14] [(40, .slice (some ⟨W.heap.size, 0, none⟩) 0 0), (52, .slice (some ⟨b4, 0, none⟩) 0 0)] (W.alloc (.cells #[] 5)) (by decide) (Or.inr (Or.inr (Or.inr (Or.inr (Or.inr (Or.inr (Or.inr (Or.inl ⟨W.heap.size, b4, rfl, rfl, rfl, (grown_new hS), ⟨heap_alloc_new W _, hS.size⟩, ⟨((grown_alloc W _).block _ (Array.getElem?_eq_some_iff.1 E4.1).1 (by simp)).trans E4.1, E4.2⟩, (Nat.ne_of_lt (Array.getElem?_eq_some_iff.1 E4.1).1).symm⟩)))))))))) (rdyZ_val (i := 6) rfl rfl (some 44) rfl (.slice (some ⟨W.heap.size, 0, none⟩) 0 0) (W.alloc (.cells #[] 5)) (mk0_run rfl) (grown_any (grown_new hS)) (fun _ => Z_as (by kernel_rfl) (by kernel_rfl) (ih 11 [6, 14] [(44, .slice (some ⟨W.heap.size, 0, none⟩) 0 0), (52, .slice (some ⟨b4, 0, none⟩) 0 0)] (W.alloc (.cells #[] 5)) (by decide) (Or.inr (Or.inr (Or.inr (Or.inr (Or.inr (Or.inr (Or.inr (Or.inr (Or.inr (Or.inl ⟨W.heap.size, b4, rfl, rfl, rfl, (grown_new hS), ⟨heap_alloc_new W _, hS.size⟩, ⟨((grown_alloc W _).block _ (Array.getElem?_eq_some_iff.1 E4.1).1 (by simp)).trans E4.1, E4.2⟩, (Nat.ne_of_lt (Array.getElem?_eq_some_iff.1 E4.1).1).symm⟩)))))))))))) (rdyZ_val (i := 10) rfl rfl (some 48) rfl (.slice (some ⟨W.heap.size, 0, none⟩) 0 0) (W.alloc (.cells #[] 5)) (mk0_run rfl) (grown_any (grown_new hS)) (fun _ => Z_as (by kernel_rfl) (by kernel_rfl) (ih 11 [10, 14] [(48, .slice (some ⟨W.heap.size, 0, none⟩) 0 0), (52, .slice (some ⟨b4, 0, none⟩) 0 0)] (W.alloc (.cells #[] 5)) (by decide) (Or.inr (Or.inr (Or.inr (Or.inr (Or.inr (Or.inr (Or.inr (Or.inr (Or.inr (Or.inr (Or.inl ⟨W.heap.size, b4, rfl, rfl, rfl, (grown_new hS), ⟨heap_alloc_new W _, hS.size⟩, ⟨((grown_alloc W _).block _ (Array.getElem?_eq_some_iff.1 E4.1).1 (by simp)).trans E4.1, E4.2⟩, (Nat.ne_of_lt (Array.getElem?_eq_some_iff.1 E4.1).1).symm⟩))))))))))))) rdyZ_nil)))
            · obtain ⟨b1, b2, rfl, rfl, rfl, hS, E1, E2, D12⟩ := hRel
              simp only [putAll, List.foldl_cons, List.foldl_nil, Act.put, List.setIfInBounds_toArray, List.set_cons_succ, List.set_cons_zero]
              refine wpAnyZ_ready (rs := [5, 10, 14]) (by kernel_rfl) (by simp) ?_
              obtain ⟨q1, W1, r1, hi1, ha1, hb1, hg1⟩ := cpy W b1 E1.1 ⟨p0, 0, none⟩ r0 c.x.rd hl1 (hsrc1 W (grown_any hS))
              exact (rdyZ_val (i := 5) rfl rfl (some 43) rfl (im q1) W1 (app_run3 (x := .tmp 40) (y := .tmp 42) rfl (by kernel_rfl) (by kernel_rfl) r1) (grown_any (grown_mid hS hg1 E1.2)) (fun _ => Z_as (by kernel_rfl) (by kernel_rfl) (ih 10 [2, 5, 6] [(40, .slice (some ⟨b1, 0, none⟩) 0 0), (43, im q1), (44, .slice (some ⟨b2, 0, none⟩) 0 0)] W1 (by decide) (Or.inr (Or.inr (Or.inr (Or.inr (Or.inr (Or.inr (Or.inr (Or.inr (Or.inr (Or.inr (Or.inr (Or.inr (Or.inr (Or.inr (Or.inr (Or.inr (Or.inr (Or.inl ⟨b1, b2, q1, rfl, rfl, rfl, (grown_mid hS hg1 E1.2), ⟨hi1, Nat.le_trans hS.size ha1⟩, ⟨(hg1.block _ (Array.getElem?_eq_some_iff.1 E2.1).1 (fun e => D12 (Option.some.inj e).symm)).trans E2.1, E2.2⟩, (Nat.ne_of_lt (Nat.lt_of_lt_of_le (Array.getElem?_eq_some_iff.1 E2.1).1 ha1))⟩)))))))))))))))))))) (rdyZ_val (i := 10) rfl rfl (some 48) rfl (.slice (some ⟨W.heap.size, 0, none⟩) 0 0) (W.alloc (.cells #[] 5)) (mk0_run rfl) (grown_any (grown_new hS)) (fun _ => Z_as (by kernel_rfl) (by kernel_rfl) (ih 10 [2, 6, 10] [(40, .slice (some ⟨b1, 0, none⟩) 0 0), (44, .slice (some ⟨b2, 0, none⟩) 0 0), (48, .slice (some ⟨W.heap.size, 0, none⟩) 0 0)] (W.alloc (.cells #[] 5)) (by decide) (Or.inr (Or.inr (Or.inr (Or.inr (Or.inr (Or.inr (Or.inr (Or.inr (Or.inr (Or.inr (Or.inr (Or.inl ⟨b1, b2, W.heap.size, rfl, rfl, rfl, (grown_new hS), ⟨((grown_alloc W _).block _ (Array.getElem?_eq_some_iff.1 E1.1).1 (by simp)).trans E1.1, E1.2⟩, ⟨((grown_alloc W _).block _ (Array.getElem?_eq_some_iff.1 E2.1).1 (by simp)).trans E2.1, E2.2⟩, ⟨heap_alloc_new W _, hS.size⟩, D12, (Nat.ne_of_lt (Array.getElem?_eq_some_iff.1 E1.1).1), (Nat.ne_of_lt (Array.getElem?_eq_some_iff.1 E2.1).1)⟩)))))))))))))) (rdyZ_val (i := 14) rfl rfl (some 52) rfl (.slice (some ⟨W.heap.size, 0, none⟩) 0 0) (W.alloc (.cells #[] 5)) (mk0_run rfl) (grown_any (grown_new hS)) (fun _ => Z_as (by kernel_rfl) (by kernel_rfl) (ih 10 [2, 6, 14] [(40, .slice (some ⟨b1, 0, none⟩) 0 0), (44, .slice (some ⟨b2, 0, none⟩) 0 0), (52, .slice (some ⟨W.heap.size, 0, none⟩) 0 0)] (W.alloc (.cells #[] 5)) (by decide) (Or.inr (Or.inr (Or.inr (Or.inr (Or.inr (Or.inr (Or.inr (Or.inr (Or.inr (Or.inr (Or.inr (Or.inr (Or.inl ⟨b1, b2, W.heap.size, rfl, rfl, rfl, (grown_new hS), ⟨((grown_alloc W _).block _ (Array.getElem?_eq_some_iff.1 E1.1).1 (by simp)).trans E1.1, E1.2⟩, ⟨((grown_alloc W _).block _ (Array.getElem?_eq_some_iff.1 E2.1).1 (by simp)).trans E2.1, E2.2⟩, ⟨heap_alloc_new W _, hS.size⟩, D12, (Nat.ne_of_lt (Array.getElem?_eq_some_iff.1 E1.1).1), (Nat.ne_of_lt (Array.getElem?_eq_some_iff.1 E2.1).1)⟩))))))))))))))) rdyZ_nil)))
            · obtain ⟨b1, b3, rfl, rfl, rfl, hS, E1, E3, D13⟩ := hRel
              simp only [putAll, List.foldl_cons, List.foldl_nil, Act.put, List.setIfInBounds_toArray, List.set_cons_succ, List.set_cons_zero]
              refine wpAnyZ_ready (rs := [5, 6, 14]) (by kernel_rfl) (by simp) ?_
              obtain ⟨q1, W1, r1, hi1, ha1, hb1, hg1⟩ := cpy W b1 E1.1 ⟨p0, 0, none⟩ r0 c.x.rd hl1 (hsrc1 W (grown_any hS))
              exact (rdyZ_val (i := 5) rfl rfl (some 43) rfl (im q1) W1 (app_run3 (x := .tmp 40) (y := .tmp 42) rfl (by kernel_rfl) (by kernel_rfl) r1) (grown_any (grown_mid hS hg1 E1.2)) (fun _ => Z_as (by kernel_rfl) (by kernel_rfl) (ih 10 [2, 5, 10] [(40, .slice (some ⟨b1, 0, none⟩) 0 0), (43, im q1), (48, .slice (some ⟨b3, 0, none⟩) 0 0)] W1 (by decide) (Or.inr (Or.inr (Or.inr (Or.inr (Or.inr (Or.inr (Or.inr (Or.inr (Or.inr (Or.inr (Or.inr (Or.inr (Or.inr (Or.inr (Or.inr (Or.inr (Or.inr (Or.inr (Or.inl ⟨b1, b3, q1, rfl, rfl, rfl, (grown_mid hS hg1 E1.2), ⟨hi1, Nat.le_trans hS.size ha1⟩, ⟨(hg1.block _ (Array.getElem?_eq_some_iff.1 E3.1).1 (fun e => D13 (Option.some.inj e).symm)).trans E3.1, E3.2⟩, (Nat.ne_of_lt (Nat.lt_of_lt_of_le (Array.getElem?_eq_some_iff.1 E3.1).1 ha1))⟩))))))))))))))))))))) (rdyZ_val (i := 6) rfl rfl (some 44) rfl (.slice (some ⟨W.heap.size, 0, none⟩) 0 0) (W.alloc (.cells #[] 5)) (mk0_run rfl) (grown_any (grown_new hS)) (fun _ => Z_as (by kernel_rfl) (by kernel_rfl) (ih 10 [2, 6, 10] [(40, .slice (some ⟨b1, 0, none⟩) 0 0), (44, .slice (some ⟨W.heap.size, 0, none⟩) 0 0), (48, .slice (some ⟨b3, 0, none⟩) 0 0)] (W.alloc (.cells #[] 5)) (by decide) (Or.inr (Or.inr (Or.inr (Or.inr (Or.inr (Or.inr (Or.inr (Or.inr (Or.inr (Or.inr (Or.inr (Or.inl ⟨b1, W.heap.size, b3, rfl, rfl, rfl, (grown_new hS), ⟨((grown_alloc W _).block _ (Array.getElem?_eq_some_iff.1 E1.1).1 (by simp)).trans E1.1, E1.2⟩, ⟨heap_alloc_new W _, hS.size⟩, ⟨((grown_alloc W _).block _ (Array.getElem?_eq_some_iff.1 E3.1).1 (by simp)).trans E3.1, E3.2⟩, (Nat.ne_of_lt (Array.getElem?_eq_some_iff.1 E1.1).1), D13, (Nat.ne_of_lt (Array.getElem?_eq_some_iff.1 E3.1).1).symm⟩)))))))))))))) (rdyZ_val (i := 14) rfl rfl (some 52) rfl (.slice (some ⟨W.heap.size, 0, none⟩) 0 0) (W.alloc (.cells #[] 5)) (mk0_run rfl) (grown_any (grown_new hS)) (fun _ => Z_as (by kernel_rfl) (by kernel_rfl) (ih 10 [2, 10, 14] [(40, .slice (some ⟨b1, 0, none⟩) 0 0), (48, .slice (some ⟨b3, 0, none⟩) 0 0), (52, .slice (some ⟨W.heap.size, 0, none⟩) 0 0)] (W.alloc (.cells #[] 5)) (by decide) (Or.inr (Or.inr (Or.inr (Or.inr (Or.inr (Or.inr (Or.inr (Or.inr (Or.inr (Or.inr (Or.inr (Or.inr (Or.inr (Or.inl ⟨b1, b3, W.heap.size, rfl, rfl, rfl, (grown_new hS), ⟨((grown_alloc W _).block _ (Array.getElem?_eq_some_iff.1 E1.1).1 (by simp)).trans E1.1, E1.2⟩, ⟨((grown_alloc W _).block _ (Array.getElem?_eq_some_iff.1 E3.1).1 (by simp)).trans E3.1, E3.2⟩, ⟨heap_alloc_new W _, hS.size⟩, D13, (Nat.ne_of_lt (Array.getElem?_eq_some_iff.1 E1.1).1), (Nat.ne_of_lt (Array.getElem?_eq_some_iff.1 E3.1).1)⟩)))))))))))))))) rdyZ_nil)))
            · obtain ⟨b1, b4, rfl, rfl, rfl, hS, E1, E4, D14⟩ := hRel
              simp only [putAll, List.foldl_cons, List.foldl_nil, Act.put, List.setIfInBounds_toArray, List.set_cons_succ, List.set_cons_zero]
              refine wpAnyZ_ready (rs := [5, 6, 10]) (by kernel_rfl) (by simp) ?_
              obtain ⟨q1, W1, r1, hi1, ha1, hb1, hg1⟩ := cpy W b1 E1.1 ⟨p0, 0, none⟩ r0 c.x.rd hl1 (hsrc1 W (grown_any hS))
              exact (rdyZ_val (i := 5) rfl rfl (some 43) rfl (im q1) W1 (app_run3 (x := .tmp 40) (y := .tmp 42) rfl (by kernel_rfl) (by kernel_rfl) r1) (grown_any (grown_mid hS hg1 E1.2)) (fun _ => Z_as (by kernel_rfl) (by kernel_rfl) (ih 10 [2, 5, 14] [(40, .slice (some ⟨b1, 0, none⟩) 0 0), (43, im q1), (52, .slice (some ⟨b4, 0, none⟩) 0 0)] W1 (by decide) (Or.inr (Or.inr (Or.inr (Or.inr (Or.inr (Or.inr (Or.inr (Or.inr (Or.inr (Or.inr (Or.inr (Or.inr (Or.inr (Or.inr (Or.inr (Or.inr (Or.inr (Or.inr (Or.inr (Or.inl ⟨b1, b4, q1, rfl, rfl, rfl, (grown_mid hS hg1 E1.2), ⟨hi1, Nat.le_trans hS.size ha1⟩, ⟨(hg1.block _ (Array.getElem?_eq_some_iff.1 E4.1).1 (fun e => D14 (Option.some.inj e).symm)).trans E4.1, E4.2⟩, (Nat.ne_of_lt (Nat.lt_of_lt_of_le (Array.getElem?_eq_some_iff.1 E4.1).1 ha1))⟩)))))))))))))))))))))) (rdyZ_val (i := 6) rfl rfl (some 44) rfl (.slice (some ⟨W.heap.size, 0, none⟩) 0 0) (W.alloc (.cells #[] 5)) (mk0_run rfl) (grown_any (grown_new hS)) (fun _ => Z_as (by kernel_rfl) (by kernel_rfl) (ih 10 [2, 6, 14] [(40, .slice (some ⟨b1, 0, none⟩) 0 0), (44, .slice (some ⟨W.heap.size, 0, none⟩) 0 0), (52, .slice (some ⟨b4, 0, none⟩) 0 0)] (W.alloc (.cells #[] 5)) (by decide) (Or.inr (Or.inr (Or.inr (Or.inr (Or.inr (Or.inr (Or.inr (Or.inr (Or.inr (Or.inr (Or.inr (Or.inr (Or.inl ⟨b1, W.heap.size, b4, rfl, rfl, rfl, (grown_new hS), ⟨((grown_alloc W _).block _ (Array.getElem?_eq_some_iff.1 E1.1).1 (by simp)).trans E1.1, E1.2⟩, ⟨heap_alloc_new W _, hS.size⟩, ⟨((grown_alloc W _).block _ (Array.getElem?_eq_some_iff.1 E4.1).1 (by simp)).trans E4.1, E4.2⟩, (Nat.ne_of_lt (Array.getElem?_eq_some_iff.1 E1.1).1), D14, (Nat.ne_of_lt (Array.getElem?_eq_some_iff.1 E4.1).1).symm⟩))))))))))))))) (rdyZ_val (i := 10) rfl rfl (some 48) rfl (.slice (some ⟨W.heap.size, 0, none⟩) 0 0) (W.alloc (.cells #[] 5)) (mk0_run rfl) (grown_any (grown_new hS)) (fun _ => Z_as (by kernel_rfl) (by kernel_rfl) (ih 10 [2, 10, 14] [(40, .slice (some ⟨b1, 0, none⟩) 0 0), (48, .slice (some ⟨W.heap.size, 0, none⟩) 0 0), (52, .slice (some ⟨b4, 0, none⟩) 0 0)] (W.alloc (.cells #[] 5)) (by decide) (Or.inr (Or.inr (Or.inr (Or.inr (Or.inr (Or.inr (Or.inr (Or.inr (Or.inr (Or.inr (Or.inr (Or.inr (Or.inr (Or.inl ⟨b1, W.heap.size, b4, rfl, rfl, rfl, (grown_new hS), ⟨((grown_alloc W _).block _ (Array.getElem?_eq_some_iff.1 E1.1).1 (by simp)).trans E1.1, E1.2⟩, ⟨heap_alloc_new W _, hS.size⟩, ⟨((grown_alloc W _).block _ (Array.getElem?_eq_some_iff.1 E4.1).1 (by simp)).trans E4.1, E4.2⟩, (Nat.ne_of_lt (Array.getElem?_eq_some_iff.1 E1.1).1), D14, (Nat.ne_of_lt (Array.getElem?_eq_some_iff.1 E4.1).1).symm⟩)))))))))))))))) rdyZ_nil)))
            · obtain ⟨b2, b3, rfl, rfl, rfl, hS, E2, E3, D23⟩ := hRel
              simp only [putAll, List.foldl_cons, List.foldl_nil, Act.put, List.setIfInBounds_toArray, List.set_cons_succ, List.set_cons_zero]
              refine wpAnyZ_ready (rs := [2, 14]) (by kernel_rfl) (by simp) ?_
              exact (rdyZ_val (i := 2) rfl rfl (some 40) rfl (.slice (some ⟨W.heap.size, 0, none⟩) 0 0) (W.alloc (.cells #[] 5)) (mk0_run rfl) (grown_any (grown_new hS)) (fun _ => Z_as (by kernel_rfl) (by kernel_rfl) (ih 10 [2, 6, 10] [(40, .slice (some ⟨W.heap.size, 0, none⟩) 0 0), (44, .slice (some ⟨b2, 0, none⟩) 0 0), (48, .slice (some ⟨b3, 0, none⟩) 0 0)] (W.alloc (.cells #[] 5)) (by decide) (Or.inr (Or.inr (Or.inr (Or.inr (Or.inr (Or.inr (Or.inr (Or.inr (Or.inr (Or.inr (Or.inr (Or.inl ⟨W.heap.size, b2, b3, rfl, rfl, rfl, (grown_new hS), ⟨heap_alloc_new W _, hS.size⟩, ⟨((grown_alloc W _).block _ (Array.getElem?_eq_some_iff.1 E2.1).1 (by simp)).trans E2.1, E2.2⟩, ⟨((grown_alloc W _).block _ (Array.getElem?_eq_some_iff.1 E3.1).1 (by simp)).trans E3.1, E3.2⟩, (Nat.ne_of_lt (Array.getElem?_eq_some_iff.1 E2.1).1).symm, (Nat.ne_of_lt (Array.getElem?_eq_some_iff.1 E3.1).1).symm, D23⟩)))))))))))))) (rdyZ_val (i := 14) rfl rfl (some 52) rfl (.slice (some ⟨W.heap.size, 0, none⟩) 0 0) (W.alloc (.cells #[] 5)) (mk0_run rfl) (grown_any (grown_new hS)) (fun _ => Z_as (by kernel_rfl) (by kernel_rfl) (ih 10 [6, 10, 14] [(44, .slice (some ⟨b2, 0, none⟩) 0 0), (48, .slice (some ⟨b3, 0, none⟩) 0 0), (52, .slice (some ⟨W.heap.size, 0, none⟩) 0 0)] (W.alloc (.cells #[] 5)) (by decide) (Or.inr (Or.inr (Or.inr (Or.inr (Or.inr (Or.inr (Or.inr (Or.inr (Or.inr (Or.inr (Or.inr (Or.inr (Or.inr (Or.inr (Or.inl ⟨b2, b3, W.heap.size, rfl, rfl, rfl, (grown_new hS), ⟨((grown_alloc W _).block _ (Array.getElem?_eq_some_iff.1 E2.1).1 (by simp)).trans E2.1, E2.2⟩, ⟨((grown_alloc W _).block _ (Array.getElem?_eq_some_iff.1 E3.1).1 (by simp)).trans E3.1, E3.2⟩, ⟨heap_alloc_new W _, hS.size⟩, D23, (Nat.ne_of_lt (Array.getElem?_eq_some_iff.1 E2.1).1), (Nat.ne_of_lt (Array.getElem?_eq_some_iff.1 E3.1).1)⟩))))))))))))))))) rdyZ_nil))
            · obtain ⟨b2, b4, rfl, rfl, rfl, hS, E2, E4, D24⟩ := hRel
              simp only [putAll, List.foldl_cons, List.foldl_nil, Act.put, List.setIfInBounds_toArray, List.set_cons_succ, List.set_cons_zero]
              refine wpAnyZ_ready (rs := [2, 10]) (by kernel_rfl) (by simp) ?_
              exact (rdyZ_val (i := 2) rfl rfl (some 40) rfl (.slice (some ⟨W.heap.size, 0, none⟩) 0 0) (W.alloc (.cells #[] 5)) (mk0_run rfl) (grown_any (grown_new hS)) (fun _ => Z_as (by kernel_rfl) (by kernel_rfl) (ih 10 [2, 6, 14] [(40, .slice (some ⟨W.heap.size, 0, none⟩) 0 0), (44, .slice (some ⟨b2, 0, none⟩) 0 0), (52, .slice (some ⟨b4, 0, none⟩) 0 0)] (W.alloc (.cells #[] 5)) (by decide) (Or.inr (Or.inr (Or.inr (Or.inr (Or.inr (Or.inr (Or.inr (Or.inr (Or.inr (Or.inr (Or.inr (Or.inr (Or.inl ⟨W.heap.size, b2, b4, rfl, rfl, rfl, (grown_new hS), ⟨heap_alloc_new W _, hS.size⟩, ⟨((grown_alloc W _).block _ (Array.getElem?_eq_some_iff.1 E2.1).1 (by simp)).trans E2.1, E2.2⟩, ⟨((grown_alloc W _).block _ (Array.getElem?_eq_some_iff.1 E4.1).1 (by simp)).trans E4.1, E4.2⟩, (Nat.ne_of_lt (Array.getElem?_eq_some_iff.1 E2.1).1).symm, (Nat.ne_of_lt (Array.getElem?_eq_some_iff.1 E4.1).1).symm, D24⟩))))))))))))))) (rdyZ_val (i := 10) rfl rfl (some 48) rfl (.slice (some ⟨W.heap.size, 0, none⟩) 0 0) (W.alloc (.cells #[] 5)) (mk0_run rfl) (grown_any (grown_new hS)) (fun _ => Z_as (by kernel_rfl) (by kernel_rfl) (ih 10 [6, 10, 14] [(44, .slice (some ⟨b2, 0, none⟩) 0 0), (48, .slice (some ⟨W.heap.size, 0, none⟩) 0 0), (52, .slice (some ⟨b4, 0, none⟩) 0 0)] (W.alloc (.cells #[] 5)) (by decide) (Or.inr (Or.inr (Or.inr (Or.inr (Or.inr (Or.inr (Or.inr (Or.inr (Or.inr (Or.inr (Or.inr (Or.inr (Or.inr (Or.inr (Or.inl ⟨b2, W.heap.size, b4, rfl, rfl, rfl, (grown_new hS), ⟨((grown_alloc W _).block _ (Array.getElem?_eq_some_iff.1 E2.1).1 (by simp)).trans E2.1, E2.2⟩, ⟨heap_alloc_new W _, hS.size⟩, ⟨((grown_alloc W _).block _ (Array.getElem?_eq_some_iff.1 E4.1).1 (by simp)).trans E4.1, E4.2⟩, (Nat.ne_of_lt (Array.getElem?_eq_some_iff.1 E2.1).1), D24, (Nat.ne_of_lt (Array.getElem?_eq_some_iff.1 E4.1).1).symm⟩))))))))))))))))) rdyZ_nil))
            · obtain ⟨b3, b4, rfl, rfl, rfl, hS, E3, E4, D34⟩ := hRel
              simp only [putAll, List.foldl_cons, List.foldl_nil, Act.put, List.setIfInBounds_toArray, List.set_cons_succ, List.set_cons_zero]
              refine wpAnyZ_ready (rs := [2, 6]) (by kernel_rfl) (by simp) ?_
              exact (rdyZ_val (i := 2) rfl rfl (some 40) rfl (.slice (some ⟨W.heap.size, 0, none⟩) 0 0) (W.alloc (.cells #[] 5)) (mk0_run rfl) (grown_any (grown_new hS)) (fun _ => Z_as (by kernel_rfl) (by kernel_rfl) (ih 10 [2, 10, 14] [(40, .slice (some ⟨W.heap.size, 0, none⟩) 0 0), (48, .slice (some ⟨b3, 0, none⟩) 0 0), (52, .slice (some ⟨b4, 0, none⟩) 0 0)] (W.alloc (.cells #[] 5)) (by decide) (Or.inr (Or.inr (Or.inr (Or.inr (Or.inr (Or.inr (Or.inr (Or.inr (Or.inr (Or.inr (Or.inr (Or.inr (Or.inr (Or.inl ⟨W.heap.size, b3, b4, rfl, rfl, rfl, (grown_new hS), ⟨heap_alloc_new W _, hS.size⟩, ⟨((grown_alloc W _).block _ (Array.getElem?_eq_some_iff.1 E3.1).1 (by simp)).trans E3.1, E3.2⟩, ⟨((grown_alloc W _).block _ (Array.getElem?_eq_some_iff.1 E4.1).1 (by simp)).trans E4.1, E4.2⟩, (Nat.ne_of_lt (Array.getElem?_eq_some_iff.1 E3.1).1).symm, (Nat.ne_of_lt (Array.getElem?_eq_some_iff.1 E4.1).1).symm, D34⟩)))))))))))))))) (rdyZ_val (i := 6) rfl rfl (some 44) rfl (.slice (some ⟨W.heap.size, 0, none⟩) 0 0) (W.alloc (.cells #[] 5)) (mk0_run rfl) (grown_any (grown_new hS)) (fun _ => Z_as (by kernel_rfl) (by kernel_rfl) (ih 10 [6, 10, 14] [(44, .slice (some ⟨W.heap.size, 0, none⟩) 0 0), (48, .slice (some ⟨b3, 0, none⟩) 0 0), (52, .slice (some ⟨b4, 0, none⟩) 0 0)] (W.alloc (.cells #[] 5)) (by decide) (Or.inr (Or.inr (Or.inr (Or.inr (Or.inr (Or.inr (Or.inr (Or.inr (Or.inr (Or.inr (Or.inr (Or.inr (Or.inr (Or.inr (Or.inl ⟨W.heap.size, b3, b4, rfl, rfl, rfl, (grown_new hS), ⟨heap_alloc_new W _, hS.size⟩, ⟨((grown_alloc W _).block _ (Array.getElem?_eq_some_iff.1 E3.1).1 (by simp)).trans E3.1, E3.2⟩, ⟨((grown_alloc W _).block _ (Array.getElem?_eq_some_iff.1 E4.1).1 (by simp)).trans E4.1, E4.2⟩, (Nat.ne_of_lt (Array.getElem?_eq_some_iff.1 E3.1).1).symm, (Nat.ne_of_lt (Array.getElem?_eq_some_iff.1 E4.1).1).symm, D34⟩))))))))))))))))) rdyZ_nil))
            · obtain ⟨b1, b2, b3, rfl, rfl, rfl, hS, E1, E2, E3, D12, D13, D23⟩ := hRel
              simp only [putAll, List.foldl_cons, List.foldl_nil, Act.put, List.setIfInBounds_toArray, List.set_cons_succ, List.set_cons_zero]
              refine wpAnyZ_ready (rs := [5, 14]) (by kernel_rfl) (by simp) ?_
              obtain ⟨q1, W1, r1, hi1, ha1, hb1, hg1⟩ := cpy W b1 E1.1 ⟨p0, 0, none⟩ r0 c.x.rd hl1 (hsrc1 W (grown_any hS))
              exact (rdyZ_val (i := 5) rfl rfl (some 43) rfl (im q1) W1 (app_run3 (x := .tmp 40) (y := .tmp 42) rfl (by kernel_rfl) (by kernel_rfl) r1) (grown_any (grown_mid hS hg1 E1.2)) (fun _ => Z_as (by kernel_rfl) (by kernel_rfl) (ih 9 [2, 5, 6, 10] [(40, .slice (some ⟨b1, 0, none⟩) 0 0), (43, im q1), (44, .slice (some ⟨b2, 0, none⟩) 0 0), (48, .slice (some ⟨b3, 0, none⟩) 0 0)] W1 (by decide) (Or.inr (Or.inr (Or.inr (Or.inr (Or.inr (Or.inr (Or.inr (Or.inr (Or.inr (Or.inr (Or.inr (Or.inr (Or.inr (Or.inr (Or.inr (Or.inr (Or.inr (Or.inr (Or.inr (Or.inr (Or.inl ⟨b1, b2, b3, q1, rfl, rfl, rfl, (grown_mid hS hg1 E1.2), ⟨hi1, Nat.le_trans hS.size ha1⟩, ⟨(hg1.block _ (Array.getElem?_eq_some_iff.1 E2.1).1 (fun e => D12 (Option.some.inj e).symm)).trans E2.1, E2.2⟩, ⟨(hg1.block _ (Array.getElem?_eq_some_iff.1 E3.1).1 (fun e => D13 (Option.some.inj e).symm)).trans E3.1, E3.2⟩, D23, (Nat.ne_of_lt (Nat.lt_of_lt_of_le (Array.getElem?_eq_some_iff.1 E2.1).1 ha1)), (Nat.ne_of_lt (Nat.lt_of_lt_of_le (Array.getElem?_eq_some_iff.1 E3.1).1 ha1))⟩))))))))))))))))))))))) (rdyZ_val (i := 14) rfl rfl (some 52) rfl (.slice (some ⟨W.heap.size, 0, none⟩) 0 0) (W.alloc (.cells #[] 5)) (mk0_run rfl) (grown_any (grown_new hS)) (fun _ => Z_as (by kernel_rfl) (by kernel_rfl) (ih 9 [2, 6, 10, 14] [(40, .slice (some ⟨b1, 0, none⟩) 0 0), (44, .slice (some ⟨b2, 0, none⟩) 0 0), (48, .slice (some ⟨b3, 0, none⟩) 0 0), (52, .slice (some ⟨W.heap.size, 0, none⟩) 0 0)] (W.alloc (.cells #[] 5)) (by decide) (Or.inr (Or.inr (Or.inr (Or.inr (Or.inr (Or.inr (Or.inr (Or.inr (Or.inr (Or.inr (Or.inr (Or.inr (Or.inr (Or.inr (Or.inr (Or.inl ⟨b1, b2, b3, W.heap.size, rfl, rfl, rfl, (grown_new hS), ⟨((grown_alloc W _).block _ (Array.getElem?_eq_some_iff.1 E1.1).1 (by simp)).trans E1.1, E1.2⟩, ⟨((grown_alloc W _).block _ (Array.getElem?_eq_some_iff.1 E2.1).1 (by simp)).trans E2.1, E2.2⟩, ⟨((grown_alloc W _).block _ (Array.getElem?_eq_some_iff.1 E3.1).1 (by simp)).trans E3.1, E3.2⟩, ⟨heap_alloc_new W _, hS.size⟩, D12, D13, (Nat.ne_of_lt (Array.getElem?_eq_some_iff.1 E1.1).1), D23, (Nat.ne_of_lt (Array.getElem?_eq_some_iff.1 E2.1).1), (Nat.ne_of_lt (Array.getElem?_eq_some_iff.1 E3.1).1)⟩)))))))))))))))))) rdyZ_nil))
            · obtain ⟨b1, b2, b4, rfl, rfl, rfl, hS, E1, E2, E4, D12, D14, D24⟩ := hRel
              simp only [putAll, List.foldl_cons, List.foldl_nil, Act.put, List.setIfInBounds_toArray, List.set_cons_succ, List.set_cons_zero]
              refine wpAnyZ_ready (rs := [5, 10]) (by kernel_rfl) (by simp) ?_
              obtain ⟨q1, W1, r1, hi1, ha1, hb1, hg1⟩ := cpy W b1 E1.1 ⟨p0, 0, none⟩ r0 c.x.rd hl1 (hsrc1 W (grown_any hS))
              exact (rdyZ_val (i := 5) rfl rfl (some 43) rfl (im q1) W1 (app_run3 (x := .tmp 40) (y := .tmp 42) rfl (by kernel_rfl) (by kernel_rfl) r1) (grown_any (grown_mid hS hg1 E1.2)) (fun _ => Z_as (by kernel_rfl) (by kernel_rfl) (ih 9 [2, 5, 6, 14] [(40, .slice (some ⟨b1, 0, none⟩) 0 0), (43, im q1), (44, .slice (some ⟨b2, 0, none⟩) 0 0), (52, .slice (some ⟨b4, 0, none⟩) 0 0)] W1 (by decide) (Or.inr (Or.inr (Or.inr (Or.inr (Or.inr (Or.inr (Or.inr (Or.inr (Or.inr (Or.inr (Or.inr (Or.inr (Or.inr (Or.inr (Or.inr (Or.inr (Or.inr (Or.inr (Or.inr (Or.inr (Or.inr (Or.inl ⟨b1, b2, b4, q1, rfl, rfl, rfl, (grown_mid hS hg1 E1.2), ⟨hi1, Nat.le_trans hS.size ha1⟩, ⟨(hg1.block _ (Array.getElem?_eq_some_iff.1 E2.1).1 (fun e => D12 (Option.some.inj e).symm)).trans E2.1, E2.2⟩, ⟨(hg1.block _ (Array.getElem?_eq_some_iff.1 E4.1).1 (fun e => D14 (Option.some.inj e).symm)).trans E4.1, E4.2⟩, D24, (Nat.ne_of_lt (Nat.lt_of_lt_of_le (Array.getElem?_eq_some_iff.1 E2.1).1 ha1)), (Nat.ne_of_lt (Nat.lt_of_lt_of_le (Array.getElem?_eq_some_iff.1 E4.1).1 ha1))⟩)))))))))))))))))))))))) (rdyZ_val (i := 10) rfl rfl (some 48) rfl (.slice (some ⟨W.heap.size, 0, none⟩) 0 0) (W.alloc (.cells #[] 5)) (mk0_run rfl) (grown_any (grown_new hS)) (fun _ => Z_as (by kernel_rfl) (by kernel_rfl) (ih 9 [2, 6, 10, 14] [(40, .slice (some ⟨b1, 0, none⟩) 0 0), (44, .slice (some ⟨b2, 0, none⟩) 0 0), (48, .slice (some ⟨W.heap.size, 0, none⟩) 0 0), (52, .slice (some ⟨b4, 0, none⟩) 0 0)] (W.alloc (.cells #[] 5)) (by decide) (Or.inr (Or.inr (Or.inr (Or.inr (Or.inr (Or.inr (Or.inr (Or.inr (Or.inr (Or.inr (Or.inr (Or.inr (Or.inr (Or.inr (Or.inr (Or.inl ⟨b1, b2, W.heap.size, b4, rfl, rfl, rfl, (grown_new hS), ⟨((grown_alloc W _).block _ (Array.getElem?_eq_some_iff.1 E1.1).1 (by simp)).trans E1.1, E1.2⟩, ⟨((grown_alloc W _).block _ (Array.getElem?_eq_some_iff.1 E2.1).1 (by simp)).trans E2.1, E2.2⟩, ⟨heap_alloc_new W _, hS.size⟩, ⟨((grown_alloc W _).block _ (Array.getElem?_eq_some_iff.1 E4.1).1 (by simp)).trans E4.1, E4.2⟩, D12, (Nat.ne_of_lt (Array.getElem?_eq_some_iff.1 E1.1).1), D14, (Nat.ne_of_lt (Array.getElem?_eq_some_iff.1 E2.1).1), D24, (Nat.ne_of_lt (Array.getElem?_eq_some_iff.1 E4.1).1).symm⟩)))))))))))))))))) rdyZ_nil))
            · obtain ⟨b1, b3, b4, rfl, rfl, rfl, hS, E1, E3, E4, D13, D14, D34⟩ := hRel
              simp only [putAll, List.foldl_cons, List.foldl_nil, Act.put, List.setIfInBounds_toArray, List.set_cons_succ, List.set_cons_zero]
              refine wpAnyZ_ready (rs := [5, 6]) (by kernel_rfl) (by simp) ?_
              obtain ⟨q1, W1, r1, hi1, ha1, hb1, hg1⟩ := cpy W b1 E1.1 ⟨p0, 0, none⟩ r0 c.x.rd hl1 (hsrc1 W (grown_any hS))
              exact (rdyZ_val (i := 5) rfl rfl (some 43) rfl (im q1) W1 (app_run3 (x := .tmp 40) (y := .tmp 42) rfl (by kernel_rfl) (by kernel_rfl) r1) (grown_any (grown_mid hS hg1 E1.2)) (fun _ => Z_as (by kernel_rfl) (by kernel_rfl) (ih 9 [2, 5, 10, 14] [(40, .slice (some ⟨b1, 0, none⟩) 0 0), (43, im q1), (48, .slice (some ⟨b3, 0, none⟩) 0 0), (52, .slice (some ⟨b4, 0, none⟩) 0 0)] W1 (by decide) (Or.inr (Or.inr (Or.inr (Or.inr (Or.inr (Or.inr (Or.inr (Or.inr (Or.inr (Or.inr (Or.inr (Or.inr (Or.inr (Or.inr (Or.inr (Or.inr (Or.inr (Or.inr (Or.inr (Or.inr (Or.inr (Or.inr (Or.inl ⟨b1, b3, b4, q1, rfl, rfl, rfl, (grown_mid hS hg1 E1.2), ⟨hi1, Nat.le_trans hS.size ha1⟩, ⟨(hg1.block _ (Array.getElem?_eq_some_iff.1 E3.1).1 (fun e => D13 (Option.some.inj e).symm)).trans E3.1, E3.2⟩, ⟨(hg1.block _ (Array.getElem?_eq_some_iff.1 E4.1).1 (fun e => D14 (Option.some.inj e).symm)).trans E4.1, E4.2⟩, D34, (Nat.ne_of_lt (Nat.lt_of_lt_of_le (Array.getElem?_eq_some_iff.1 E3.1).1 ha1)), (Nat.ne_of_lt (Nat.lt_of_lt_of_le (Array.getElem?_eq_some_iff.1 E4.1).1 ha1))⟩))))))))))))))))))))))))) (rdyZ_val (i := 6) rfl rfl (some 44) rfl (.slice (some ⟨W.heap.size, 0, none⟩) 0 0) (W.alloc (.cells #[] 5)) (mk0_run rfl) (grown_any (grown_new hS)) (fun _ => Z_as (by kernel_rfl) (by kernel_rfl) (ih 9 [2, 6, 10, 14] [(40, .slice (some ⟨b1, 0, none⟩) 0 0), (44, .slice (some ⟨W.heap.size, 0, none⟩) 0 0), (48, .slice (some ⟨b3, 0, none⟩) 0 0), (52, .slice (some ⟨b4, 0, none⟩) 0 0)] (W.alloc (.cells #[] 5)) (by decide) (Or.inr (Or.inr (Or.inr (Or.inr (Or.inr (Or.inr (Or.inr (Or.inr (Or.inr (Or.inr (Or.inr (Or.inr (Or.inr (Or.inr (Or.inr (Or.inl ⟨b1, W.heap.size, b3, b4, rfl, rfl, rfl, (grown_new hS), ⟨((grown_alloc W _).block _ (Array.getElem?_eq_some_iff.1 E1.1).1 (by simp)).trans E1.1, E1.2⟩, ⟨heap_alloc_new W _, hS.size⟩, ⟨((grown_alloc W _).block _ (Array.getElem?_eq_some_iff.1 E3.1).1 (by simp)).trans E3.1, E3.2⟩, ⟨((grown_alloc W _).block _ (Array.getElem?_eq_some_iff.1 E4.1).1 (by simp)).trans E4.1, E4.2⟩, (Nat.ne_of_lt (Array.getElem?_eq_some_iff.1 E1.1).1), D13, D14, (Nat.ne_of_lt (Array.getElem?_eq_some_iff.1 E3.1).1).symm, (Nat.ne_of_lt (Array.getElem?_eq_some_iff.1 E4.1).1).symm, D34⟩)))))))))))))))))) rdyZ_nil))
            · obtain ⟨b2, b3, b4, rfl, rfl, rfl, hS, E2, E3, E4, D23, D24, D34⟩ := hRel
              simp only [putAll, List.foldl_cons, List.foldl_nil, Act.put, List.setIfInBounds_toArray, List.set_cons_succ, List.set_cons_zero]
              refine wpAnyZ_ready (rs := [2]) (by kernel_rfl) (by simp) ?_
              exact (rdyZ_val (i := 2) rfl rfl (some 40) rfl (.slice (some ⟨W.heap.size, 0, none⟩) 0 0) (W.alloc (.cells #[] 5)) (mk0_run rfl) (grown_any (grown_new hS)) (fun _ => Z_as (by kernel_rfl) (by kernel_rfl) (ih 9 [2, 6, 10, 14] [(40, .slice (some ⟨W.heap.size, 0, none⟩) 0 0), (44, .slice (some ⟨b2, 0, none⟩) 0 0), (48, .slice (some ⟨b3, 0, none⟩) 0 0), (52, .slice (some ⟨b4, 0, none⟩) 0 0)] (W.alloc (.cells #[] 5)) (by decide) (Or.inr (Or.inr (Or.inr (Or.inr (Or.inr (Or.inr (Or.inr (Or.inr (Or.inr (Or.inr (Or.inr (Or.inr (Or.inr (Or.inr (Or.inr (Or.inl ⟨W.heap.size, b2, b3, b4, rfl, rfl, rfl, (grown_new hS), ⟨heap_alloc_new W _, hS.size⟩, ⟨((grown_alloc W _).block _ (Array.getElem?_eq_some_iff.1 E2.1).1 (by simp)).trans E2.1, E2.2⟩, ⟨((grown_alloc W _).block _ (Array.getElem?_eq_some_iff.1 E3.1).1 (by simp)).trans E3.1, E3.2⟩, ⟨((grown_alloc W _).block _ (Array.getElem?_eq_some_iff.1 E4.1).1 (by simp)).trans E4.1, E4.2⟩, (Nat.ne_of_lt (Array.getElem?_eq_some_iff.1 E2.1).1).symm, (Nat.ne_of_lt (Array.getElem?_eq_some_iff.1 E3.1).1).symm, (Nat.ne_of_lt (Array.getElem?_eq_some_iff.1 E4.1).1).symm, D23, D24, D34⟩)))))))))))))))))) rdyZ_nil)
            · obtain ⟨b1, b2, b3, b4, rfl, rfl, rfl, hS, E1, E2, E3, E4, D12, D13, D14, D23, D24, D34⟩ := hRel
              simp only [putAll, List.foldl_cons, List.foldl_nil, Act.put, List.setIfInBounds_toArray, List.set_cons_succ, List.set_cons_zero]
              refine wpAnyZ_ready (rs := [5]) (by kernel_rfl) (by simp) ?_
              obtain ⟨q1, W1, r1, hi1, ha1, hb1, hg1⟩ := cpy W b1 E1.1 ⟨p0, 0, none⟩ r0 c.x.rd hl1 (hsrc1 W (grown_any hS))
              exact (rdyZ_val (i := 5) rfl rfl (some 43) rfl (im q1) W1 (app_run3 (x := .tmp 40) (y := .tmp 42) rfl (by kernel_rfl) (by kernel_rfl) r1) (grown_any (grown_mid hS hg1 E1.2)) (fun _ => Z_as (by kernel_rfl) (by kernel_rfl) (ih 8 [2, 5, 6, 10, 14] [(40, .slice (some ⟨b1, 0, none⟩) 0 0), (43, im q1), (44, .slice (some ⟨b2, 0, none⟩) 0 0), (48, .slice (some ⟨b3, 0, none⟩) 0 0), (52, .slice (some ⟨b4, 0, none⟩) 0 0)] W1 (by decide) (Or.inr (Or.inr (Or.inr (Or.inr (Or.inr (Or.inr (Or.inr (Or.inr (Or.inr (Or.inr (Or.inr (Or.inr (Or.inr (Or.inr (Or.inr (Or.inr (Or.inr (Or.inr (Or.inr (Or.inr (Or.inr (Or.inr (Or.inr (Or.inl ⟨b1, b2, b3, b4, q1, rfl, rfl, rfl, (grown_mid hS hg1 E1.2), ⟨hi1, Nat.le_trans hS.size ha1⟩, ⟨(hg1.block _ (Array.getElem?_eq_some_iff.1 E2.1).1 (fun e => D12 (Option.some.inj e).symm)).trans E2.1, E2.2⟩, ⟨(hg1.block _ (Array.getElem?_eq_some_iff.1 E3.1).1 (fun e => D13 (Option.some.inj e).symm)).trans E3.1, E3.2⟩, ⟨(hg1.block _ (Array.getElem?_eq_some_iff.1 E4.1).1 (fun e => D14 (Option.some.inj e).symm)).trans E4.1, E4.2⟩, D23, D24, (Nat.ne_of_lt (Nat.lt_of_lt_of_le (Array.getElem?_eq_some_iff.1 E2.1).1 ha1)), D34, (Nat.ne_of_lt (Nat.lt_of_lt_of_le (Array.getElem?_eq_some_iff.1 E3.1).1 ha1)), (Nat.ne_of_lt (Nat.lt_of_lt_of_le (Array.getElem?_eq_some_iff.1 E4.1).1 ha1))⟩)))))))))))))))))))))))))) rdyZ_nil)
            · obtain ⟨e1, q1, rfl, rfl, rfl, hS, I1⟩ := hRel
              simp only [putAll, List.foldl_cons, List.foldl_nil, Act.put, List.setIfInBounds_toArray, List.set_cons_succ, List.set_cons_zero]
              refine wpAnyZ_ready (rs := [6, 10, 14]) (by kernel_rfl) (by simp) ?_
              exact (rdyZ_val (i := 6) rfl rfl (some 44) rfl (.slice (some ⟨W.heap.size, 0, none⟩) 0 0) (W.alloc (.cells #[] 5)) (mk0_run rfl) (grown_any (grown_new hS)) (fun _ => Z_as (by kernel_rfl) (by kernel_rfl) (ih 10 [2, 5, 6] [(40, .slice (some ⟨e1, 0, none⟩) 0 0), (43, im q1), (44, .slice (some ⟨W.heap.size, 0, none⟩) 0 0)] (W.alloc (.cells #[] 5)) (by decide) (Or.inr (Or.inr (Or.inr (Or.inr (Or.inr (Or.inr (Or.inr (Or.inr (Or.inr (Or.inr (Or.inr (Or.inr (Or.inr (Or.inr (Or.inr (Or.inr (Or.inr (Or.inl ⟨e1, W.heap.size, q1, rfl, rfl, rfl, (grown_new hS), ⟨im_grown I1.1 (grown_alloc W _) (fun e => by cases e), I1.2⟩, ⟨heap_alloc_new W _, hS.size⟩, (Nat.ne_of_gt (own_lt I1.1 _ rfl))⟩)))))))))))))))))))) (rdyZ_val (i := 10) rfl rfl (some 48) rfl (.slice (some ⟨W.heap.size, 0, none⟩) 0 0) (W.alloc (.cells #[] 5)) (mk0_run rfl) (grown_any (grown_new hS)) (fun _ => Z_as (by kernel_rfl) (by kernel_rfl) (ih 10 [2, 5, 10] [(40, .slice (some ⟨e1, 0, none⟩) 0 0), (43, im q1), (48, .slice (some ⟨W.heap.size, 0, none⟩) 0 0)] (W.alloc (.cells #[] 5)) (by decide) (Or.inr (Or.inr (Or.inr (Or.inr (Or.inr (Or.inr (Or.inr (Or.inr (Or.inr (Or.inr (Or.inr (Or.inr (Or.inr (Or.inr (Or.inr (Or.inr (Or.inr (Or.inr (Or.inl ⟨e1, W.heap.size, q1, rfl, rfl, rfl, (grown_new hS), ⟨im_grown I1.1 (grown_alloc W _) (fun e => by cases e), I1.2⟩, ⟨heap_alloc_new W _, hS.size⟩, (Nat.ne_of_gt (own_lt I1.1 _ rfl))⟩))))))))))))))))))))) (rdyZ_val (i := 14) rfl rfl (some 52) rfl (.slice (some ⟨W.heap.size, 0, none⟩) 0 0) (W.alloc (.cells #[] 5)) (mk0_run rfl) (grown_any (grown_new hS)) (fun _ => Z_as (by kernel_rfl) (by kernel_rfl) (ih 10 [2, 5, 14] [(40, .slice (some ⟨e1, 0, none⟩) 0 0), (43, im q1), (52, .slice (some ⟨W.heap.size, 0, none⟩) 0 0)] (W.alloc (.cells #[] 5)) (by decide) (Or.inr (Or.inr (Or.inr (Or.inr (Or.inr (Or.inr (Or.inr (Or.inr (Or.inr (Or.inr (Or.inr (Or.inr (Or.inr (Or.inr (Or.inr (Or.inr (Or.inr (Or.inr (Or.inr (Or.inl ⟨e1, W.heap.size, q1, rfl, rfl, rfl, (grown_new hS), ⟨im_grown I1.1 (grown_alloc W _) (fun e => by cases e), I1.2⟩, ⟨heap_alloc_new W _, hS.size⟩, (Nat.ne_of_gt (own_lt I1.1 _ rfl))⟩)))))))))))))))))))))) rdyZ_nil)))
            · obtain ⟨e1, b2, q1, rfl, rfl, rfl, hS, I1, E2, G21⟩ := hRel
              simp only [putAll, List.foldl_cons, List.foldl_nil, Act.put, List.setIfInBounds_toArray, List.set_cons_succ, List.set_cons_zero]
              refine wpAnyZ_ready (rs := [9, 10, 14]) (by kernel_rfl) (by simp) ?_
              obtain ⟨q2, W2, r2, hi2, ha2, hb2, hg2⟩ := cpy W b2 E2.1 ⟨p1, 0, none⟩ r1 c.x.dur hl2 (hsrc2 W (grown_any hS))
              exact (rdyZ_val (i := 9) rfl rfl (some 47) rfl (im q2) W2 (app_run3 (x := .tmp 44) (y := .tmp 46) rfl (by kernel_rfl) (by kernel_rfl) r2) (grown_any (grown_mid hS hg2 E2.2)) (fun _ => Z_as (by kernel_rfl) (by kernel_rfl) (ih 9 [2, 5, 6, 9] [(40, .slice (some ⟨e1, 0, none⟩) 0 0), (44, .slice (some ⟨b2, 0, none⟩) 0 0), (43, im q1), (47, im q2)] W2 (by decide) (Or.inr (Or.inr (Or.inr (Or.inr (Or.inr (Or.inr (Or.inr (Or.inr (Or.inr (Or.inr (Or.inr (Or.inr (Or.inr (Or.inr (Or.inr (Or.inr (Or.inr (Or.inr (Or.inr (Or.inr (Or.inr (Or.inr (Or.inr (Or.inr (Or.inl ⟨e1, b2, q1, q2, rfl, rfl, rfl, (grown_mid hS hg2 E2.2), ⟨im_grown I1.1 hg2 (fun e => G21 (Option.some.inj e).symm), I1.2⟩, ⟨hi2, Nat.le_trans hS.size ha2⟩⟩))))))))))))))))))))))))))) (rdyZ_val (i := 10) rfl rfl (some 48) rfl (.slice (some ⟨W.heap.size, 0, none⟩) 0 0) (W.alloc (.cells #[] 5)) (mk0_run rfl) (grown_any (grown_new hS)) (fun _ => Z_as (by kernel_rfl) (by kernel_rfl) (ih 9 [2, 5, 6, 10] [(40, .slice (some ⟨e1, 0, none⟩) 0 0), (43, im q1), (44, .slice (some ⟨b2, 0, none⟩) 0 0), (48, .slice (some ⟨W.heap.size, 0, none⟩) 0 0)] (W.alloc (.cells #[] 5)) (by decide) (Or.inr (Or.inr (Or.inr (Or.inr (Or.inr (Or.inr (Or.inr (Or.inr (Or.inr (Or.inr (Or.inr (Or.inr (Or.inr (Or.inr (Or.inr (Or.inr (Or.inr (Or.inr (Or.inr (Or.inr (Or.inl ⟨e1, b2, W.heap.size, q1, rfl, rfl, rfl, (grown_new hS), ⟨im_grown I1.1 (grown_alloc W _) (fun e => by cases e), I1.2⟩, ⟨((grown_alloc W _).block _ (Array.getElem?_eq_some_iff.1 E2.1).1 (by simp)).trans E2.1, E2.2⟩, ⟨heap_alloc_new W _, hS.size⟩, (Nat.ne_of_lt (Array.getElem?_eq_some_iff.1 E2.1).1), G21, (Nat.ne_of_gt (own_lt I1.1 _ rfl))⟩))))))))))))))))))))))) (rdyZ_val (i := 14) rfl rfl (some 52) rfl (.slice (some ⟨W.heap.size, 0, none⟩) 0 0) (W.alloc (.cells #[] 5)) (mk0_run rfl) (grown_any (grown_new hS)) (fun _ => Z_as (by kernel_rfl) (by kernel_rfl) (ih 9 [2, 5, 6, 14] [(40, .slice (some ⟨e1, 0, none⟩) 0 0), (43, im q1), (44, .slice (some ⟨b2, 0, none⟩) 0 0), (52, .slice (some ⟨W.heap.size, 0, none⟩) 0 0)] (W.alloc (.cells #[] 5)) (by decide) (Or.inr (Or.inr (Or.inr (Or.inr (Or.inr (Or.inr (Or.inr (Or.inr (Or.inr (Or.inr (Or.inr (Or.inr (Or.inr (Or.inr (Or.inr (Or.inr (Or.inr (Or.inr (Or.inr (Or.inr (Or.inr (Or.inl ⟨e1, b2, W.heap.size, q1, rfl, rfl, rfl, (grown_new hS), ⟨im_grown I1.1 (grown_alloc W _) (fun e => by cases e), I1.2⟩, ⟨((grown_alloc W _).block _ (Array.getElem?_eq_some_iff.1 E2.1).1 (by simp)).trans E2.1, E2.2⟩, ⟨heap_alloc_new W _, hS.size⟩, (Nat.ne_of_lt (Array.getElem?_eq_some_iff.1 E2.1).1), G21, (Nat.ne_of_gt (own_lt I1.1 _ rfl))⟩)))))))))))))))))))))))) rdyZ_nil)))
            · obtain ⟨e1, b3, q1, rfl, rfl, rfl, hS, I1, E3, G31⟩ := hRel
              simp only [putAll, List.foldl_cons, List.foldl_nil, Act.put, List.setIfInBounds_toArray, List.set_cons_succ, List.set_cons_zero]
              refine wpAnyZ_ready (rs := [6, 14]) (by kernel_rfl) (by simp) ?_
              exact (rdyZ_val (i := 6) rfl rfl (some 44) rfl (.slice (some ⟨W.heap.size, 0, none⟩) 0 0) (W.alloc (.cells #[] 5)) (mk0_run rfl) (grown_any (grown_new hS)) (fun _ => Z_as (by kernel_rfl) (by kernel_rfl) (ih 9 [2, 5, 6, 10] [(40, .slice (some ⟨e1, 0, none⟩) 0 0), (43, im q1), (44, .slice (some ⟨W.heap.size, 0, none⟩) 0 0), (48, .slice (some ⟨b3, 0, none⟩) 0 0)] (W.alloc (.cells #[] 5)) (by decide) (Or.inr (Or.inr (Or.inr (Or.inr (Or.inr (Or.inr (Or.inr (Or.inr (Or.inr (Or.inr (Or.inr (Or.inr (Or.inr (Or.inr (Or.inr (Or.inr (Or.inr (Or.inr (Or.inr (Or.inr (Or.inl ⟨e1, W.heap.size, b3, q1, rfl, rfl, rfl, (grown_new hS), ⟨im_grown I1.1 (grown_alloc W _) (fun e => by cases e), I1.2⟩, ⟨heap_alloc_new W _, hS.size⟩, ⟨((grown_alloc W _).block _ (Array.getElem?_eq_some_iff.1 E3.1).1 (by simp)).trans E3.1, E3.2⟩, (Nat.ne_of_lt (Array.getElem?_eq_some_iff.1 E3.1).1).symm, (Nat.ne_of_gt (own_lt I1.1 _ rfl)), G31⟩))))))))))))))))))))))) (rdyZ_val (i := 14) rfl rfl (some 52) rfl (.slice (some ⟨W.heap.size, 0, none⟩) 0 0) (W.alloc (.cells #[] 5)) (mk0_run rfl) (grown_any (grown_new hS)) (fun _ => Z_as (by kernel_rfl) (by kernel_rfl) (ih 9 [2, 5, 10, 14] [(40, .slice (some ⟨e1, 0, none⟩) 0 0), (43, im q1), (48, .slice (some ⟨b3, 0, none⟩) 0 0), (52, .slice (some ⟨W.heap.size, 0, none⟩) 0 0)] (W.alloc (.cells #[] 5)) (by decide) (Or.inr (Or.inr (Or.inr (Or.inr (Or.inr (Or.inr (Or.inr (Or.inr (Or.inr (Or.inr (Or.inr (Or.inr (Or.inr (Or.inr (Or.inr (Or.inr (Or.inr (Or.inr (Or.inr (Or.inr (Or.inr (Or.inr (Or.inl ⟨e1, b3, W.heap.size, q1, rfl, rfl, rfl, (grown_new hS), ⟨im_grown I1.1 (grown_alloc W _) (fun e => by cases e), I1.2⟩, ⟨((grown_alloc W _).block _ (Array.getElem?_eq_some_iff.1 E3.1).1 (by simp)).trans E3.1, E3.2⟩, ⟨heap_alloc_new W _, hS.size⟩, (Nat.ne_of_lt (Array.getElem?_eq_some_iff.1 E3.1).1), G31, (Nat.ne_of_gt (own_lt I1.1 _ rfl))⟩))))))))))))))))))))))))) rdyZ_nil))
            · obtain ⟨e1, b4, q1, rfl, rfl, rfl, hS, I1, E4, G41⟩ := hRel
              simp only [putAll, List.foldl_cons, List.foldl_nil, Act.put, List.setIfInBounds_toArray, List.set_cons_succ, List.set_cons_zero]
              refine wpAnyZ_ready (rs := [6, 10]) (by kernel_rfl) (by simp) ?_
              exact (rdyZ_val (i := 6) rfl rfl (some 44) rfl (.slice (some ⟨W.heap.size, 0, none⟩) 0 0) (W.alloc (.cells #[] 5)) (mk0_run rfl) (grown_any (grown_new hS)) (fun _ => Z_as (by kernel_rfl) (by kernel_rfl) (ih 9 [2, 5, 6, 14] [(40, .slice (some ⟨e1, 0, none⟩) 0 0), (43, im q1), (44, .slice (some ⟨W.heap.size, 0, none⟩) 0 0), (52, .slice (some ⟨b4, 0, none⟩) 0 0)] (W.alloc (.cells #[] 5)) (by decide) (Or.inr (Or.inr (Or.inr (Or.inr (Or.inr (Or.inr (Or.inr (Or.inr (Or.inr (Or.inr (Or.inr (Or.inr (Or.inr (Or.inr (Or.inr (Or.inr (Or.inr (Or.inr (Or.inr (Or.inr (Or.inr (Or.inl ⟨e1, W.heap.size, b4, q1, rfl, rfl, rfl, (grown_new hS), ⟨im_grown I1.1 (grown_alloc W _) (fun e => by cases e), I1.2⟩, ⟨heap_alloc_new W _, hS.size⟩, ⟨((grown_alloc W _).block _ (Array.getElem?_eq_some_iff.1 E4.1).1 (by simp)).trans E4.1, E4.2⟩, (Nat.ne_of_lt (Array.getElem?_eq_some_iff.1 E4.1).1).symm, (Nat.ne_of_gt (own_lt I1.1 _ rfl)), G41⟩)))))))))))))))))))))))) (rdyZ_val (i := 10) rfl rfl (some 48) rfl (.slice (some ⟨W.heap.size, 0, none⟩) 0 0) (W.alloc (.cells #[] 5)) (mk0_run rfl) (grown_any (grown_new hS)) (fun _ => Z_as (by kernel_rfl) (by kernel_rfl) (ih 9 [2, 5, 10, 14] [(40, .slice (some ⟨e1, 0, none⟩) 0 0), (43, im q1), (48, .slice (some ⟨W.heap.size, 0, none⟩) 0 0), (52, .slice (some ⟨b4, 0, none⟩) 0 0)] (W.alloc (.cells #[] 5)) (by decide) (Or.inr (Or.inr (Or.inr (Or.inr (Or.inr (Or.inr (Or.inr (Or.inr (Or.inr (Or.inr (Or.inr (Or.inr (Or.inr (Or.inr (Or.inr (Or.inr (Or.inr (Or.inr (Or.inr (Or.inr (Or.inr (Or.inr (Or.inl ⟨e1, W.heap.size, b4, q1, rfl, rfl, rfl, (grown_new hS), ⟨im_grown I1.1 (grown_alloc W _) (fun e => by cases e), I1.2⟩, ⟨heap_alloc_new W _, hS.size⟩, ⟨((grown_alloc W _).block _ (Array.getElem?_eq_some_iff.1 E4.1).1 (by simp)).trans E4.1, E4.2⟩, (Nat.ne_of_lt (Array.getElem?_eq_some_iff.1 E4.1).1).symm, (Nat.ne_of_gt (own_lt I1.1 _ rfl)), G41⟩))))))))))))))))))))))))) rdyZ_nil))
            · obtain ⟨e1, b2, b3, q1, rfl, rfl, rfl, hS, I1, E2, E3, D23, G21, G31⟩ := hRel
              simp only [putAll, List.foldl_cons, List.foldl_nil, Act.put, List.setIfInBounds_toArray, List.set_cons_succ, List.set_cons_zero]
              refine wpAnyZ_ready (rs := [9, 14]) (by kernel_rfl) (by simp) ?_
              obtain ⟨q2, W2, r2, hi2, ha2, hb2, hg2⟩ := cpy W b2 E2.1 ⟨p1, 0, none⟩ r1 c.x.dur hl2 (hsrc2 W (grown_any hS))
              exact (rdyZ_val (i := 9) rfl rfl (some 47) rfl (im q2) W2 (app_run3 (x := .tmp 44) (y := .tmp 46) rfl (by kernel_rfl) (by kernel_rfl) r2) (grown_any (grown_mid hS hg2 E2.2)) (fun _ => Z_as (by kernel_rfl) (by kernel_rfl) (ih 8 [2, 5, 6, 9, 10] [(40, .slice (some ⟨e1, 0, none⟩) 0 0), (44, .slice (some ⟨b2, 0, none⟩) 0 0), (43, im q1), (47, im q2), (48, .slice (some ⟨b3, 0, none⟩) 0 0)] W2 (by decide) (Or.inr (Or.inr (Or.inr (Or.inr (Or.inr (Or.inr (Or.inr (Or.inr (Or.inr (Or.inr (Or.inr (Or.inr (Or.inr (Or.inr (Or.inr (Or.inr (Or.inr (Or.inr (Or.inr (Or.inr (Or.inr (Or.inr (Or.inr (Or.inr (Or.inr (Or.inl ⟨e1, b2, b3, q1, q2, rfl, rfl, rfl, (grown_mid hS hg2 E2.2), ⟨im_grown I1.1 hg2 (fun e => G21 (Option.some.inj e).symm), I1.2⟩, ⟨hi2, Nat.le_trans hS.size ha2⟩, ⟨(hg2.block _ (Array.getElem?_eq_some_iff.1 E3.1).1 (fun e => D23 (Option.some.inj e).symm)).trans E3.1, E3.2⟩, G31, (Nat.ne_of_lt (Nat.lt_of_lt_of_le (Array.getElem?_eq_some_iff.1 E3.1).1 ha2))⟩)))))))))))))))))))))))))))) (rdyZ_val (i := 14) rfl rfl (some 52) rfl (.slice (some ⟨W.heap.size, 0, none⟩) 0 0) (W.alloc (.cells #[] 5)) (mk0_run rfl) (grown_any (grown_new hS)) (fun _ => Z_as (by kernel_rfl) (by kernel_rfl) (ih 8 [2, 5, 6, 10, 14] [(40, .slice (some ⟨e1, 0, none⟩) 0 0), (43, im q1), (44, .slice (some ⟨b2, 0, none⟩) 0 0), (48, .slice (some ⟨b3, 0, none⟩) 0 0), (52, .slice (some ⟨W.heap.size, 0, none⟩) 0 0)] (W.alloc (.cells #[] 5)) (by decide) (Or.inr (Or.inr (Or.inr (Or.inr (Or.inr (Or.inr (Or.inr (Or.inr (Or.inr (Or.inr (Or.inr (Or.inr (Or.inr (Or.inr (Or.inr (Or.inr (Or.inr (Or.inr (Or.inr (Or.inr (Or.inr (Or.inr (Or.inr (Or.inl ⟨e1, b2, b3, W.heap.size, q1, rfl, rfl, rfl, (grown_new hS), ⟨im_grown I1.1 (grown_alloc W _) (fun e => by cases e), I1.2⟩, ⟨((grown_alloc W _).block _ (Array.getElem?_eq_some_iff.1 E2.1).1 (by simp)).trans E2.1, E2.2⟩, ⟨((grown_alloc W _).block _ (Array.getElem?_eq_some_iff.1 E3.1).1 (by simp)).trans E3.1, E3.2⟩, ⟨heap_alloc_new W _, hS.size⟩, D23, (Nat.ne_of_lt (Array.getElem?_eq_some_iff.1 E2.1).1), G21, (Nat.ne_of_lt (Array.getElem?_eq_some_iff.1 E3.1).1), G31, (Nat.ne_of_gt (own_lt I1.1 _ rfl))⟩)))))))))))))))))))))))))) rdyZ_nil))
            · obtain ⟨e1, b2, b4, q1, rfl, rfl, rfl, hS, I1, E2, E4, D24, G21, G41⟩ := hRel
              simp only [putAll, List.foldl_cons, List.foldl_nil, Act.put, List.setIfInBounds_toArray, List.set_cons_succ, List.set_cons_zero]
              refine wpAnyZ_ready (rs := [9, 10]) (by kernel_rfl) (by simp) ?_
              obtain ⟨q2, W2, r2, hi2, ha2, hb2, hg2⟩ := cpy W b2 E2.1 ⟨p1, 0, none⟩ r1 c.x.dur hl2 (hsrc2 W (grown_any hS))
              exact (rdyZ_val (i := 9) rfl rfl (some 47) rfl (im q2) W2 (app_run3 (x := .tmp 44) (y := .tmp 46) rfl (by kernel_rfl) (by kernel_rfl) r2) (grown_any (grown_mid hS hg2 E2.2)) (fun _ => Z_as (by kernel_rfl) (by kernel_rfl) (ih 8 [2, 5, 6, 9, 14] [(40, .slice (some ⟨e1, 0, none⟩) 0 0), (44, .slice (some ⟨b2, 0, none⟩) 0 0), (43, im q1), (47, im q2), (52, .slice (some ⟨b4, 0, none⟩) 0 0)] W2 (by decide) (Or.inr (Or.inr (Or.inr (Or.inr (Or.inr (Or.inr (Or.inr (Or.inr (Or.inr (Or.inr (Or.inr (Or.inr (Or.inr (Or.inr (Or.inr (Or.inr (Or.inr (Or.inr (Or.inr (Or.inr (Or.inr (Or.inr (Or.inr (Or.inr (Or.inr (Or.inr (Or.inl ⟨e1, b2, b4, q1, q2, rfl, rfl, rfl, (grown_mid hS hg2 E2.2), ⟨im_grown I1.1 hg2 (fun e => G21 (Option.some.inj e).symm), I1.2⟩, ⟨hi2, Nat.le_trans hS.size ha2⟩, ⟨(hg2.block _ (Array.getElem?_eq_some_iff.1 E4.1).1 (fun e => D24 (Option.some.inj e).symm)).trans E4.1, E4.2⟩, G41, (Nat.ne_of_lt (Nat.lt_of_lt_of_le (Array.getElem?_eq_some_iff.1 E4.1).1 ha2))⟩))))))))))))))))))))))))))))) (rdyZ_val (i := 10) rfl rfl (some 48) rfl (.slice (some ⟨W.heap.size, 0, none⟩) 0 0) (W.alloc (.cells #[] 5)) (mk0_run rfl) (grown_any (grown_new hS)) (fun _ => Z_as (by kernel_rfl) (by kernel_rfl) (ih 8 [2, 5, 6, 10, 14] [(40, .slice (some ⟨e1, 0, none⟩) 0 0), (43, im q1), (44, .slice (some ⟨b2, 0, none⟩) 0 0), (48, .slice (some ⟨W.heap.size, 0, none⟩) 0 0), (52, .slice (some ⟨b4, 0, none⟩) 0 0)] (W.alloc (.cells #[] 5)) (by decide) (Or.inr (Or.inr (Or.inr (Or.inr (Or.inr (Or.inr (Or.inr (Or.inr (Or.inr (Or.inr (Or.inr (Or.inr (Or.inr (Or.inr (Or.inr (Or.inr (Or.inr (Or.inr (Or.inr (Or.inr (Or.inr (Or.inr (Or.inr (Or.inl ⟨e1, b2, W.heap.size, b4, q1, rfl, rfl, rfl, (grown_new hS), ⟨im_grown I1.1 (grown_alloc W _) (fun e => by cases e), I1.2⟩, ⟨((grown_alloc W _).block _ (Array.getElem?_eq_some_iff.1 E2.1).1 (by simp)).trans E2.1, E2.2⟩, ⟨heap_alloc_new W _, hS.size⟩, ⟨((grown_alloc W _).block _ (Array.getElem?_eq_some_iff.1 E4.1).1 (by simp)).trans E4.1, E4.2⟩, (Nat.ne_of_lt (Array.getElem?_eq_some_iff.1 E2.1).1), D24, G21, (Nat.ne_of_lt (Array.getElem?_eq_some_iff.1 E4.1).1).symm, (Nat.ne_of_gt (own_lt I1.1 _ rfl)), G41⟩)))))))))))))))))))))))))) rdyZ_nil))
            · obtain ⟨e1, b3, b4, q1, rfl, rfl, rfl, hS, I1, E3, E4, D34, G31, G41⟩ := hRel
              simp only [putAll, List.foldl_cons, List.foldl_nil, Act.put, List.setIfInBounds_toArray, List.set_cons_succ, List.set_cons_zero]
              refine wpAnyZ_ready (rs := [6]) (by kernel_rfl) (by simp) ?_
              exact (rdyZ_val (i := 6) rfl rfl (some 44) rfl (.slice (some ⟨W.heap.size, 0, none⟩) 0 0) (W.alloc (.cells #[] 5)) (mk0_run rfl) (grown_any (grown_new hS)) (fun _ => Z_as (by kernel_rfl) (by kernel_rfl) (ih 8 [2, 5, 6, 10, 14] [(40, .slice (some ⟨e1, 0, none⟩) 0 0), (43, im q1), (44, .slice (some ⟨W.heap.size, 0, none⟩) 0 0), (48, .slice (some ⟨b3, 0, none⟩) 0 0), (52, .slice (some ⟨b4, 0, none⟩) 0 0)] (W.alloc (.cells #[] 5)) (by decide) (Or.inr (Or.inr (Or.inr (Or.inr (Or.inr (Or.inr (Or.inr (Or.inr (Or.inr (Or.inr (Or.inr (Or.inr (Or.inr (Or.inr (Or.inr (Or.inr (Or.inr (Or.inr (Or.inr (Or.inr (Or.inr (Or.inr (Or.inr (Or.inl ⟨e1, W.heap.size, b3, b4, q1, rfl, rfl, rfl, (grown_new hS), ⟨im_grown I1.1 (grown_alloc W _) (fun e => by cases e), I1.2⟩, ⟨heap_alloc_new W _, hS.size⟩, ⟨((grown_alloc W _).block _ (Array.getElem?_eq_some_iff.1 E3.1).1 (by simp)).trans E3.1, E3.2⟩, ⟨((grown_alloc W _).block _ (Array.getElem?_eq_some_iff.1 E4.1).1 (by simp)).trans E4.1, E4.2⟩, (Nat.ne_of_lt (Array.getElem?_eq_some_iff.1 E3.1).1).symm, (Nat.ne_of_lt (Array.getElem?_eq_some_iff.1 E4.1).1).symm, (Nat.ne_of_gt (own_lt I1.1 _ rfl)), D34, G31, G41⟩)))))))))))))))))))))))))) rdyZ_nil)
            · obtain ⟨e1, b2, b3, b4, q1, rfl, rfl, rfl, hS, I1, E2, E3, E4, D23, D24, G21, D34, G31, G41⟩ := hRel
              simp only [putAll, List.foldl_cons, List.foldl_nil, Act.put, List.setIfInBounds_toArray, List.set_cons_succ, List.set_cons_zero]
              refine wpAnyZ_ready (rs := [9]) (by kernel_rfl) (by simp) ?_
              obtain ⟨q2, W2, r2, hi2, ha2, hb2, hg2⟩ := cpy W b2 E2.1 ⟨p1, 0, none⟩ r1 c.x.dur hl2 (hsrc2 W (grown_any hS))
              exact (rdyZ_val (i := 9) rfl rfl (some 47) rfl (im q2) W2 (app_run3 (x := .tmp 44) (y := .tmp 46) rfl (by kernel_rfl) (by kernel_rfl) r2) (grown_any (grown_mid hS hg2 E2.2)) (fun _ => Z_as (by kernel_rfl) (by kernel_rfl) (ih 7 [2, 5, 6, 9, 10, 14] [(40, .slice (some ⟨e1, 0, none⟩) 0 0), (44, .slice (some ⟨b2, 0, none⟩) 0 0), (43, im q1), (47, im q2), (48, .slice (some ⟨b3, 0, none⟩) 0 0), (52, .slice (some ⟨b4, 0, none⟩) 0 0)] W2 (by decide) (Or.inr (Or.inr (Or.inr (Or.inr (Or.inr (Or.inr (Or.inr (Or.inr (Or.inr (Or.inr (Or.inr (Or.inr (Or.inr (Or.inr (Or.inr (Or.inr (Or.inr (Or.inr (Or.inr (Or.inr (Or.inr (Or.inr (Or.inr (Or.inr (Or.inr (Or.inr (Or.inr (Or.inl ⟨e1, b2, b3, b4, q1, q2, rfl, rfl, rfl, (grown_mid hS hg2 E2.2), ⟨im_grown I1.1 hg2 (fun e => G21 (Option.some.inj e).symm), I1.2⟩, ⟨hi2, Nat.le_trans hS.size ha2⟩, ⟨(hg2.block _ (Array.getElem?_eq_some_iff.1 E3.1).1 (fun e => D23 (Option.some.inj e).symm)).trans E3.1, E3.2⟩, ⟨(hg2.block _ (Array.getElem?_eq_some_iff.1 E4.1).1 (fun e => D24 (Option.some.inj e).symm)).trans E4.1, E4.2⟩, D34, G31, (Nat.ne_of_lt (Nat.lt_of_lt_of_le (Array.getElem?_eq_some_iff.1 E3.1).1 ha2)), G41, (Nat.ne_of_lt (Nat.lt_of_lt_of_le (Array.getElem?_eq_some_iff.1 E4.1).1 ha2))⟩)))))))))))))))))))))))))))))) rdyZ_nil)
            · obtain ⟨e1, e2, q1, q2, rfl, rfl, rfl, hS, I1, I2⟩ := hRel
              simp only [putAll, List.foldl_cons, List.foldl_nil, Act.put, List.setIfInBounds_toArray, List.set_cons_succ, List.set_cons_zero]
              refine wpAnyZ_ready (rs := [10, 14]) (by kernel_rfl) (by simp) ?_
              exact (rdyZ_val (i := 10) rfl rfl (some 48) rfl (.slice (some ⟨W.heap.size, 0, none⟩) 0 0) (W.alloc (.cells #[] 5)) (mk0_run rfl) (grown_any (grown_new hS)) (fun _ => Z_as (by kernel_rfl) (by kernel_rfl) (ih 8 [2, 5, 6, 9, 10] [(40, .slice (some ⟨e1, 0, none⟩) 0 0), (44, .slice (some ⟨e2, 0, none⟩) 0 0), (43, im q1), (47, im q2), (48, .slice (some ⟨W.heap.size, 0, none⟩) 0 0)] (W.alloc (.cells #[] 5)) (by decide) (Or.inr (Or.inr (Or.inr (Or.inr (Or.inr (Or.inr (Or.inr (Or.inr (Or.inr (Or.inr (Or.inr (Or.inr (Or.inr (Or.inr (Or.inr (Or.inr (Or.inr (Or.inr (Or.inr (Or.inr (Or.inr (Or.inr (Or.inr (Or.inr (Or.inr (Or.inl ⟨e1, e2, W.heap.size, q1, q2, rfl, rfl, rfl, (grown_new hS), ⟨im_grown I1.1 (grown_alloc W _) (fun e => by cases e), I1.2⟩, ⟨im_grown I2.1 (grown_alloc W _) (fun e => by cases e), I2.2⟩, ⟨heap_alloc_new W _, hS.size⟩, (Nat.ne_of_gt (own_lt I1.1 _ rfl)), (Nat.ne_of_gt (own_lt I2.1 _ rfl))⟩)))))))))))))))))))))))))))) (rdyZ_val (i := 14) rfl rfl (some 52) rfl (.slice (some ⟨W.heap.size, 0, none⟩) 0 0) (W.alloc (.cells #[] 5)) (mk0_run rfl) (grown_any (grown_new hS)) (fun _ => Z_as (by kernel_rfl) (by kernel_rfl) (ih 8 [2, 5, 6, 9, 14] [(40, .slice (some ⟨e1, 0, none⟩) 0 0), (44, .slice (some ⟨e2, 0, none⟩) 0 0), (43, im q1), (47, im q2), (52, .slice (some ⟨W.heap.size, 0, none⟩) 0 0)] (W.alloc (.cells #[] 5)) (by decide) (Or.inr (Or.inr (Or.inr (Or.inr (Or.inr (Or.inr (Or.inr (Or.inr (Or.inr (Or.inr (Or.inr (Or.inr (Or.inr (Or.inr (Or.inr (Or.inr (Or.inr (Or.inr (Or.inr (Or.inr (Or.inr (Or.inr (Or.inr (Or.inr (Or.inr (Or.inr (Or.inl ⟨e1, e2, W.heap.size, q1, q2, rfl, rfl, rfl, (grown_new hS), ⟨im_grown I1.1 (grown_alloc W _) (fun e => by cases e), I1.2⟩, ⟨im_grown I2.1 (grown_alloc W _) (fun e => by cases e), I2.2⟩, ⟨heap_alloc_new W _, hS.size⟩, (Nat.ne_of_gt (own_lt I1.1 _ rfl)), (Nat.ne_of_gt (own_lt I2.1 _ rfl))⟩))))))))))))))))))))))))))))) rdyZ_nil))
            · obtain ⟨e1, e2, b3, q1, q2, rfl, rfl, rfl, hS, I1, I2, E3, G31, G32⟩ := hRel
              simp only [putAll, List.foldl_cons, List.foldl_nil, Act.put, List.setIfInBounds_toArray, List.set_cons_succ, List.set_cons_zero]
              refine wpAnyZ_ready (rs := [13, 14]) (by kernel_rfl) (by simp) ?_
              obtain ⟨q3, W3, r3, hi3, ha3, hb3, hg3⟩ := cpy W b3 E3.1 ⟨p2, 0, none⟩ r2 c.x.syn hl3 (hsrc3 W (grown_any hS))
              exact (rdyZ_val (i := 13) rfl rfl (some 51) rfl (im q3) W3 (app_run3 (x := .tmp 48) (y := .tmp 50) rfl (by kernel_rfl) (by kernel_rfl) r3) (grown_any (grown_mid hS hg3 E3.2)) (fun _ => Z_as (by kernel_rfl) (by kernel_rfl) (ih 7 [2, 5, 6, 9, 10, 13] [(40, .slice (some ⟨e1, 0, none⟩) 0 0), (44, .slice (some ⟨e2, 0, none⟩) 0 0), (48, .slice (some ⟨b3, 0, none⟩) 0 0), (43, im q1), (47, im q2), (51, im q3)] W3 (by decide) (Or.inr (Or.inr (Or.inr (Or.inr (Or.inr (Or.inr (Or.inr (Or.inr (Or.inr (Or.inr (Or.inr (Or.inr (Or.inr (Or.inr (Or.inr (Or.inr (Or.inr (Or.inr (Or.inr (Or.inr (Or.inr (Or.inr (Or.inr (Or.inr (Or.inr (Or.inr (Or.inr (Or.inr (Or.inl ⟨e1, e2, b3, q1, q2, q3, rfl, rfl, rfl, (grown_mid hS hg3 E3.2), ⟨im_grown I1.1 hg3 (fun e => G31 (Option.some.inj e).symm), I1.2⟩, ⟨im_grown I2.1 hg3 (fun e => G32 (Option.some.inj e).symm), I2.2⟩, ⟨hi3, Nat.le_trans hS.size ha3⟩⟩))))))))))))))))))))))))))))))) (rdyZ_val (i := 14) rfl rfl (some 52) rfl (.slice (some ⟨W.heap.size, 0, none⟩) 0 0) (W.alloc (.cells #[] 5)) (mk0_run rfl) (grown_any (grown_new hS)) (fun _ => Z_as (by kernel_rfl) (by kernel_rfl) (ih 7 [2, 5, 6, 9, 10, 14] [(40, .slice (some ⟨e1, 0, none⟩) 0 0), (44, .slice (some ⟨e2, 0, none⟩) 0 0), (43, im q1), (47, im q2), (48, .slice (some ⟨b3, 0, none⟩) 0 0), (52, .slice (some ⟨W.heap.size, 0, none⟩) 0 0)] (W.alloc (.cells #[] 5)) (by decide) (Or.inr (Or.inr (Or.inr (Or.inr (Or.inr (Or.inr (Or.inr (Or.inr (Or.inr (Or.inr (Or.inr (Or.inr (Or.inr (Or.inr (Or.inr (Or.inr (Or.inr (Or.inr (Or.inr (Or.inr (Or.inr (Or.inr (Or.inr (Or.inr (Or.inr (Or.inr (Or.inr (Or.inl ⟨e1, e2, b3, W.heap.size, q1, q2, rfl, rfl, rfl, (grown_new hS), ⟨im_grown I1.1 (grown_alloc W _) (fun e => by cases e), I1.2⟩, ⟨im_grown I2.1 (grown_alloc W _) (fun e => by cases e), I2.2⟩, ⟨((grown_alloc W _).block _ (Array.getElem?_eq_some_iff.1 E3.1).1 (by simp)).trans E3.1, E3.2⟩, ⟨heap_alloc_new W _, hS.size⟩, (Nat.ne_of_lt (Array.getElem?_eq_some_iff.1 E3.1).1), G31, G32, (Nat.ne_of_gt (own_lt I1.1 _ rfl)), (Nat.ne_of_gt (own_lt I2.1 _ rfl))⟩)))))))))))))))))))))))))))))) rdyZ_nil))
            · obtain ⟨e1, e2, b4, q1, q2, rfl, rfl, rfl, hS, I1, I2, E4, G41, G42⟩ := hRel
              simp only [putAll, List.foldl_cons, List.foldl_nil, Act.put, List.setIfInBounds_toArray, List.set_cons_succ, List.set_cons_zero]
              refine wpAnyZ_ready (rs := [10]) (by kernel_rfl) (by simp) ?_
              exact (rdyZ_val (i := 10) rfl rfl (some 48) rfl (.slice (some ⟨W.heap.size, 0, none⟩) 0 0) (W.alloc (.cells #[] 5)) (mk0_run rfl) (grown_any (grown_new hS)) (fun _ => Z_as (by kernel_rfl) (by kernel_rfl) (ih 7 [2, 5, 6, 9, 10, 14] [(40, .slice (some ⟨e1, 0, none⟩) 0 0), (44, .slice (some ⟨e2, 0, none⟩) 0 0), (43, im q1), (47, im q2), (48, .slice (some ⟨W.heap.size, 0, none⟩) 0 0), (52, .slice (some ⟨b4, 0, none⟩) 0 0)] (W.alloc (.cells #[] 5)) (by decide) (Or.inr (Or.inr (Or.inr (Or.inr (Or.inr (Or.inr (Or.inr (Or.inr (Or.inr (Or.inr (Or.inr (Or.inr (Or.inr (Or.inr (Or.inr (Or.inr (Or.inr (Or.inr (Or.inr (Or.inr (Or.inr (Or.inr (Or.inr (Or.inr (Or.inr (Or.inr (Or.inr (Or.inl ⟨e1, e2, W.heap.size, b4, q1, q2, rfl, rfl, rfl, (grown_new hS), ⟨im_grown I1.1 (grown_alloc W _) (fun e => by cases e), I1.2⟩, ⟨im_grown I2.1 (grown_alloc W _) (fun e => by cases e), I2.2⟩, ⟨heap_alloc_new W _, hS.size⟩, ⟨((grown_alloc W _).block _ (Array.getElem?_eq_some_iff.1 E4.1).1 (by simp)).trans E4.1, E4.2⟩, (Nat.ne_of_lt (Array.getElem?_eq_some_iff.1 E4.1).1).symm, (Nat.ne_of_gt (own_lt I1.1 _ rfl)), (Nat.ne_of_gt (own_lt I2.1 _ rfl)), G41, G42⟩)))))))))))))))))))))))))))))) rdyZ_nil)
            · obtain ⟨e1, e2, b3, b4, q1, q2, rfl, rfl, rfl, hS, I1, I2, E3, E4, D34, G31, G32, G41, G42⟩ := hRel
              simp only [putAll, List.foldl_cons, List.foldl_nil, Act.put, List.setIfInBounds_toArray, List.set_cons_succ, List.set_cons_zero]
              refine wpAnyZ_ready (rs := [13]) (by kernel_rfl) (by simp) ?_
              obtain ⟨q3, W3, r3, hi3, ha3, hb3, hg3⟩ := cpy W b3 E3.1 ⟨p2, 0, none⟩ r2 c.x.syn hl3 (hsrc3 W (grown_any hS))
              exact (rdyZ_val (i := 13) rfl rfl (some 51) rfl (im q3) W3 (app_run3 (x := .tmp 48) (y := .tmp 50) rfl (by kernel_rfl) (by kernel_rfl) r3) (grown_any (grown_mid hS hg3 E3.2)) (fun _ => Z_as (by kernel_rfl) (by kernel_rfl) (ih 6 [2, 5, 6, 9, 10, 13, 14] [(40, .slice (some ⟨e1, 0, none⟩) 0 0), (44, .slice (some ⟨e2, 0, none⟩) 0 0), (48, .slice (some ⟨b3, 0, none⟩) 0 0), (43, im q1), (47, im q2), (51, im q3), (52, .slice (some ⟨b4, 0, none⟩) 0 0)] W3 (by decide) (Or.inr (Or.inr (Or.inr (Or.inr (Or.inr (Or.inr (Or.inr (Or.inr (Or.inr (Or.inr (Or.inr (Or.inr (Or.inr (Or.inr (Or.inr (Or.inr (Or.inr (Or.inr (Or.inr (Or.inr (Or.inr (Or.inr (Or.inr (Or.inr (Or.inr (Or.inr (Or.inr (Or.inr (Or.inr (Or.inl ⟨e1, e2, b3, b4, q1, q2, q3, rfl, rfl, rfl, (grown_mid hS hg3 E3.2), ⟨im_grown I1.1 hg3 (fun e => G31 (Option.some.inj e).symm), I1.2⟩, ⟨im_grown I2.1 hg3 (fun e => G32 (Option.some.inj e).symm), I2.2⟩, ⟨hi3, Nat.le_trans hS.size ha3⟩, ⟨(hg3.block _ (Array.getElem?_eq_some_iff.1 E4.1).1 (fun e => D34 (Option.some.inj e).symm)).trans E4.1, E4.2⟩, G41, G42, (Nat.ne_of_lt (Nat.lt_of_lt_of_le (Array.getElem?_eq_some_iff.1 E4.1).1 ha3))⟩)))))))))))))))))))))))))))))))) rdyZ_nil)
            · obtain ⟨e1, e2, e3, q1, q2, q3, rfl, rfl, rfl, hS, I1, I2, I3⟩ := hRel
              simp only [putAll, List.foldl_cons, List.foldl_nil, Act.put, List.setIfInBounds_toArray, List.set_cons_succ, List.set_cons_zero]
              refine wpAnyZ_ready (rs := [14]) (by kernel_rfl) (by simp) ?_
              exact (rdyZ_val (i := 14) rfl rfl (some 52) rfl (.slice (some ⟨W.heap.size, 0, none⟩) 0 0) (W.alloc (.cells #[] 5)) (mk0_run rfl) (grown_any (grown_new hS)) (fun _ => Z_as (by kernel_rfl) (by kernel_rfl) (ih 6 [2, 5, 6, 9, 10, 13, 14] [(40, .slice (some ⟨e1, 0, none⟩) 0 0), (44, .slice (some ⟨e2, 0, none⟩) 0 0), (48, .slice (some ⟨e3, 0, none⟩) 0 0), (43, im q1), (47, im q2), (51, im q3), (52, .slice (some ⟨W.heap.size, 0, none⟩) 0 0)] (W.alloc (.cells #[] 5)) (by decide) (Or.inr (Or.inr (Or.inr (Or.inr (Or.inr (Or.inr (Or.inr (Or.inr (Or.inr (Or.inr (Or.inr (Or.inr (Or.inr (Or.inr (Or.inr (Or.inr (Or.inr (Or.inr (Or.inr (Or.inr (Or.inr (Or.inr (Or.inr (Or.inr (Or.inr (Or.inr (Or.inr (Or.inr (Or.inr (Or.inl ⟨e1, e2, e3, W.heap.size, q1, q2, q3, rfl, rfl, rfl, (grown_new hS), ⟨im_grown I1.1 (grown_alloc W _) (fun e => by cases e), I1.2⟩, ⟨im_grown I2.1 (grown_alloc W _) (fun e => by cases e), I2.2⟩, ⟨im_grown I3.1 (grown_alloc W _) (fun e => by cases e), I3.2⟩, ⟨heap_alloc_new W _, hS.size⟩, (Nat.ne_of_gt (own_lt I1.1 _ rfl)), (Nat.ne_of_gt (own_lt I2.1 _ rfl)), (Nat.ne_of_gt (own_lt I3.1 _ rfl))⟩)))))))))))))))))))))))))))))))) rdyZ_nil)
            · obtain ⟨e1, e2, e3, b4, q1, q2, q3, rfl, rfl, rfl, hS, I1, I2, I3, E4, G41, G42, G43⟩ := hRel
              simp only [putAll, List.foldl_cons, List.foldl_nil, Act.put, List.setIfInBounds_toArray, List.set_cons_succ, List.set_cons_zero]
              refine wpAnyZ_ready (rs := [17]) (by kernel_rfl) (by simp) ?_
              obtain ⟨q4, W4, r4, hi4, ha4, hb4, hg4⟩ := cpy W b4 E4.1 ⟨p3, 0, none⟩ r3 c.x.wri hl4 (hsrc4 W (grown_any hS))
              exact (rdyZ_val (i := 17) rfl rfl (some 55) rfl (im q4) W4 (app_run3 (x := .tmp 52) (y := .tmp 54) rfl (by kernel_rfl) (by kernel_rfl) r4) (grown_any (grown_mid hS hg4 E4.2)) (fun _ => Z_as (by kernel_rfl) (by kernel_rfl) (ih 5 [2, 5, 6, 9, 10, 13, 14, 17] [(40, .slice (some ⟨e1, 0, none⟩) 0 0), (44, .slice (some ⟨e2, 0, none⟩) 0 0), (48, .slice (some ⟨e3, 0, none⟩) 0 0), (52, .slice (some ⟨b4, 0, none⟩) 0 0), (43, im q1), (47, im q2), (51, im q3), (55, im q4)] W4 (by decide) (Or.inr (Or.inr (Or.inr (Or.inr (Or.inr (Or.inr (Or.inr (Or.inr (Or.inr (Or.inr (Or.inr (Or.inr (Or.inr (Or.inr (Or.inr (Or.inr (Or.inr (Or.inr (Or.inr (Or.inr (Or.inr (Or.inr (Or.inr (Or.inr (Or.inr (Or.inr (Or.inr (Or.inr (Or.inr (Or.inr (⟨e1, e2, e3, b4, q1, q2, q3, q4, rfl, rfl, rfl, (grown_mid hS hg4 E4.2), ⟨im_grown I1.1 hg4 (fun e => G41 (Option.some.inj e).symm), I1.2⟩, ⟨im_grown I2.1 hg4 (fun e => G42 (Option.some.inj e).symm), I2.2⟩, ⟨im_grown I3.1 hg4 (fun e => G43 (Option.some.inj e).symm), I3.2⟩, ⟨hi4, Nat.le_trans hS.size ha4⟩⟩))))))))))))))))))))))))))))))))) rdyZ_nil)
            · obtain ⟨e1, e2, e3, e4, q1, q2, q3, q4, rfl, rfl, rfl, hS, I1, I2, I3, I4⟩ := hRel
              simp only [putAll, List.foldl_cons, List.foldl_nil, Act.put, List.setIfInBounds_toArray, List.set_cons_succ, List.set_cons_zero]
              refine drawnZ_take (i := 20) (v := .agg #[im q1, im q2, im q3, im q4, .bool wt]) (some 58) rfl (by kernel_rfl) rfl (by kernel_rfl) (by kernel_rfl) (by kernel_rfl) (fun _ _ _ h => h) (Or.inl ⟨by kernel_rfl, fun wq hw => by go_simp⟩) (grown_any hS) ?_
              simp only [Act.put, List.setIfInBounds_toArray, List.set_cons_succ, List.set_cons_zero]
              refine wpAnyZ_ready (rs := [21]) (by kernel_rfl) (by simp) ?_
              refine rdyZ_val (i := 21) rfl rfl (some 59) rfl (.slice (some ⟨W.heap.size, 0, none⟩) 1 1) (W.alloc (.cells #[im q1, im q2, im q3, im q4, .bool wt] 57)) (bs1c_run (x := .tmp 58) rfl (by kernel_rfl)) (grown_any (grown_new hS)) (fun _ => ?_) rdyZ_nil
              simp only [Act.put, List.setIfInBounds_toArray, List.set_cons_succ, List.set_cons_zero]
              have he := heap_alloc_new W (.cells #[im q1, im q2, im q3, im q4, .bool wt] 57)
              have hg1 : ws.grownBy (W.alloc (.cells #[im q1, im q2, im q3, im q4, .bool wt] 57)) none := grown_new hS
              have hga : W.grownBy (W.alloc (.cells #[im q1, im q2, im q3, im q4, .bool wt] 57)) none := grown_alloc W _
              obtain ⟨b59, hb59⟩ : ∃ b, b = W.heap.size := ⟨_, rfl⟩
              obtain ⟨W1, hW1⟩ : ∃ W', W' = W.alloc (.cells #[im q1, im q2, im q3, im q4, .bool wt] 57) := ⟨_, rfl⟩
              rw [← hW1] at hg1 hga
              rw [← hb59, ← hW1] at he
              rw [← hb59, ← hW1]
              clear hW1 hb59
              refine wpAnyZ_ready (rs := [22]) (by kernel_rfl) (by simp) ?_
              obtain ⟨g2, c2, W2, hr, ho2, hg2⟩ := appCn W1 n1 v6 i (cellsC L) (own_grown0 (own_other hown6 (fun g hg => hBs.block g (own_lt hown6 g hg))) hg1) (Nat.le_trans hn1s hg1.size) b59 (im q1) (im q2) (im q3) (im q4) (.bool wt) rfl rfl rfl rfl rfl he hi100
              have hS2 : ws.grownBy W2 v6.ownBlock := grown_last hg1 hg2
              refine rdyZ_val (i := 22) rfl rfl (some 60) rfl (.slice (some ⟨g2, 0, none⟩) (i + 1) c2) W2 (app_run3 (x := .tmp 39) (y := .tmp 59) rfl (by kernel_rfl) (by kernel_rfl) hr) hS2 (fun _ => ?_) rdyZ_nil
              simp only [Act.put, List.setIfInBounds_toArray, List.set_cons_succ, List.set_cons_zero]
              refine wpAnyZ_ready (rs := [23]) (by kernel_rfl) (by simp) ?_
              refine rdyZ_val (i := 23) rfl rfl (some 61) rfl (.pointer (some ⟨b6, 1, none⟩)) W2 (by go_simp) hS2 (fun _ => ?_) rdyZ_nil
              simp only [Act.put, List.setIfInBounds_toArray, List.set_cons_succ, List.set_cons_zero]
              refine wpAnyZ_ready (rs := [24]) (by kernel_rfl) (by simp) ?_
              have hcf := L6 W2 hS2
              have hfz := frozen_of_row _ _ 1 _ _ ((h6 W2 hS2).trans E6)
              refine rdyZ_last (z := 24) rfl rfl rfl (W2.setCell ⟨b6, 1, none⟩ (.slice (some ⟨g2, 0, none⟩) (i + 1) c2)) (by go_simp) ?_
              simp only [Act.put]
              refine wpAnyZ_done (by kernel_rfl) ?_ _
              refine NoPanic.normal ?_
              have J : ∀ (q : Nat × Nat) (zs : List Nat), Im W q zs ∧ ws.heap.size ≤ q.1 → Im W2 q zs ∧ ws.heap.size ≤ q.1 := fun q zs hq => ⟨im_grown (im_grown hq.1 hga (fun e => by cases e)) hg2 (fun e => own_ne2 (im_grown hq.1 hga (fun e => by cases e)) (own_grown0 (own_other hown6 (fun g hg => hBs.block g (own_lt hown6 g hg))) hg1) rfl e.symm (by decide) rfl), hq.2⟩
              exact ⟨rfl, _, ⟨e1, e2, e3, e4, q1, q2, q3, q4, b59, g2, c2, W2, rfl, rfl, hS2, ho2, J _ _ I1, J _ _ I2, J _ _ I3, J _ _ I4⟩, by kernel_rfl⟩
          -- END STATES
          · rintro li w' ⟨e1, e2, e3, e4, q1, q2, q3, q4, b59, g2, c2, W8, rfl, hw8, hG8, ho8, J1, J2, J3, J4⟩
            have K6 := (h6 W8 hG8).trans E6
            have hb56 : b5 ≠ b6 := by have := HS.out.2; omega
            have hv5 : v6.ownBlock ≠ some b5 := fun e => own_ne HNR.out.own (g := b5) e HB5.out (by decide) rfl
            have hNR := HNR.out.step hc hBs hG8 hn1s HWT.out ho8 J1 J2 J3 J4 K6 (.slice (some ⟨g2, 0, none⟩) (i + 1) c2)
            have hK5 : w'.heap[b5]? = some (.cells #[.string nm, .slice (some ⟨fg, 0, none⟩) fl fcc] 55 (0, 0)) := by
              have l5 := (Array.getElem?_eq_some_iff.1 HB5.out).1
              rw [hw8, Below.heap_setCell W8 ⟨b6, 1, none⟩ _ b5 hb56, hG8.block b5 (Nat.lt_of_lt_of_le l5 hBs.size) (fun e => hv5 e.symm), hBs.block b5 l5]
              exact HB5.out
            have hK6 : w'.heap[b6]? = some (.cells #[.string nm, .slice (some ⟨g2, 0, none⟩) (i + 1) c2] 55 (0, 0)) := by rw [hw8]; exact setR2 K6 _
            have hGn : w1.grownBy w' (some b6) := by
              rw [hw8]
              exact grown_chain HG.out hBs hG8 (fun b hb => by have := (HNR.out.own.lt b hb).1; rw [HN1.out] at this; exact this) _
            rw [← hw8] at hNR
            have HA := hidn hNR
            have HK5 := hidn hK5
            have HK6 := hidn hK6
            have HGN := hidn hGn
            clear hw8 hG8 ho8 J1 J2 J3 J4 K6 hb56 hv5 hNR hK5 hK6 hGn hsrc1 hsrc2 hsrc3 hsrc4 L0 L1 L2 L3 L4 L6 h6 h8 E6 E8 hBs hv8 hv6 hown6 hn1s hi100 hl1 hl2 hl3 hl4 x0 x1 x2 x3 d0 d1 d2 d3 d4 hok cn5 hwB
            simp only [putAll, List.foldl, Act.put, List.setIfInBounds_toArray, List.set_cons_succ, List.set_cons_zero]
            go_wp2_with fail
            exact ⟨⟨i + 1, _, _, by omega, by simp, HA, hidn (.inr trivial), HK5, HK6, HGN⟩, by simp [intOf]; omega⟩
        · have hlti2 : ¬ (i : Int) < (fl : Int) := by omega
          obtain rfl : i = fl := by omega
          obtain ⟨fa', fc', R', F', hR', hkR, hF'⟩ := HI.out
          have hRl : R'.length = k := by have := congrArg List.length hkR; simp only [List.length_map, List.length_take] at this; rw [← HNN.out] at this; omega
          have hfm := List.mem_of_getElem? HFK.out
          have hok := H.out.ok f hfm
          have hfl0 : 0 < i := by rw [HFE.out.2.2]; exact List.length_pos_iff.2 hok.2.1
          obtain ⟨g6, c6, rfl⟩ : ∃ g6 c6, v6 = .slice (some ⟨g6, 0, none⟩) i c6 := by
            rcases HNR.out.own.2 with ⟨_, h2⟩ | ⟨g, cap, cur, h1, _⟩
            · have := HNR.out.len; omega
            · exact ⟨g, cap, by rw [h1, HNR.out.len]⟩
          have lw : Below wo.heap.size wo wi := HX1.out.grown HG.out (HX1.out.size) (fun b hb => by cases hb; have := HS.out.1; have := HS.out.2; omega)
          have hRi := hR'.below (fun b hb => (hF' b hb).2) lw
          obtain ⟨vf, hvf⟩ : ∃ vf, vf = Value.slice fa' R'.length fc' := ⟨_, rfl⟩
          have nfo : ∀ g, vf.ownBlock = some g → w.heap.size ≤ g ∧ g < wo.heap.size := fun g hg => by
            rw [hvf] at hg
            obtain ⟨x, hx, rfl⟩ := slice_own hg
            exact hF' _ (hR'.ff x hx)
          have nf0 : vf.ownBlock ≠ some n0 := fun e => by rw [hvf] at e; exact own_ne hRi.files e hRi.disk (Ne.symm tyDF.1) rfl
          have nf6 : vf.ownBlock ≠ some b6 := fun e => by have := (nfo b6 e).2; have := HS.out.1; have := HS.out.2; omega
          have E0 := hRi.disk
          have h0 : ∀ W, wi.grownBy W vf.ownBlock → W.heap[n0]? = wi.heap[n0]? := fun W hW => hW.block n0 (Array.getElem?_eq_some_iff.1 E0).1 (fun e => nf0 e.symm)
          have h6 : ∀ W, wi.grownBy W vf.ownBlock → W.heap[b6]? = some (.cells #[.string nm, .slice (some ⟨g6, 0, none⟩) i c6] 55 (0, 0)) := fun W hW => (hW.block b6 (Array.getElem?_eq_some_iff.1 HB6.out).1 (fun e => nf6 e.symm)).trans HB6.out
          have L67 : ∀ W, wi.grownBy W vf.ownBlock → W.cell? ⟨n0, 1, none⟩ = some (.slice fa' k fc') := fun W hW => by rw [cell_of_row _ _ _ _ _ _ ((h0 W hW).trans E0), ← hRl]; rfl
          have hofi : wi.ownsRow w.heap.size 55 2 (.slice fa' k fc') k (cellsR R') := by
            have q := own_raise (base' := w.heap.size) hRi.files (fun g hg => (nfo g (by rw [hvf]; exact hg)).1)
            rwa [hRl] at q
          have hk1 : k ≤ 1000000 := by omega
          have hws : w.heap.size ≤ wi.heap.size := Nat.le_trans HB.out.size lw.size
          have HRI := hidn hRi
          have HFP := hidn hF'
          have HKR := hidn hkR
          rw [hRl] at hvf
          have HVF := hidn hvf
          have HRL := hidn hRl
          have HOK := hidn hok
          have HLW := hidn lw
          clear hR' hkR hF' hok hfm hRi hvf hRl lw
          go_wp2_with fail
          refine region_cut (fun li w' => ∃ (b69 : Nat) (ga : Option Addr) (gc : Nat) (W : World), li = [(63, .pointer (some ⟨n0, 0, none⟩)), (64, .pointer (some ⟨n0, 0, none⟩)), (65, .pointer (some ⟨n0, 0, none⟩)), (66, .pointer (some ⟨n0, 1, none⟩)), (67, .slice fa' k fc'), (68, .agg #[.string nm, .slice (some ⟨g6, 0, none⟩) i c6]), (69, .slice (some ⟨b69, 0, none⟩) 1 1), (70, .slice ga (k + 1) gc), (71, .pointer (some ⟨n0, 0, none⟩)), (72, .pointer (some ⟨n0, 1, none⟩))] ∧ w' = W.setCell ⟨n0, 1, none⟩ (.slice ga (k + 1) gc) ∧ wi.grownBy W vf.ownBlock ∧ W.ownsRow w.heap.size 55 2 (.slice ga (k + 1) gc) (k + 1) (cellsR R' ++ [.string nm, .slice (some ⟨g6, 0, none⟩) i c6])) ?_ ?_
          · refine wp_region_noPanic ?_
            refine wp_region_heldZ (S := fun W => wi.grownBy W vf.ownBlock) 10 (by kernel_rfl) ⟨rfl, rfl, rfl, Nat.le_refl _, fun _ _ _ => rfl⟩ (fun hHeld => ?_)
            refine drawnZ_take (i := 0) (v := .pointer (some ⟨n0, 0, none⟩)) (some 63) rfl (by kernel_rfl) rfl (by kernel_rfl) (by kernel_rfl) (by kernel_rfl) (fun _ _ _ h => h) (Or.inl ⟨by kernel_rfl, fun wq hw => by go_simp⟩) hHeld ?_
            simp only [Act.put, List.setIfInBounds_toArray, List.set_cons_succ, List.set_cons_zero]
            refine drawnZ_take (i := 1) (v := .pointer (some ⟨n0, 0, none⟩)) (some 64) rfl (by kernel_rfl) rfl (by kernel_rfl) (by kernel_rfl) (by kernel_rfl) (fun _ _ _ h => h) (Or.inl ⟨by kernel_rfl, fun wq hw => by go_simp⟩) hHeld ?_
            simp only [Act.put, List.setIfInBounds_toArray, List.set_cons_succ, List.set_cons_zero]
            refine drawnZ_take (i := 2) (v := .pointer (some ⟨n0, 0, none⟩)) (some 65) rfl (by kernel_rfl) rfl (by kernel_rfl) (by kernel_rfl) (by kernel_rfl) (fun _ _ _ h => h) (Or.inl ⟨by kernel_rfl, fun wq hw => by go_simp⟩) hHeld ?_
            simp only [Act.put, List.setIfInBounds_toArray, List.set_cons_succ, List.set_cons_zero]
            refine drawnZ_take (i := 3) (v := .pointer (some ⟨n0, 1, none⟩)) (some 66) rfl (by kernel_rfl) rfl (by kernel_rfl) (by kernel_rfl) (by kernel_rfl) (fun _ _ _ h => h) (Or.inl ⟨by kernel_rfl, fun wq hw => by go_simp⟩) hHeld ?_
            simp only [Act.put, List.setIfInBounds_toArray, List.set_cons_succ, List.set_cons_zero]
            refine drawnZ_take (i := 4) (v := .slice fa' k fc') (some 67) rfl (by kernel_rfl) rfl (by kernel_rfl) (by kernel_rfl) (by kernel_rfl) (fun _ _ _ h => h) (Or.inl ⟨by kernel_rfl, fun wq hw => by have q := L67 wq hw; go_simp⟩) hHeld ?_
            simp only [Act.put, List.setIfInBounds_toArray, List.set_cons_succ, List.set_cons_zero]
            refine drawnZ_take (i := 5) (v := .agg #[.string nm, .slice (some ⟨g6, 0, none⟩) i c6]) (some 68) rfl (by kernel_rfl) rfl (by kernel_rfl) (by kernel_rfl) (by kernel_rfl) (fun _ _ _ h => h) (Or.inl ⟨by kernel_rfl, fun wq hw => ldf_run (x := .tmp 6) rfl (by kernel_rfl) (h6 wq hw)⟩) hHeld ?_
            simp only [Act.put, List.setIfInBounds_toArray, List.set_cons_succ, List.set_cons_zero]
            refine wpAnyZ_ready (rs := [6]) (by kernel_rfl) (by simp) ?_
            obtain ⟨Wd, hWd⟩ : ∃ Wd, Wd = wi.drew := ⟨_, rfl⟩
            have hd0 : wi.grownBy Wd none := by rw [hWd]; exact ⟨rfl, rfl, rfl, Nat.le_refl _, fun _ _ _ => rfl⟩
            rw [← hWd]
            clear hWd
            refine rdyZ_val (i := 6) rfl rfl (some 69) rfl (.slice (some ⟨Wd.heap.size, 0, none⟩) 1 1) (Wd.alloc (.cells #[.string nm, .slice (some ⟨g6, 0, none⟩) i c6] 55)) (bs1g_run (x := .tmp 68) rfl (by kernel_rfl)) (grown_any (grown_new hd0)) (fun _ => ?_) rdyZ_nil
            simp only [Act.put, List.setIfInBounds_toArray, List.set_cons_succ, List.set_cons_zero]
            have he := heap_alloc_new Wd (.cells #[.string nm, .slice (some ⟨g6, 0, none⟩) i c6] 55)
            have hg1 : wi.grownBy (Wd.alloc (.cells #[.string nm, .slice (some ⟨g6, 0, none⟩) i c6] 55)) none := grown_new hd0
            obtain ⟨b69, hb69⟩ : ∃ b, b = Wd.heap.size := ⟨_, rfl⟩
            obtain ⟨W1, hW1⟩ : ∃ W', W' = Wd.alloc (.cells #[.string nm, .slice (some ⟨g6, 0, none⟩) i c6] 55) := ⟨_, rfl⟩
            rw [← hW1] at hg1
            rw [← hb69, ← hW1] at he
            rw [← hb69, ← hW1]
            clear hW1 hb69
            refine wpAnyZ_ready (rs := [7]) (by kernel_rfl) (by simp) ?_
            obtain ⟨ga, gc, W2, hr, ho2, hg2⟩ := appFl W1 w.heap.size fa' k fc' (cellsR R') (own_grown0 hofi hg1) (Nat.le_trans hws hg1.size) (some ⟨b69, 0, none⟩) 1 1 [.string nm, .slice (some ⟨g6, 0, none⟩) i c6] (by omega) (srcG he) (k + 1) rfl (by omega)
            have hS2 : wi.grownBy W2 vf.ownBlock := by rw [HVF.out]; exact grown_last hg1 hg2
            refine rdyZ_val (i := 7) rfl rfl (some 70) rfl (.slice ga (k + 1) gc) W2 (app_run3 (x := .tmp 67) (y := .tmp 69) rfl (by kernel_rfl) (by kernel_rfl) hr) hS2 (fun _ => ?_) rdyZ_nil
            simp only [Act.put, List.setIfInBounds_toArray, List.set_cons_succ, List.set_cons_zero]
            refine wpAnyZ_ready (rs := [8]) (by kernel_rfl) (by simp) ?_
            refine rdyZ_val (i := 8) rfl rfl (some 71) rfl (.pointer (some ⟨n0, 0, none⟩)) W2 (by go_simp) hS2 (fun _ => ?_) rdyZ_nil
            simp only [Act.put, List.setIfInBounds_toArray, List.set_cons_succ, List.set_cons_zero]
            refine wpAnyZ_ready (rs := [9]) (by kernel_rfl) (by simp) ?_
            refine rdyZ_val (i := 9) rfl rfl (some 72) rfl (.pointer (some ⟨n0, 1, none⟩)) W2 (by go_simp) hS2 (fun _ => ?_) rdyZ_nil
            simp only [Act.put, List.setIfInBounds_toArray, List.set_cons_succ, List.set_cons_zero]
            refine wpAnyZ_ready (rs := [10]) (by kernel_rfl) (by simp) ?_
            have hcf := L67 W2 hS2
            have hfz := frozen_of_row _ _ 1 _ _ ((h0 W2 hS2).trans E0)
            refine rdyZ_last (z := 10) rfl rfl rfl (W2.setCell ⟨n0, 1, none⟩ (.slice ga (k + 1) gc)) (by go_simp) ?_
            simp only [Act.put]
            refine wpAnyZ_done (by kernel_rfl) ?_ _
            refine NoPanic.normal ?_
            exact ⟨rfl, _, ⟨b69, ga, gc, W2, rfl, rfl, hS2, ho2⟩, by kernel_rfl⟩
          · rintro li w' ⟨b69, ga, gc, W8, rfl, hw8, hG8, ho8⟩
            have hne6 : ∀ b, b ≠ n0 → w'.heap[b]? = W8.heap[b]? := fun b hb => by rw [hw8]; exact Below.heap_setCell W8 ⟨n0, 1, none⟩ _ b hb
            have hsz : w'.heap.size = W8.heap.size := by rw [hw8]; simp
            have hE0 : w'.heap[n0]? = some (.cells #[.int .i64 room, .slice ga (k + 1) gc, .int .i64 fuse] 52 (0, 0)) := by rw [hw8]; exact setR3 ((h0 W8 hG8).trans E0) _
            have hn0 : ∀ {v : Value} {base ee size n : Nat} {xs : List Value}, W8.ownsRow base ee size v n xs → ee ≠ 52 → w'.ownsRow base ee size v n xs := fun {v base ee size n xs} hx hne => own_other hx (fun g hg => hne6 g (own_ne hx hg ((h0 W8 hG8).trans E0) hne))
            have hmv : ∀ {q : Nat × Nat} {zs : List Nat}, Im wi q zs → Im w' q zs := fun {q zs} hq => hn0 (im_grown hq hG8 (fun e => by rw [HVF.out] at e; exact own_ne2 hq hofi rfl e.symm (by decide) rfl)) (by decide)
            have hrow8 : w'.ownsRow 0 57 5 (.slice (some ⟨g6, 0, none⟩) i c6) i (cellsC L) := by
              have q := own_base HNR.out.own
              rw [HNR.out.len] at q
              exact hn0 (own_grown q hG8 (.inl (fun e => by rw [HVF.out] at e; exact own_ne2 q hofi rfl e.symm (by decide) rfl))) (by decide)
            have hg6 := HNR.out.own.lt g6 rfl
            have hxs : L.map Yc.x = f.l.map Yc.x := by have q := HNR.out.xs; rwa [HFE.out.2.2, List.take_length] at q
            have hil : i = L.length := HNR.out.len.symm
            have hwo1 : wo.heap.size ≤ n1 := by rw [HN1.out]; exact HX1.out.size
            have hsz8 : wi.heap.size ≤ w'.heap.size := by rw [hsz]; exact hG8.size
            have hwob : w.heap.size ≤ wo.heap.size := HB.out.size
            have hFin : Hid (∃ (fa' : Option Addr) (fc' : Nat) (R' : List Yf) (F' : Nat → Prop), RyOf w' n0 F' fa' fc' R' room fuse ∧ R'.map keyY = (R.take (k + 1)).map keyY ∧ ∀ b, F' b → w.heap.size ≤ b ∧ b < w'.heap.size) := hidn (by
              refine ⟨ga, gc, R' ++ [⟨nm, g6, c6, L⟩], fun b => F' b ∨ (w.heap.size ≤ b ∧ b < w'.heap.size), HRI.out.files4 ⟨nm, g6, c6, L⟩ (by rw [HFE.out.1]; exact HOK.out.1) (fun (e0 : L = []) => by rw [e0] at hil; simp at hil; omega) ga gc (by rw [HRL.out]; exact hE0) ?_ (by show w'.ownsRow 0 _ 5 (.slice (some ⟨g6, 0, none⟩) L.length c6) L.length (cellsC L); rw [← hil]; exact hrow8) (fun c hc => ?_) (fun b hb hby hbf => ?_) (fun b hb => .inl hb) (fun x hx => .inr ?_) (.inr ⟨by show w.heap.size ≤ g6; omega, by show g6 < w'.heap.size; omega⟩) (fun hb => by have := (HFP.out g6 hb).2; omega), ?_, fun b hb => ?_⟩
              · have he2 : cellsR (R' ++ [⟨nm, g6, c6, L⟩]) = cellsR R' ++ [.string nm, .slice (some ⟨g6, 0, none⟩) i c6] := by simp [cellsR, Yf.cells, Yf.row, hil]
                rw [he2, HRL.out]
                exact own_base (hn0 ho8 (Ne.symm tyDF.1))
              · obtain ⟨a0, a1, a2, a3⟩ := HNR.out.ims c hc
                obtain ⟨b0, b1, b2, b3⟩ := HNR.out.fi c hc
                have hcx : c.x ∈ f.l.map Yc.x := by rw [← hxs]; exact List.mem_map_of_mem hc
                obtain ⟨c', hc', ec⟩ := List.mem_map.1 hcx
                have z := fun {q : Nat × Nat} {zs : List Nat} (hq : Im wi q zs) => own_lt hq q.1 rfl
                have z0 := z a0; have z1 := z a1; have z2 := z a2; have z3 := z a3
                exact ⟨⟨hmv a0, hmv a1, hmv a2, hmv a3⟩, by rw [← ec]; exact HOK.out.2.2 c' hc', .inr ⟨by omega, by omega⟩, .inr ⟨by omega, by omega⟩, .inr ⟨by omega, by omega⟩, .inr ⟨by omega, by omega⟩⟩
              · rw [hne6 b hby]
                refine hG8.block b (Nat.lt_of_lt_of_le (HFP.out b hb).2 HLW.out.size) (fun e => ?_)
                rw [HVF.out] at e
                rw [HRL.out] at hbf
                exact hbf e.symm
              · rw [List.map_append, HKR.out, List.take_add_one, List.map_append, HFK.out]
                simp [keyY, hxs, HFE.out.1]
              · rcases hb with hb | hb
                · have q := HFP.out b hb; have := HLW.out.size; exact ⟨q.1, by omega⟩
                · exact hb
              · have q := (ho8.lt x.block (by subst hx; rfl))
                exact ⟨q.1, by omega⟩)
            have hBn : Below w.heap.size w w' := by
              have q := (HB.out.trans (HLW.out.mono HB.out.size)).grown hG8 hws (fun b hb => (nfo b hb).1)
              rw [hw8]
              exact q.setCell (p := ⟨n0, 1, none⟩) (by show w.heap.size ≤ n0; exact HN0.out) _
            have HFin := hFin
            have HBn := hidn hBn
            clear hne6 hsz hE0 hn0 hmv hrow8 hg6 hxs hil hwo1 hsz8 hwob hFin hBn hw8 hG8 ho8 L67 h0 h6 E0 nf0 nf6 nfo hofi
            simp only [putAll, List.foldl, Act.put, List.setIfInBounds_toArray, List.set_cons_succ, List.set_cons_zero]
            go_wp2_with fail
            exact ⟨⟨k + 1, by omega, by simp, HFin, HBn⟩, by simp [intOf]; omega⟩
    · have hlt2 : ¬ (k : Int) < (N : Int) := by omega
      obtain rfl : k = N := by omega
      obtain ⟨fa', fc', R', F', hR', hkR, hF'⟩ := HI.out
      rw [HNN.out, List.take_length] at hkR
      have HZ := hidn (And.intro hR' (And.intro hkR (And.intro hF' HB.out)))
      clear hR' hkR hF' HI HB
      go_wp2_with fail
      exact bodyPost_ret (v := .pointer (some ⟨n0, 0, none⟩)) (by simp [results, Try.results6, go_sem]) rfl ⟨n0, rfl, fa', fc', R', F', HZ.out.1, HZ.out.2.1, HZ.out.2.2.1, HZ.out.2.2.2⟩
end Go.Proofs.Ytocfbokgbpaneaa
