/- A step done on two disks that hold the same plain state: the same answer, the same plain state. -/
import Derived.Test.YtocfbokgbpaneaaMo
namespace Go.Proofs.Ytocfbokgbpaneaa
open Go.RowKit Go.Maps
set_option linter.unusedVariables false

/-- A write at any name, place and bytes. -/
def wrI (st : St) (nm : List UInt8) (len : Nat) (i : Int) (zs : List Nat) : St × Int := if nameB nm = false ∨ len ≠ 128 ∨ i < 0 then (st, 1) else wrD st nm i.toNat zs

theorem write_I (w : World) (d : Nat) (F : Nat → Prop) (N : Nat) (st : St) (h : DiskS w d F N st) (s : ByteArray) (hsm : s.size ≤ maxLen) (i : Int) (a : Option Addr) (len cap : Nat) (zs : List Nat) (hB : BsF F w a len zs) {V : Vw} {room : Int} (hV : RelV V room st) (hN : N < 1000000) :
    Calls Try.prog 14 #[.pointer (some ⟨d, 0, none⟩), .string s, .int .i64 i, .slice a len cap] w (WrPost w d F (N + 1) (wrI st s.data.toList len i zs)) := by
  by_cases hc : nameB s.data.toList = false ∨ len ≠ 128 ∨ i < 0
  · refine (write_arg w d F N st.M st.free st.fuse h s hsm i _ (hidn rfl) a len cap (by rcases hc with h | h | h; exact .inl h; exact .inr (.inl h); exact .inr (.inr (.inl h)))).mono ?_
    rintro e w' ⟨rfl, rfl⟩
    have e1 : wrI st s.data.toList len i zs = (st, 1) := by unfold wrI; rw [if_pos hc]
    rw [e1]
    exact ⟨rfl, F, DiskOf.mono h (by omega), Gr.refl _ _⟩
  · have e1 : wrI st s.data.toList len i zs = wrD st s.data.toList i.toNat zs := by unfold wrI; rw [if_neg hc]
    rw [e1]
    simp only [not_or, Bool.not_eq_false, Decidable.not_not, Int.not_lt] at hc
    obtain ⟨h1, rfl, h3⟩ := hc
    obtain ⟨b, off, rfl, _⟩ := hB.1.pos (by omega)
    obtain ⟨j, rfl⟩ : ∃ j : Nat, i = (j : Int) := ⟨i.toNat, by omega⟩
    rw [Int.toNat_natCast]
    have hl := hV.len s.data.toList
    exact write_sto w d F N st h s h1 j _ (hidn rfl) b off cap zs hB hV.fuse0 hV.fuse1 (by omega) (by unfold maxLen; omega) hV.free0 (by have := hV.free1; omega)

theorem writeY_I (w : World) (y : Nat) (F : Nat → Prop) (room : Int) (st : St) (h : DiskY w y F room st) (hF : ∀ k, F k → k < w.heap.size) (s : ByteArray) (hsm : s.size ≤ maxLen) (i : Int) (a : Option Addr) (len cap : Nat) (zs : List Nat) (hB : BsF F w a len zs) :
    Calls Try.prog 16 #[.pointer (some ⟨y, 0, none⟩), .string s, .int .i64 i, .slice a len cap] w (YPost w y F room (wrI st s.data.toList len i zs)) := by
  by_cases hc : nameB s.data.toList = false ∨ len ≠ 128 ∨ i < 0
  · obtain ⟨fa, fc, R, hR, hV⟩ := h
    refine (writeY_arg w y F fa fc R room st.fuse hR hF s hsm hV.short.1 i _ (hidn rfl) a len cap hB.1.2.1 (by rcases hc with h | h | h; exact .inl h; exact .inr (.inl h); exact .inr (.inr (.inl h)))).mono ?_
    rintro e w' ⟨rfl, hb⟩
    have e1 : wrI st s.data.toList len i zs = (st, 1) := by unfold wrI; rw [if_pos hc]
    rw [e1]
    exact ⟨rfl, F, ⟨fa, fc, R, hR.below hF hb, hV⟩, Gr.of (Keeps.of_below hb)⟩
  · have e1 : wrI st s.data.toList len i zs = wrD st s.data.toList i.toNat zs := by unfold wrI; rw [if_neg hc]
    rw [e1]
    simp only [not_or, Bool.not_eq_false, Decidable.not_not, Int.not_lt] at hc
    obtain ⟨h1, rfl, h3⟩ := hc
    obtain ⟨b, off, rfl, _⟩ := hB.1.pos (by omega)
    obtain ⟨j, rfl⟩ : ∃ j : Nat, i = (j : Int) := ⟨i.toNat, by omega⟩
    rw [Int.toNat_natCast]
    exact writeY_st w y F room st h hF s h1 j b off cap zs hB

theorem mod7 (op : Int) (h : -9223372036854775808 ≤ op ∧ op ≤ 9223372036854775807) : 0 ≤ wrap64 ((IntKind.u64.wrap op).tmod 7) ∧ wrap64 ((IntKind.u64.wrap op).tmod 7) < 7 := by
  have h1 : 0 ≤ IntKind.u64.wrap op := by
    unfold IntKind.wrap
    simp only [IntKind.signed, Bool.false_and, Bool.false_eq_true, if_false]
    exact Int.emod_nonneg _ (by simp [IntKind.bits])
  have h2 : 0 ≤ (IntKind.u64.wrap op).tmod 7 := Int.tmod_nonneg _ h1
  have h3 : (IntKind.u64.wrap op).tmod 7 < 7 := Int.tmod_lt_of_pos _ (by omega)
  generalize (IntKind.u64.wrap op).tmod 7 = x at *
  unfold wrap64
  omega

def DoPost (W0 : World) (d N y : Nat) (room : Int) (e : Ending) (w' : World) : Prop := e = .returned (.bool true) ∧ ∃ st', Two W0 w' d (N + 1) y room st'

def DoPostU (W0 w : World) (d N y : Nat) (room : Int) (U : Nat → Prop) (e : Ending) (w' : World) : Prop := e = .returned (.bool true) ∧ ∃ st' U', TwX W0 w' d (N + 1) y room st' st' U' ∧ Gr U U' w w'

/-- What came in lies in neither disk. -/
theorem bsf_of {W0 w : World} {F : Nat → Prop} {a : Option Addr} {len : Nat} {zs : List Nat} (h : Bs W0 a len zs) (hb : Below W0.heap.size W0 w) (hF : ∀ k, F k → W0.heap.size ≤ k ∧ k < w.heap.size) : BsF F w a len zs := by
  refine ⟨h.below hb, fun x hx hl hf => ?_⟩
  have e : (x.add 0).block = x.block := by unfold Addr.add; split <;> rfl
  have := block_lt_of_cell (h.2.2.2.2 x hx 0 hl)
  have := (hF _ hf).1
  omega

theorem kps_far {W0 w : World} {F : Nat → Prop} {a : Option Addr} {len : Nat} {ks : List Kp} (h : Kps W0 a len ks) (hF : ∀ k, F k → W0.heap.size ≤ k ∧ k < w.heap.size) : ∀ x, a = some x → 0 < len → ¬ F x.block := by
  intro x hx hl hf
  have e : (x.add 0).block = x.block := by unfold Addr.add; split <;> rfl
  obtain ⟨k, hk⟩ : ∃ k, ks[0]? = some k := ⟨_, List.getElem?_eq_getElem (by rw [h.1]; exact hl)⟩
  have h1 := (h.2.2.2.2 x hx 0 k hk).1
  have := block_lt_of_cell h1
  rw [Nat.zero_mul, e] at this
  have := (hF _ hf).1
  omega

theorem tw_Write {o : Oper} {a : Act} {w : World} {ts : Array TypeId} {x0 x1 x2 x3 : Nat} {v0 v1 v2 v3 : Value} (ho : o.op = Op.call { callee := Callee.value (Operand.func 14), args := #[.tmp x0, .tmp x1, .tmp x2, .tmp x3], argTypes := ts }) (hx0 : a.eval (.tmp x0) = v0) (hx1 : a.eval (.tmp x1) = v1) (hx2 : a.eval (.tmp x2) = v2) (hx3 : a.eval (.tmp x3) = v3) : (execOp a.eval o).run Try.prog w = .ok (.enter 14 #[v0, v1, v2, v3]) w := by
  simp [go_sem, execOp, ho, resolve, invoke]
  exact ⟨by simpa [Act.eval] using hx0, by simpa [Act.eval] using hx1, by simpa [Act.eval] using hx2, by simpa [Act.eval] using hx3⟩

theorem twy_Write {o : Oper} {a : Act} {w : World} {ts : Array TypeId} {x0 x1 x2 x3 : Nat} {v0 v1 v2 v3 : Value} (ho : o.op = Op.call { callee := Callee.value (Operand.func 16), args := #[.tmp x0, .tmp x1, .tmp x2, .tmp x3], argTypes := ts }) (hx0 : a.eval (.tmp x0) = v0) (hx1 : a.eval (.tmp x1) = v1) (hx2 : a.eval (.tmp x2) = v2) (hx3 : a.eval (.tmp x3) = v3) : (execOp a.eval o).run Try.prog w = .ok (.enter 16 #[v0, v1, v2, v3]) w := by
  simp [go_sem, execOp, ho, resolve, invoke]
  exact ⟨by simpa [Act.eval] using hx0, by simpa [Act.eval] using hx1, by simpa [Act.eval] using hx2, by simpa [Act.eval] using hx3⟩

theorem tw_Sync {o : Oper} {a : Act} {w : World} {ts : Array TypeId} {x0 x1 : Nat} {v0 v1 : Value} (ho : o.op = Op.call { callee := Callee.value (Operand.func 17), args := #[.tmp x0, .tmp x1], argTypes := ts }) (hx0 : a.eval (.tmp x0) = v0) (hx1 : a.eval (.tmp x1) = v1) : (execOp a.eval o).run Try.prog w = .ok (.enter 17 #[v0, v1]) w := by
  simp [go_sem, execOp, ho, resolve, invoke]
  exact ⟨by simpa [Act.eval] using hx0, by simpa [Act.eval] using hx1⟩

theorem twy_Sync {o : Oper} {a : Act} {w : World} {ts : Array TypeId} {x0 x1 : Nat} {v0 v1 : Value} (ho : o.op = Op.call { callee := Callee.value (Operand.func 18), args := #[.tmp x0, .tmp x1], argTypes := ts }) (hx0 : a.eval (.tmp x0) = v0) (hx1 : a.eval (.tmp x1) = v1) : (execOp a.eval o).run Try.prog w = .ok (.enter 18 #[v0, v1]) w := by
  simp [go_sem, execOp, ho, resolve, invoke]
  exact ⟨by simpa [Act.eval] using hx0, by simpa [Act.eval] using hx1⟩

theorem tw_Remove {o : Oper} {a : Act} {w : World} {ts : Array TypeId} {x0 x1 : Nat} {v0 v1 : Value} (ho : o.op = Op.call { callee := Callee.value (Operand.func 19), args := #[.tmp x0, .tmp x1], argTypes := ts }) (hx0 : a.eval (.tmp x0) = v0) (hx1 : a.eval (.tmp x1) = v1) : (execOp a.eval o).run Try.prog w = .ok (.enter 19 #[v0, v1]) w := by
  simp [go_sem, execOp, ho, resolve, invoke]
  exact ⟨by simpa [Act.eval] using hx0, by simpa [Act.eval] using hx1⟩

theorem twy_Remove {o : Oper} {a : Act} {w : World} {ts : Array TypeId} {x0 x1 : Nat} {v0 v1 : Value} (ho : o.op = Op.call { callee := Callee.value (Operand.func 20), args := #[.tmp x0, .tmp x1], argTypes := ts }) (hx0 : a.eval (.tmp x0) = v0) (hx1 : a.eval (.tmp x1) = v1) : (execOp a.eval o).run Try.prog w = .ok (.enter 20 #[v0, v1]) w := by
  simp [go_sem, execOp, ho, resolve, invoke]
  exact ⟨by simpa [Act.eval] using hx0, by simpa [Act.eval] using hx1⟩

theorem tw_Rot {o : Oper} {a : Act} {w : World} {ts : Array TypeId} {x0 x1 x2 x3 x4 : Nat} {v0 v1 v2 v3 v4 : Value} (ho : o.op = Op.call { callee := Callee.value (Operand.func 21), args := #[.tmp x0, .tmp x1, .tmp x2, .tmp x3, .tmp x4], argTypes := ts }) (hx0 : a.eval (.tmp x0) = v0) (hx1 : a.eval (.tmp x1) = v1) (hx2 : a.eval (.tmp x2) = v2) (hx3 : a.eval (.tmp x3) = v3) (hx4 : a.eval (.tmp x4) = v4) : (execOp a.eval o).run Try.prog w = .ok (.enter 21 #[v0, v1, v2, v3, v4]) w := by
  simp [go_sem, execOp, ho, resolve, invoke]
  exact ⟨by simpa [Act.eval] using hx0, by simpa [Act.eval] using hx1, by simpa [Act.eval] using hx2, by simpa [Act.eval] using hx3, by simpa [Act.eval] using hx4⟩

theorem twy_Rot {o : Oper} {a : Act} {w : World} {ts : Array TypeId} {x0 x1 x2 x3 x4 : Nat} {v0 v1 v2 v3 v4 : Value} (ho : o.op = Op.call { callee := Callee.value (Operand.func 22), args := #[.tmp x0, .tmp x1, .tmp x2, .tmp x3, .tmp x4], argTypes := ts }) (hx0 : a.eval (.tmp x0) = v0) (hx1 : a.eval (.tmp x1) = v1) (hx2 : a.eval (.tmp x2) = v2) (hx3 : a.eval (.tmp x3) = v3) (hx4 : a.eval (.tmp x4) = v4) : (execOp a.eval o).run Try.prog w = .ok (.enter 22 #[v0, v1, v2, v3, v4]) w := by
  simp [go_sem, execOp, ho, resolve, invoke]
  exact ⟨by simpa [Act.eval] using hx0, by simpa [Act.eval] using hx1, by simpa [Act.eval] using hx2, by simpa [Act.eval] using hx3, by simpa [Act.eval] using hx4⟩

theorem tw_Crash {o : Oper} {a : Act} {w : World} {ts : Array TypeId} {x0 x1 : Nat} {v0 v1 : Value} (ho : o.op = Op.call { callee := Callee.value (Operand.func 23), args := #[.tmp x0, .tmp x1], argTypes := ts }) (hx0 : a.eval (.tmp x0) = v0) (hx1 : a.eval (.tmp x1) = v1) : (execOp a.eval o).run Try.prog w = .ok (.enter 23 #[v0, v1]) w := by
  simp [go_sem, execOp, ho, resolve, invoke]
  exact ⟨by simpa [Act.eval] using hx0, by simpa [Act.eval] using hx1⟩

theorem twy_Crash {o : Oper} {a : Act} {w : World} {ts : Array TypeId} {x0 x1 : Nat} {v0 v1 : Value} (ho : o.op = Op.call { callee := Callee.value (Operand.func 24), args := #[.tmp x0, .tmp x1], argTypes := ts }) (hx0 : a.eval (.tmp x0) = v0) (hx1 : a.eval (.tmp x1) = v1) : (execOp a.eval o).run Try.prog w = .ok (.enter 24 #[v0, v1]) w := by
  simp [go_sem, execOp, ho, resolve, invoke]
  exact ⟨by simpa [Act.eval] using hx0, by simpa [Act.eval] using hx1⟩

theorem tw_Fuse {o : Oper} {a : Act} {w : World} {ts : Array TypeId} {x0 x1 : Nat} {v0 v1 : Value} (ho : o.op = Op.call { callee := Callee.value (Operand.func 25), args := #[.tmp x0, .tmp x1], argTypes := ts }) (hx0 : a.eval (.tmp x0) = v0) (hx1 : a.eval (.tmp x1) = v1) : (execOp a.eval o).run Try.prog w = .ok (.enter 25 #[v0, v1]) w := by
  simp [go_sem, execOp, ho, resolve, invoke]
  exact ⟨by simpa [Act.eval] using hx0, by simpa [Act.eval] using hx1⟩

theorem twy_Fuse {o : Oper} {a : Act} {w : World} {ts : Array TypeId} {x0 x1 : Nat} {v0 v1 : Value} (ho : o.op = Op.call { callee := Callee.value (Operand.func 26), args := #[.tmp x0, .tmp x1], argTypes := ts }) (hx0 : a.eval (.tmp x0) = v0) (hx1 : a.eval (.tmp x1) = v1) : (execOp a.eval o).run Try.prog w = .ok (.enter 26 #[v0, v1]) w := by
  simp [go_sem, execOp, ho, resolve, invoke]
  exact ⟨by simpa [Act.eval] using hx0, by simpa [Act.eval] using hx1⟩

theorem tw_Full {o : Oper} {a : Act} {w : World} {ts : Array TypeId} {x0 : Nat} {v0 : Value} (ho : o.op = Op.call { callee := Callee.value (Operand.func 13), args := #[.tmp x0], argTypes := ts }) (hx0 : a.eval (.tmp x0) = v0) : (execOp a.eval o).run Try.prog w = .ok (.enter 13 #[v0]) w := by
  simp [go_sem, execOp, ho, resolve, invoke]
  simpa [Act.eval] using hx0

set_option maxHeartbeats 8000000 in
set_option maxRecDepth 100000 in
theorem do_1 (W0 w : World) (d N y : Nat) (room : Int) (st : St) (U : Nat → Prop) (h : TwX W0 w d N y room st st U) (hN : N < 1000000) (op si at2 n3 : Int) (nm : ByteArray) (sa : Option Addr) (sl sc : Nat) (zs : List Nat) (mk : Nat) (hmk : mk < 256) (ka : Option Addr) (kl kc : Nat) (ks : List Kp) (hnm : nm.size ≤ maxLen) (hB : Bs W0 sa sl zs) (hK : Kps W0 ka kl ks) (hn3 : n3 ≤ 9223372036854775807) (hq : wrap64 ((IntKind.u64.wrap op).tmod 7) = 1) :
    Calls Try.prog 7 #[.agg #[.int .i64 op, .int .i64 si, .int .i64 at2, .int .i64 n3, .string nm, .slice sa sl sc, .int .u8 (mk : Int), .slice ka kl kc], .pointer (some ⟨d, 0, none⟩), .pointer (some ⟨y, 0, none⟩)] w (DoPostU W0 w d N y room U) := by
  have t0 : ((1 : Int) == 0) = false := by decide
  have HT := hidn h
  have HB := hidn hB
  have HK := hidn hK
  have HN := hidn hnm
  clear h hB hK hnm
  go_enter Try.func7, Try.ntmps7
  go_wp2_with fail
  clear hq t0
  obtain ⟨hW, Fd, Fy, hD, hY, hFd, hFy, hX, hUd, hUy⟩ := HT.out
  obtain ⟨V, hV⟩ := HT.out.rel
  obtain ⟨wd, hwd⟩ : ∃ wd, wd = (w.alloc (.cells #[.int .i64 op, .int .i64 si, .int .i64 at2, .int .i64 n3, .string nm, .slice sa sl sc, .int .u8 (mk : Int), .slice ka kl kc] 32)).drew := ⟨_, rfl⟩
  have hbw : Below w.heap.size w wd := by rw [hwd]; exact ((Below.refl _ _).alloc (Nat.le_refl _) _).drew
  have hbox : wd.heap[w.heap.size]? = some (.cells #[.int .i64 op, .int .i64 si, .int .i64 at2, .int .i64 n3, .string nm, .slice sa sl sc, .int .u8 (mk : Int), .slice ka kl kc] 32 (0, 0)) := by rw [hwd]; exact heap_alloc_new _ _
  have hsz : w.heap.size < wd.heap.size := (Array.getElem?_eq_some_iff.1 hbox).1
  have hnd : ¬ Fd w.heap.size := fun hf => Nat.lt_irrefl _ (hFd _ hf).2
  have hny : ¬ Fy w.heap.size := fun hf => Nat.lt_irrefl _ (hFy _ hf).2
  have hD1 : DiskS wd d Fd N st := hD.below hbw
  have hY1 : DiskY wd y Fy room st := hY.below (fun k hk => (hFy k hk).2) hbw
  have hW1 : Below W0.heap.size W0 wd := hW.trans (hbw.mono hW.size)
  have hFd1 : ∀ k, Fd k → W0.heap.size ≤ k ∧ k < wd.heap.size := fun k hk => ⟨(hFd k hk).1, by have := (hFd k hk).2; omega⟩
  have hFy1 : ∀ k, Fy k → W0.heap.size ≤ k ∧ k < wd.heap.size := fun k hk => ⟨(hFy k hk).1, by have := (hFy k hk).2; omega⟩
  obtain ⟨r, hr⟩ : ∃ r, r = wrI st nm.data.toList sl si zs := ⟨_, rfl⟩
  refine wp_region_noPanic ?_
  refine wp_region_held_drew (S := fun w' => w'.heap[w.heap.size]? = some (.cells #[.int .i64 op, .int .i64 si, .int .i64 at2, .int .i64 n3, .string nm, .slice sa sl sc, .int .u8 (mk : Int), .slice ka kl kc] 32 (0, 0))) (by kernel_rfl) (by rw [← hwd]; exact hbox) (fun hHeld => ?_)
  rw [← hwd] at hHeld ⊢
  clear hwd hbox
  refine drawn_take (i := 0) (v := .pointer (some ⟨d, 0, none⟩)) (some 40) rfl rfl (by kernel_rfl) (by kernel_rfl) (by kernel_rfl) (fun _ _ _ h => h) (Or.inl ⟨by kernel_rfl, fun wq hw => by go_simp⟩) hHeld ?_
  simp only [Act.put, List.setIfInBounds_toArray, List.set_cons_succ, List.set_cons_zero]
  refine drawn_take (i := 1) (v := .pointer (some ⟨w.heap.size, 4, none⟩)) (some 41) rfl rfl (by kernel_rfl) (by kernel_rfl) (by kernel_rfl) (fun _ _ _ h => h) (Or.inl ⟨by kernel_rfl, fun wq hw => by go_simp⟩) hHeld ?_
  simp only [Act.put, List.setIfInBounds_toArray, List.set_cons_succ, List.set_cons_zero]
  refine drawn_take (i := 2) (v := .string nm) (some 42) rfl rfl (by kernel_rfl) (by kernel_rfl) (by kernel_rfl) (fun _ _ _ h => h) (Or.inl ⟨by kernel_rfl, fun wq hw => by have q : wq.cell? ⟨w.heap.size, 4, none⟩ = some (.string nm) := cell_of_row _ _ _ _ _ _ hw; go_simp⟩) hHeld ?_
  simp only [Act.put, List.setIfInBounds_toArray, List.set_cons_succ, List.set_cons_zero]
  refine drawn_take (i := 3) (v := .pointer (some ⟨w.heap.size, 1, none⟩)) (some 43) rfl rfl (by kernel_rfl) (by kernel_rfl) (by kernel_rfl) (fun _ _ _ h => h) (Or.inl ⟨by kernel_rfl, fun wq hw => by go_simp⟩) hHeld ?_
  simp only [Act.put, List.setIfInBounds_toArray, List.set_cons_succ, List.set_cons_zero]
  refine drawn_take (i := 4) (v := .int .i64 si) (some 44) rfl rfl (by kernel_rfl) (by kernel_rfl) (by kernel_rfl) (fun _ _ _ h => h) (Or.inl ⟨by kernel_rfl, fun wq hw => by have q : wq.cell? ⟨w.heap.size, 1, none⟩ = some (.int .i64 si) := cell_of_row _ _ _ _ _ _ hw; go_simp⟩) hHeld ?_
  simp only [Act.put, List.setIfInBounds_toArray, List.set_cons_succ, List.set_cons_zero]
  refine drawn_take (i := 5) (v := .pointer (some ⟨w.heap.size, 5, none⟩)) (some 45) rfl rfl (by kernel_rfl) (by kernel_rfl) (by kernel_rfl) (fun _ _ _ h => h) (Or.inl ⟨by kernel_rfl, fun wq hw => by go_simp⟩) hHeld ?_
  simp only [Act.put, List.setIfInBounds_toArray, List.set_cons_succ, List.set_cons_zero]
  refine drawn_take (i := 6) (v := .slice sa sl sc) (some 46) rfl rfl (by kernel_rfl) (by kernel_rfl) (by kernel_rfl) (fun _ _ _ h => h) (Or.inl ⟨by kernel_rfl, fun wq hw => by have q : wq.cell? ⟨w.heap.size, 5, none⟩ = some (.slice sa sl sc) := cell_of_row _ _ _ _ _ _ hw; go_simp⟩) hHeld ?_
  simp only [Act.put, List.setIfInBounds_toArray, List.set_cons_succ, List.set_cons_zero]
  refine drawn_take (i := 8) (v := .pointer (some ⟨y, 0, none⟩)) (some 48) rfl rfl (by kernel_rfl) (by kernel_rfl) (by kernel_rfl) (fun _ _ _ h => h) (Or.inl ⟨by kernel_rfl, fun wq hw => by go_simp⟩) hHeld ?_
  simp only [Act.put, List.setIfInBounds_toArray, List.set_cons_succ, List.set_cons_zero]
  refine drawn_take (i := 9) (v := .pointer (some ⟨w.heap.size, 4, none⟩)) (some 49) rfl rfl (by kernel_rfl) (by kernel_rfl) (by kernel_rfl) (fun _ _ _ h => h) (Or.inl ⟨by kernel_rfl, fun wq hw => by go_simp⟩) hHeld ?_
  simp only [Act.put, List.setIfInBounds_toArray, List.set_cons_succ, List.set_cons_zero]
  refine drawn_take (i := 10) (v := .string nm) (some 50) rfl rfl (by kernel_rfl) (by kernel_rfl) (by kernel_rfl) (fun _ _ _ h => h) (Or.inl ⟨by kernel_rfl, fun wq hw => by have q : wq.cell? ⟨w.heap.size, 4, none⟩ = some (.string nm) := cell_of_row _ _ _ _ _ _ hw; go_simp⟩) hHeld ?_
  simp only [Act.put, List.setIfInBounds_toArray, List.set_cons_succ, List.set_cons_zero]
  refine drawn_take (i := 11) (v := .pointer (some ⟨w.heap.size, 1, none⟩)) (some 51) rfl rfl (by kernel_rfl) (by kernel_rfl) (by kernel_rfl) (fun _ _ _ h => h) (Or.inl ⟨by kernel_rfl, fun wq hw => by go_simp⟩) hHeld ?_
  simp only [Act.put, List.setIfInBounds_toArray, List.set_cons_succ, List.set_cons_zero]
  refine drawn_take (i := 12) (v := .int .i64 si) (some 52) rfl rfl (by kernel_rfl) (by kernel_rfl) (by kernel_rfl) (fun _ _ _ h => h) (Or.inl ⟨by kernel_rfl, fun wq hw => by have q : wq.cell? ⟨w.heap.size, 1, none⟩ = some (.int .i64 si) := cell_of_row _ _ _ _ _ _ hw; go_simp⟩) hHeld ?_
  simp only [Act.put, List.setIfInBounds_toArray, List.set_cons_succ, List.set_cons_zero]
  refine drawn_take (i := 13) (v := .pointer (some ⟨w.heap.size, 5, none⟩)) (some 53) rfl rfl (by kernel_rfl) (by kernel_rfl) (by kernel_rfl) (fun _ _ _ h => h) (Or.inl ⟨by kernel_rfl, fun wq hw => by go_simp⟩) hHeld ?_
  simp only [Act.put, List.setIfInBounds_toArray, List.set_cons_succ, List.set_cons_zero]
  refine drawn_take (i := 14) (v := .slice sa sl sc) (some 54) rfl rfl (by kernel_rfl) (by kernel_rfl) (by kernel_rfl) (fun _ _ _ h => h) (Or.inl ⟨by kernel_rfl, fun wq hw => by have q : wq.cell? ⟨w.heap.size, 5, none⟩ = some (.slice sa sl sc) := cell_of_row _ _ _ _ _ _ hw; go_simp⟩) hHeld ?_
  simp only [Act.put, List.setIfInBounds_toArray, List.set_cons_succ, List.set_cons_zero]
  refine wpAnyH_ready (rs := [7]) (by kernel_rfl) (by simp) ?_
  refine rdy_call (i := 7) rfl rfl (some 47) rfl 14 #[.pointer (some ⟨d, 0, none⟩), .string nm, .int .i64 si, .slice sa sl sc] (tw_Write (ts := #[23, 9, 3, 29]) (x0 := 40) (x1 := 42) (x2 := 44) (x3 := 46) (by kernel_rfl) (by kernel_rfl) (by kernel_rfl) (by kernel_rfl) (by kernel_rfl)) (fun v w' => v = .int .i64 r.2 ∧ ∃ Fd', DiskS w' d Fd' (N + 1) r.1 ∧ Gr Fd Fd' wd w') ((write_I wd d Fd N st hD1 nm HN.out si sa sl sc zs (bsf_of HB.out hW1 hFd1) hV hN).mono fun e w' h => by rw [← hr] at h; obtain ⟨h1, Fd', h2, h3⟩ := h; exact ⟨_, h1, rfl, Fd', h2, h3⟩) (fun r w9 hR => ?_) rdy_nil
  obtain ⟨rfl, Fd', hD2, hG2⟩ := hR
  obtain ⟨hW2, hY2, hFd2, hFy2, hX2⟩ := Two.prog (d := d) (N := N) (N' := N) (st' := st) hW1 hFd1 hFy1 hX hY1 hG2
  have hlt8 : w.heap.size < w9.heap.size := by have := hG2.1.size; omega
  refine ⟨(hG2.1.block _ hsz hnd).trans hHeld, fun hHeld => ?_⟩
  simp only [Act.put, List.setIfInBounds_toArray, List.set_cons_succ, List.set_cons_zero]
  refine wpAnyH_ready (rs := [15]) (by kernel_rfl) (by simp) ?_
  refine rdy_call (i := 15) rfl rfl (some 55) rfl 16 #[.pointer (some ⟨y, 0, none⟩), .string nm, .int .i64 si, .slice sa sl sc] (twy_Write (ts := #[24, 9, 3, 29]) (x0 := 48) (x1 := 50) (x2 := 52) (x3 := 54) (by kernel_rfl) (by kernel_rfl) (by kernel_rfl) (by kernel_rfl) (by kernel_rfl)) (fun v w' => v = .int .i64 r.2 ∧ ∃ Fy', DiskY w' y Fy' room r.1 ∧ Gr Fy Fy' w9 w') ((writeY_I w9 y Fy room st hY2 (fun k hk => (hFy2 k hk).2) nm HN.out si sa sl sc zs (bsf_of HB.out hW2 hFy2)).mono fun e w' h => by rw [← hr] at h; obtain ⟨h1, Fy', h2, h3⟩ := h; exact ⟨_, h1, rfl, Fy', h2, h3⟩) (fun r w9 hR => ?_) rdy_nil
  obtain ⟨rfl, Fy', hY3, hG3⟩ := hR
  obtain ⟨hW3, hD3, hFd3, hFy3, hX3⟩ := Two.doc (y := y) (room := room) hW2 hFd2 hFy2 hX2 hD2 hG3
  refine ⟨(hG3.1.block _ hlt8 hny).trans hHeld, fun hHeld => ?_⟩
  simp only [Act.put, List.setIfInBounds_toArray, List.set_cons_succ, List.set_cons_zero]
  obtain ⟨hU1, hU2, hU3⟩ := gr_two hbw hG2 hG3 hUd hUy
  have HTZ := hidn (show ∃ st' U', TwX W0 w9 d (N + 1) y room st' st' U' ∧ Gr U U' w w9 from ⟨r.1, _, ⟨hW3, Fd', Fy', hD3, hY3, hFd3, hFy3, hX3, hU2, hU3⟩, hU1⟩)
  obtain ⟨z, hz⟩ : ∃ z, z = r.2 := ⟨_, rfl⟩
  rw [← hz]
  clear hz
  refine drawn_take (i := 16) (v := .bool true) (some 56) rfl rfl (by kernel_rfl) (by kernel_rfl) (by kernel_rfl) (fun _ _ _ h => h) (Or.inl ⟨by kernel_rfl, fun wq hw => by go_simp⟩) hHeld ?_
  simp only [Act.put, List.setIfInBounds_toArray, List.set_cons_succ, List.set_cons_zero]
  refine drawn_take (i := 17) (v := .bool true) (some 6) rfl rfl (by kernel_rfl) (by kernel_rfl) (by kernel_rfl) (fun _ _ _ h => h) (Or.inl ⟨by kernel_rfl, fun wq hw => by go_simp⟩) hHeld ?_
  simp only [Act.put, List.setIfInBounds_toArray, List.set_cons_succ, List.set_cons_zero]
  refine wpAnyH_done (by kernel_rfl) ?_ _
  refine NoPanic.normal ?_
  clear hHeld hW hD hY hFd hFy hX hV hbw hsz hnd hny hD1 hY1 hW1 hFd1 hFy1 hr hD2 hG2 hW2 hY2 hFd2 hFy2 hX2 hY3 hG3 hW3 hD3 hFd3 hFy3 hX3 hlt8 hU1 hU2 hU3 hUd hUy
  go_wp2
  go_ret
  exact ⟨rfl, HTZ.out⟩

set_option maxHeartbeats 8000000 in
set_option maxRecDepth 100000 in
theorem do_2 (W0 w : World) (d N y : Nat) (room : Int) (st : St) (U : Nat → Prop) (h : TwX W0 w d N y room st st U) (hN : N < 1000000) (op si at2 n3 : Int) (nm : ByteArray) (sa : Option Addr) (sl sc : Nat) (zs : List Nat) (mk : Nat) (hmk : mk < 256) (ka : Option Addr) (kl kc : Nat) (ks : List Kp) (hnm : nm.size ≤ maxLen) (hB : Bs W0 sa sl zs) (hK : Kps W0 ka kl ks) (hn3 : n3 ≤ 9223372036854775807) (hq : wrap64 ((IntKind.u64.wrap op).tmod 7) = 2) :
    Calls Try.prog 7 #[.agg #[.int .i64 op, .int .i64 si, .int .i64 at2, .int .i64 n3, .string nm, .slice sa sl sc, .int .u8 (mk : Int), .slice ka kl kc], .pointer (some ⟨d, 0, none⟩), .pointer (some ⟨y, 0, none⟩)] w (DoPostU W0 w d N y room U) := by
  have t0 : ((2 : Int) == 0) = false := by decide
  have t1 : ((2 : Int) == 1) = false := by decide
  have HT := hidn h
  have HB := hidn hB
  have HK := hidn hK
  have HN := hidn hnm
  clear h hB hK hnm
  go_enter Try.func7, Try.ntmps7
  go_wp2_with fail
  clear hq t0 t1
  obtain ⟨hW, Fd, Fy, hD, hY, hFd, hFy, hX, hUd, hUy⟩ := HT.out
  obtain ⟨V, hV⟩ := HT.out.rel
  obtain ⟨wd, hwd⟩ : ∃ wd, wd = (w.alloc (.cells #[.int .i64 op, .int .i64 si, .int .i64 at2, .int .i64 n3, .string nm, .slice sa sl sc, .int .u8 (mk : Int), .slice ka kl kc] 32)).drew := ⟨_, rfl⟩
  have hbw : Below w.heap.size w wd := by rw [hwd]; exact ((Below.refl _ _).alloc (Nat.le_refl _) _).drew
  have hbox : wd.heap[w.heap.size]? = some (.cells #[.int .i64 op, .int .i64 si, .int .i64 at2, .int .i64 n3, .string nm, .slice sa sl sc, .int .u8 (mk : Int), .slice ka kl kc] 32 (0, 0)) := by rw [hwd]; exact heap_alloc_new _ _
  have hsz : w.heap.size < wd.heap.size := (Array.getElem?_eq_some_iff.1 hbox).1
  have hnd : ¬ Fd w.heap.size := fun hf => Nat.lt_irrefl _ (hFd _ hf).2
  have hny : ¬ Fy w.heap.size := fun hf => Nat.lt_irrefl _ (hFy _ hf).2
  have hD1 : DiskS wd d Fd N st := hD.below hbw
  have hY1 : DiskY wd y Fy room st := hY.below (fun k hk => (hFy k hk).2) hbw
  have hW1 : Below W0.heap.size W0 wd := hW.trans (hbw.mono hW.size)
  have hFd1 : ∀ k, Fd k → W0.heap.size ≤ k ∧ k < wd.heap.size := fun k hk => ⟨(hFd k hk).1, by have := (hFd k hk).2; omega⟩
  have hFy1 : ∀ k, Fy k → W0.heap.size ≤ k ∧ k < wd.heap.size := fun k hk => ⟨(hFy k hk).1, by have := (hFy k hk).2; omega⟩
  obtain ⟨r, hr⟩ : ∃ r, r = syD st nm.data.toList := ⟨_, rfl⟩
  refine wp_region_noPanic ?_
  refine wp_region_held_drew (S := fun w' => w'.heap[w.heap.size]? = some (.cells #[.int .i64 op, .int .i64 si, .int .i64 at2, .int .i64 n3, .string nm, .slice sa sl sc, .int .u8 (mk : Int), .slice ka kl kc] 32 (0, 0))) (by kernel_rfl) (by rw [← hwd]; exact hbox) (fun hHeld => ?_)
  rw [← hwd] at hHeld ⊢
  clear hwd hbox
  refine drawn_take (i := 0) (v := .pointer (some ⟨d, 0, none⟩)) (some 59) rfl rfl (by kernel_rfl) (by kernel_rfl) (by kernel_rfl) (fun _ _ _ h => h) (Or.inl ⟨by kernel_rfl, fun wq hw => by go_simp⟩) hHeld ?_
  simp only [Act.put, List.setIfInBounds_toArray, List.set_cons_succ, List.set_cons_zero]
  refine drawn_take (i := 1) (v := .pointer (some ⟨w.heap.size, 4, none⟩)) (some 60) rfl rfl (by kernel_rfl) (by kernel_rfl) (by kernel_rfl) (fun _ _ _ h => h) (Or.inl ⟨by kernel_rfl, fun wq hw => by go_simp⟩) hHeld ?_
  simp only [Act.put, List.setIfInBounds_toArray, List.set_cons_succ, List.set_cons_zero]
  refine drawn_take (i := 2) (v := .string nm) (some 61) rfl rfl (by kernel_rfl) (by kernel_rfl) (by kernel_rfl) (fun _ _ _ h => h) (Or.inl ⟨by kernel_rfl, fun wq hw => by have q : wq.cell? ⟨w.heap.size, 4, none⟩ = some (.string nm) := cell_of_row _ _ _ _ _ _ hw; go_simp⟩) hHeld ?_
  simp only [Act.put, List.setIfInBounds_toArray, List.set_cons_succ, List.set_cons_zero]
  refine drawn_take (i := 4) (v := .pointer (some ⟨y, 0, none⟩)) (some 63) rfl rfl (by kernel_rfl) (by kernel_rfl) (by kernel_rfl) (fun _ _ _ h => h) (Or.inl ⟨by kernel_rfl, fun wq hw => by go_simp⟩) hHeld ?_
  simp only [Act.put, List.setIfInBounds_toArray, List.set_cons_succ, List.set_cons_zero]
  refine drawn_take (i := 5) (v := .pointer (some ⟨w.heap.size, 4, none⟩)) (some 64) rfl rfl (by kernel_rfl) (by kernel_rfl) (by kernel_rfl) (fun _ _ _ h => h) (Or.inl ⟨by kernel_rfl, fun wq hw => by go_simp⟩) hHeld ?_
  simp only [Act.put, List.setIfInBounds_toArray, List.set_cons_succ, List.set_cons_zero]
  refine drawn_take (i := 6) (v := .string nm) (some 65) rfl rfl (by kernel_rfl) (by kernel_rfl) (by kernel_rfl) (fun _ _ _ h => h) (Or.inl ⟨by kernel_rfl, fun wq hw => by have q : wq.cell? ⟨w.heap.size, 4, none⟩ = some (.string nm) := cell_of_row _ _ _ _ _ _ hw; go_simp⟩) hHeld ?_
  simp only [Act.put, List.setIfInBounds_toArray, List.set_cons_succ, List.set_cons_zero]
  refine wpAnyH_ready (rs := [3]) (by kernel_rfl) (by simp) ?_
  refine rdy_call (i := 3) rfl rfl (some 62) rfl 17 #[.pointer (some ⟨d, 0, none⟩), .string nm] (tw_Sync (ts := #[23, 9]) (x0 := 59) (x1 := 61) (by kernel_rfl) (by kernel_rfl) (by kernel_rfl)) (fun v w' => v = .int .i64 r.2 ∧ ∃ Fd', DiskS w' d Fd' (N + 1) r.1 ∧ Gr Fd Fd' wd w') ((sync_st wd d Fd N st hD1 nm HN.out hV.fuse0 hV.fuse1).mono fun e w' h => by rw [← hr] at h; obtain ⟨h1, Fd', h2, h3⟩ := h; exact ⟨_, h1, rfl, Fd', h2.mono (by omega), h3⟩) (fun r w9 hR => ?_) rdy_nil
  obtain ⟨rfl, Fd', hD2, hG2⟩ := hR
  obtain ⟨hW2, hY2, hFd2, hFy2, hX2⟩ := Two.prog (d := d) (N := N) (N' := N) (st' := st) hW1 hFd1 hFy1 hX hY1 hG2
  have hlt8 : w.heap.size < w9.heap.size := by have := hG2.1.size; omega
  refine ⟨(hG2.1.block _ hsz hnd).trans hHeld, fun hHeld => ?_⟩
  simp only [Act.put, List.setIfInBounds_toArray, List.set_cons_succ, List.set_cons_zero]
  refine wpAnyH_ready (rs := [7]) (by kernel_rfl) (by simp) ?_
  refine rdy_call (i := 7) rfl rfl (some 66) rfl 18 #[.pointer (some ⟨y, 0, none⟩), .string nm] (twy_Sync (ts := #[24, 9]) (x0 := 63) (x1 := 65) (by kernel_rfl) (by kernel_rfl) (by kernel_rfl)) (fun v w' => v = .int .i64 r.2 ∧ ∃ Fy', DiskY w' y Fy' room r.1 ∧ Gr Fy Fy' w9 w') ((syncY_st w9 y Fy room st hY2 (fun k hk => (hFy2 k hk).2) nm).mono fun e w' h => by rw [← hr] at h; obtain ⟨h1, Fy', h2, h3⟩ := h; exact ⟨_, h1, rfl, Fy', h2, h3⟩) (fun r w9 hR => ?_) rdy_nil
  obtain ⟨rfl, Fy', hY3, hG3⟩ := hR
  obtain ⟨hW3, hD3, hFd3, hFy3, hX3⟩ := Two.doc (y := y) (room := room) hW2 hFd2 hFy2 hX2 hD2 hG3
  refine ⟨(hG3.1.block _ hlt8 hny).trans hHeld, fun hHeld => ?_⟩
  simp only [Act.put, List.setIfInBounds_toArray, List.set_cons_succ, List.set_cons_zero]
  obtain ⟨hU1, hU2, hU3⟩ := gr_two hbw hG2 hG3 hUd hUy
  have HTZ := hidn (show ∃ st' U', TwX W0 w9 d (N + 1) y room st' st' U' ∧ Gr U U' w w9 from ⟨r.1, _, ⟨hW3, Fd', Fy', hD3, hY3, hFd3, hFy3, hX3, hU2, hU3⟩, hU1⟩)
  obtain ⟨z, hz⟩ : ∃ z, z = r.2 := ⟨_, rfl⟩
  rw [← hz]
  clear hz
  refine drawn_take (i := 8) (v := .bool true) (some 67) rfl rfl (by kernel_rfl) (by kernel_rfl) (by kernel_rfl) (fun _ _ _ h => h) (Or.inl ⟨by kernel_rfl, fun wq hw => by go_simp⟩) hHeld ?_
  simp only [Act.put, List.setIfInBounds_toArray, List.set_cons_succ, List.set_cons_zero]
  refine drawn_take (i := 9) (v := .bool true) (some 6) rfl rfl (by kernel_rfl) (by kernel_rfl) (by kernel_rfl) (fun _ _ _ h => h) (Or.inl ⟨by kernel_rfl, fun wq hw => by go_simp⟩) hHeld ?_
  simp only [Act.put, List.setIfInBounds_toArray, List.set_cons_succ, List.set_cons_zero]
  refine wpAnyH_done (by kernel_rfl) ?_ _
  refine NoPanic.normal ?_
  clear hHeld hW hD hY hFd hFy hX hV hbw hsz hnd hny hD1 hY1 hW1 hFd1 hFy1 hr hD2 hG2 hW2 hY2 hFd2 hFy2 hX2 hY3 hG3 hW3 hD3 hFd3 hFy3 hX3 hlt8 hU1 hU2 hU3 hUd hUy
  go_wp2
  go_ret
  exact ⟨rfl, HTZ.out⟩

set_option maxHeartbeats 8000000 in
set_option maxRecDepth 100000 in
theorem do_3 (W0 w : World) (d N y : Nat) (room : Int) (st : St) (U : Nat → Prop) (h : TwX W0 w d N y room st st U) (hN : N < 1000000) (op si at2 n3 : Int) (nm : ByteArray) (sa : Option Addr) (sl sc : Nat) (zs : List Nat) (mk : Nat) (hmk : mk < 256) (ka : Option Addr) (kl kc : Nat) (ks : List Kp) (hnm : nm.size ≤ maxLen) (hB : Bs W0 sa sl zs) (hK : Kps W0 ka kl ks) (hn3 : n3 ≤ 9223372036854775807) (hq : wrap64 ((IntKind.u64.wrap op).tmod 7) = 3) :
    Calls Try.prog 7 #[.agg #[.int .i64 op, .int .i64 si, .int .i64 at2, .int .i64 n3, .string nm, .slice sa sl sc, .int .u8 (mk : Int), .slice ka kl kc], .pointer (some ⟨d, 0, none⟩), .pointer (some ⟨y, 0, none⟩)] w (DoPostU W0 w d N y room U) := by
  have t0 : ((3 : Int) == 0) = false := by decide
  have t1 : ((3 : Int) == 1) = false := by decide
  have t2 : ((3 : Int) == 2) = false := by decide
  have HT := hidn h
  have HB := hidn hB
  have HK := hidn hK
  have HN := hidn hnm
  clear h hB hK hnm
  go_enter Try.func7, Try.ntmps7
  go_wp2_with fail
  clear hq t0 t1 t2
  obtain ⟨hW, Fd, Fy, hD, hY, hFd, hFy, hX, hUd, hUy⟩ := HT.out
  obtain ⟨V, hV⟩ := HT.out.rel
  obtain ⟨wd, hwd⟩ : ∃ wd, wd = (w.alloc (.cells #[.int .i64 op, .int .i64 si, .int .i64 at2, .int .i64 n3, .string nm, .slice sa sl sc, .int .u8 (mk : Int), .slice ka kl kc] 32)).drew := ⟨_, rfl⟩
  have hbw : Below w.heap.size w wd := by rw [hwd]; exact ((Below.refl _ _).alloc (Nat.le_refl _) _).drew
  have hbox : wd.heap[w.heap.size]? = some (.cells #[.int .i64 op, .int .i64 si, .int .i64 at2, .int .i64 n3, .string nm, .slice sa sl sc, .int .u8 (mk : Int), .slice ka kl kc] 32 (0, 0)) := by rw [hwd]; exact heap_alloc_new _ _
  have hsz : w.heap.size < wd.heap.size := (Array.getElem?_eq_some_iff.1 hbox).1
  have hnd : ¬ Fd w.heap.size := fun hf => Nat.lt_irrefl _ (hFd _ hf).2
  have hny : ¬ Fy w.heap.size := fun hf => Nat.lt_irrefl _ (hFy _ hf).2
  have hD1 : DiskS wd d Fd N st := hD.below hbw
  have hY1 : DiskY wd y Fy room st := hY.below (fun k hk => (hFy k hk).2) hbw
  have hW1 : Below W0.heap.size W0 wd := hW.trans (hbw.mono hW.size)
  have hFd1 : ∀ k, Fd k → W0.heap.size ≤ k ∧ k < wd.heap.size := fun k hk => ⟨(hFd k hk).1, by have := (hFd k hk).2; omega⟩
  have hFy1 : ∀ k, Fy k → W0.heap.size ≤ k ∧ k < wd.heap.size := fun k hk => ⟨(hFy k hk).1, by have := (hFy k hk).2; omega⟩
  obtain ⟨r, hr⟩ : ∃ r, r = rmD st nm.data.toList := ⟨_, rfl⟩
  refine wp_region_noPanic ?_
  refine wp_region_held_drew (S := fun w' => w'.heap[w.heap.size]? = some (.cells #[.int .i64 op, .int .i64 si, .int .i64 at2, .int .i64 n3, .string nm, .slice sa sl sc, .int .u8 (mk : Int), .slice ka kl kc] 32 (0, 0))) (by kernel_rfl) (by rw [← hwd]; exact hbox) (fun hHeld => ?_)
  rw [← hwd] at hHeld ⊢
  clear hwd hbox
  refine drawn_take (i := 0) (v := .pointer (some ⟨d, 0, none⟩)) (some 70) rfl rfl (by kernel_rfl) (by kernel_rfl) (by kernel_rfl) (fun _ _ _ h => h) (Or.inl ⟨by kernel_rfl, fun wq hw => by go_simp⟩) hHeld ?_
  simp only [Act.put, List.setIfInBounds_toArray, List.set_cons_succ, List.set_cons_zero]
  refine drawn_take (i := 1) (v := .pointer (some ⟨w.heap.size, 4, none⟩)) (some 71) rfl rfl (by kernel_rfl) (by kernel_rfl) (by kernel_rfl) (fun _ _ _ h => h) (Or.inl ⟨by kernel_rfl, fun wq hw => by go_simp⟩) hHeld ?_
  simp only [Act.put, List.setIfInBounds_toArray, List.set_cons_succ, List.set_cons_zero]
  refine drawn_take (i := 2) (v := .string nm) (some 72) rfl rfl (by kernel_rfl) (by kernel_rfl) (by kernel_rfl) (fun _ _ _ h => h) (Or.inl ⟨by kernel_rfl, fun wq hw => by have q : wq.cell? ⟨w.heap.size, 4, none⟩ = some (.string nm) := cell_of_row _ _ _ _ _ _ hw; go_simp⟩) hHeld ?_
  simp only [Act.put, List.setIfInBounds_toArray, List.set_cons_succ, List.set_cons_zero]
  refine drawn_take (i := 4) (v := .pointer (some ⟨y, 0, none⟩)) (some 74) rfl rfl (by kernel_rfl) (by kernel_rfl) (by kernel_rfl) (fun _ _ _ h => h) (Or.inl ⟨by kernel_rfl, fun wq hw => by go_simp⟩) hHeld ?_
  simp only [Act.put, List.setIfInBounds_toArray, List.set_cons_succ, List.set_cons_zero]
  refine drawn_take (i := 5) (v := .pointer (some ⟨w.heap.size, 4, none⟩)) (some 75) rfl rfl (by kernel_rfl) (by kernel_rfl) (by kernel_rfl) (fun _ _ _ h => h) (Or.inl ⟨by kernel_rfl, fun wq hw => by go_simp⟩) hHeld ?_
  simp only [Act.put, List.setIfInBounds_toArray, List.set_cons_succ, List.set_cons_zero]
  refine drawn_take (i := 6) (v := .string nm) (some 76) rfl rfl (by kernel_rfl) (by kernel_rfl) (by kernel_rfl) (fun _ _ _ h => h) (Or.inl ⟨by kernel_rfl, fun wq hw => by have q : wq.cell? ⟨w.heap.size, 4, none⟩ = some (.string nm) := cell_of_row _ _ _ _ _ _ hw; go_simp⟩) hHeld ?_
  simp only [Act.put, List.setIfInBounds_toArray, List.set_cons_succ, List.set_cons_zero]
  refine wpAnyH_ready (rs := [3]) (by kernel_rfl) (by simp) ?_
  refine rdy_call (i := 3) rfl rfl (some 73) rfl 19 #[.pointer (some ⟨d, 0, none⟩), .string nm] (tw_Remove (ts := #[23, 9]) (x0 := 70) (x1 := 72) (by kernel_rfl) (by kernel_rfl) (by kernel_rfl)) (fun v w' => v = .int .i64 r.2 ∧ ∃ Fd', DiskS w' d Fd' (N + 1) r.1 ∧ Gr Fd Fd' wd w') ((remove_st wd d Fd N st hD1 nm HN.out hV.fuse0 hV.fuse1 hV.free0 (by have := hV.free1; omega) (by have := hV.len nm.data.toList; omega)).mono fun e w' h => by rw [← hr] at h; obtain ⟨h1, Fd', h2, h3⟩ := h; exact ⟨_, h1, rfl, Fd', h2.mono (by omega), h3⟩) (fun r w9 hR => ?_) rdy_nil
  obtain ⟨rfl, Fd', hD2, hG2⟩ := hR
  obtain ⟨hW2, hY2, hFd2, hFy2, hX2⟩ := Two.prog (d := d) (N := N) (N' := N) (st' := st) hW1 hFd1 hFy1 hX hY1 hG2
  have hlt8 : w.heap.size < w9.heap.size := by have := hG2.1.size; omega
  refine ⟨(hG2.1.block _ hsz hnd).trans hHeld, fun hHeld => ?_⟩
  simp only [Act.put, List.setIfInBounds_toArray, List.set_cons_succ, List.set_cons_zero]
  refine wpAnyH_ready (rs := [7]) (by kernel_rfl) (by simp) ?_
  refine rdy_call (i := 7) rfl rfl (some 77) rfl 20 #[.pointer (some ⟨y, 0, none⟩), .string nm] (twy_Remove (ts := #[24, 9]) (x0 := 74) (x1 := 76) (by kernel_rfl) (by kernel_rfl) (by kernel_rfl)) (fun v w' => v = .int .i64 r.2 ∧ ∃ Fy', DiskY w' y Fy' room r.1 ∧ Gr Fy Fy' w9 w') ((removeY_st w9 y Fy room st hY2 (fun k hk => (hFy2 k hk).2) nm).mono fun e w' h => by rw [← hr] at h; obtain ⟨h1, Fy', h2, h3⟩ := h; exact ⟨_, h1, rfl, Fy', h2, h3⟩) (fun r w9 hR => ?_) rdy_nil
  obtain ⟨rfl, Fy', hY3, hG3⟩ := hR
  obtain ⟨hW3, hD3, hFd3, hFy3, hX3⟩ := Two.doc (y := y) (room := room) hW2 hFd2 hFy2 hX2 hD2 hG3
  refine ⟨(hG3.1.block _ hlt8 hny).trans hHeld, fun hHeld => ?_⟩
  simp only [Act.put, List.setIfInBounds_toArray, List.set_cons_succ, List.set_cons_zero]
  obtain ⟨hU1, hU2, hU3⟩ := gr_two hbw hG2 hG3 hUd hUy
  have HTZ := hidn (show ∃ st' U', TwX W0 w9 d (N + 1) y room st' st' U' ∧ Gr U U' w w9 from ⟨r.1, _, ⟨hW3, Fd', Fy', hD3, hY3, hFd3, hFy3, hX3, hU2, hU3⟩, hU1⟩)
  obtain ⟨z, hz⟩ : ∃ z, z = r.2 := ⟨_, rfl⟩
  rw [← hz]
  clear hz
  refine drawn_take (i := 8) (v := .bool true) (some 78) rfl rfl (by kernel_rfl) (by kernel_rfl) (by kernel_rfl) (fun _ _ _ h => h) (Or.inl ⟨by kernel_rfl, fun wq hw => by go_simp⟩) hHeld ?_
  simp only [Act.put, List.setIfInBounds_toArray, List.set_cons_succ, List.set_cons_zero]
  refine drawn_take (i := 9) (v := .bool true) (some 6) rfl rfl (by kernel_rfl) (by kernel_rfl) (by kernel_rfl) (fun _ _ _ h => h) (Or.inl ⟨by kernel_rfl, fun wq hw => by go_simp⟩) hHeld ?_
  simp only [Act.put, List.setIfInBounds_toArray, List.set_cons_succ, List.set_cons_zero]
  refine wpAnyH_done (by kernel_rfl) ?_ _
  refine NoPanic.normal ?_
  clear hHeld hW hD hY hFd hFy hX hV hbw hsz hnd hny hD1 hY1 hW1 hFd1 hFy1 hr hD2 hG2 hW2 hY2 hFd2 hFy2 hX2 hY3 hG3 hW3 hD3 hFd3 hFy3 hX3 hlt8 hU1 hU2 hU3 hUd hUy
  go_wp2
  go_ret
  exact ⟨rfl, HTZ.out⟩

set_option maxHeartbeats 8000000 in
set_option maxRecDepth 100000 in
theorem do_4 (W0 w : World) (d N y : Nat) (room : Int) (st : St) (U : Nat → Prop) (h : TwX W0 w d N y room st st U) (hN : N < 1000000) (op si at2 n3 : Int) (nm : ByteArray) (sa : Option Addr) (sl sc : Nat) (zs : List Nat) (mk : Nat) (hmk : mk < 256) (ka : Option Addr) (kl kc : Nat) (ks : List Kp) (hnm : nm.size ≤ maxLen) (hB : Bs W0 sa sl zs) (hK : Kps W0 ka kl ks) (hn3 : n3 ≤ 9223372036854775807) (hq : wrap64 ((IntKind.u64.wrap op).tmod 7) = 4) :
    Calls Try.prog 7 #[.agg #[.int .i64 op, .int .i64 si, .int .i64 at2, .int .i64 n3, .string nm, .slice sa sl sc, .int .u8 (mk : Int), .slice ka kl kc], .pointer (some ⟨d, 0, none⟩), .pointer (some ⟨y, 0, none⟩)] w (DoPostU W0 w d N y room U) := by
  have t0 : ((4 : Int) == 0) = false := by decide
  have t1 : ((4 : Int) == 1) = false := by decide
  have t2 : ((4 : Int) == 2) = false := by decide
  have t3 : ((4 : Int) == 3) = false := by decide
  have HT := hidn h
  have HB := hidn hB
  have HK := hidn hK
  have HN := hidn hnm
  clear h hB hK hnm
  go_enter Try.func7, Try.ntmps7
  go_wp2_with fail
  clear hq t0 t1 t2 t3
  obtain ⟨hW, Fd, Fy, hD, hY, hFd, hFy, hX, hUd, hUy⟩ := HT.out
  obtain ⟨V, hV⟩ := HT.out.rel
  obtain ⟨wd, hwd⟩ : ∃ wd, wd = (w.alloc (.cells #[.int .i64 op, .int .i64 si, .int .i64 at2, .int .i64 n3, .string nm, .slice sa sl sc, .int .u8 (mk : Int), .slice ka kl kc] 32)).drew := ⟨_, rfl⟩
  have hbw : Below w.heap.size w wd := by rw [hwd]; exact ((Below.refl _ _).alloc (Nat.le_refl _) _).drew
  have hbox : wd.heap[w.heap.size]? = some (.cells #[.int .i64 op, .int .i64 si, .int .i64 at2, .int .i64 n3, .string nm, .slice sa sl sc, .int .u8 (mk : Int), .slice ka kl kc] 32 (0, 0)) := by rw [hwd]; exact heap_alloc_new _ _
  have hsz : w.heap.size < wd.heap.size := (Array.getElem?_eq_some_iff.1 hbox).1
  have hnd : ¬ Fd w.heap.size := fun hf => Nat.lt_irrefl _ (hFd _ hf).2
  have hny : ¬ Fy w.heap.size := fun hf => Nat.lt_irrefl _ (hFy _ hf).2
  have hD1 : DiskS wd d Fd N st := hD.below hbw
  have hY1 : DiskY wd y Fy room st := hY.below (fun k hk => (hFy k hk).2) hbw
  have hW1 : Below W0.heap.size W0 wd := hW.trans (hbw.mono hW.size)
  have hFd1 : ∀ k, Fd k → W0.heap.size ≤ k ∧ k < wd.heap.size := fun k hk => ⟨(hFd k hk).1, by have := (hFd k hk).2; omega⟩
  have hFy1 : ∀ k, Fy k → W0.heap.size ≤ k ∧ k < wd.heap.size := fun k hk => ⟨(hFy k hk).1, by have := (hFy k hk).2; omega⟩
  obtain ⟨r, hr⟩ : ∃ r, r = rotD st nm.data.toList si at2 mk := ⟨_, rfl⟩
  refine wp_region_noPanic ?_
  refine wp_region_held_drew (S := fun w' => w'.heap[w.heap.size]? = some (.cells #[.int .i64 op, .int .i64 si, .int .i64 at2, .int .i64 n3, .string nm, .slice sa sl sc, .int .u8 (mk : Int), .slice ka kl kc] 32 (0, 0))) (by kernel_rfl) (by rw [← hwd]; exact hbox) (fun hHeld => ?_)
  rw [← hwd] at hHeld ⊢
  clear hwd hbox
  refine drawn_take (i := 0) (v := .pointer (some ⟨d, 0, none⟩)) (some 81) rfl rfl (by kernel_rfl) (by kernel_rfl) (by kernel_rfl) (fun _ _ _ h => h) (Or.inl ⟨by kernel_rfl, fun wq hw => by go_simp⟩) hHeld ?_
  simp only [Act.put, List.setIfInBounds_toArray, List.set_cons_succ, List.set_cons_zero]
  refine drawn_take (i := 1) (v := .pointer (some ⟨w.heap.size, 4, none⟩)) (some 82) rfl rfl (by kernel_rfl) (by kernel_rfl) (by kernel_rfl) (fun _ _ _ h => h) (Or.inl ⟨by kernel_rfl, fun wq hw => by go_simp⟩) hHeld ?_
  simp only [Act.put, List.setIfInBounds_toArray, List.set_cons_succ, List.set_cons_zero]
  refine drawn_take (i := 2) (v := .string nm) (some 83) rfl rfl (by kernel_rfl) (by kernel_rfl) (by kernel_rfl) (fun _ _ _ h => h) (Or.inl ⟨by kernel_rfl, fun wq hw => by have q : wq.cell? ⟨w.heap.size, 4, none⟩ = some (.string nm) := cell_of_row _ _ _ _ _ _ hw; go_simp⟩) hHeld ?_
  simp only [Act.put, List.setIfInBounds_toArray, List.set_cons_succ, List.set_cons_zero]
  refine drawn_take (i := 3) (v := .pointer (some ⟨w.heap.size, 1, none⟩)) (some 84) rfl rfl (by kernel_rfl) (by kernel_rfl) (by kernel_rfl) (fun _ _ _ h => h) (Or.inl ⟨by kernel_rfl, fun wq hw => by go_simp⟩) hHeld ?_
  simp only [Act.put, List.setIfInBounds_toArray, List.set_cons_succ, List.set_cons_zero]
  refine drawn_take (i := 4) (v := .int .i64 si) (some 85) rfl rfl (by kernel_rfl) (by kernel_rfl) (by kernel_rfl) (fun _ _ _ h => h) (Or.inl ⟨by kernel_rfl, fun wq hw => by have q : wq.cell? ⟨w.heap.size, 1, none⟩ = some (.int .i64 si) := cell_of_row _ _ _ _ _ _ hw; go_simp⟩) hHeld ?_
  simp only [Act.put, List.setIfInBounds_toArray, List.set_cons_succ, List.set_cons_zero]
  refine drawn_take (i := 5) (v := .pointer (some ⟨w.heap.size, 2, none⟩)) (some 86) rfl rfl (by kernel_rfl) (by kernel_rfl) (by kernel_rfl) (fun _ _ _ h => h) (Or.inl ⟨by kernel_rfl, fun wq hw => by go_simp⟩) hHeld ?_
  simp only [Act.put, List.setIfInBounds_toArray, List.set_cons_succ, List.set_cons_zero]
  refine drawn_take (i := 6) (v := .int .i64 at2) (some 87) rfl rfl (by kernel_rfl) (by kernel_rfl) (by kernel_rfl) (fun _ _ _ h => h) (Or.inl ⟨by kernel_rfl, fun wq hw => by have q : wq.cell? ⟨w.heap.size, 2, none⟩ = some (.int .i64 at2) := cell_of_row _ _ _ _ _ _ hw; go_simp⟩) hHeld ?_
  simp only [Act.put, List.setIfInBounds_toArray, List.set_cons_succ, List.set_cons_zero]
  refine drawn_take (i := 7) (v := .pointer (some ⟨w.heap.size, 6, none⟩)) (some 88) rfl rfl (by kernel_rfl) (by kernel_rfl) (by kernel_rfl) (fun _ _ _ h => h) (Or.inl ⟨by kernel_rfl, fun wq hw => by go_simp⟩) hHeld ?_
  simp only [Act.put, List.setIfInBounds_toArray, List.set_cons_succ, List.set_cons_zero]
  refine drawn_take (i := 8) (v := .int .u8 (mk : Int)) (some 89) rfl rfl (by kernel_rfl) (by kernel_rfl) (by kernel_rfl) (fun _ _ _ h => h) (Or.inl ⟨by kernel_rfl, fun wq hw => by have q : wq.cell? ⟨w.heap.size, 6, none⟩ = some (.int .u8 (mk : Int)) := cell_of_row _ _ _ _ _ _ hw; go_simp⟩) hHeld ?_
  simp only [Act.put, List.setIfInBounds_toArray, List.set_cons_succ, List.set_cons_zero]
  refine drawn_take (i := 10) (v := .pointer (some ⟨y, 0, none⟩)) (some 91) rfl rfl (by kernel_rfl) (by kernel_rfl) (by kernel_rfl) (fun _ _ _ h => h) (Or.inl ⟨by kernel_rfl, fun wq hw => by go_simp⟩) hHeld ?_
  simp only [Act.put, List.setIfInBounds_toArray, List.set_cons_succ, List.set_cons_zero]
  refine drawn_take (i := 11) (v := .pointer (some ⟨w.heap.size, 4, none⟩)) (some 92) rfl rfl (by kernel_rfl) (by kernel_rfl) (by kernel_rfl) (fun _ _ _ h => h) (Or.inl ⟨by kernel_rfl, fun wq hw => by go_simp⟩) hHeld ?_
  simp only [Act.put, List.setIfInBounds_toArray, List.set_cons_succ, List.set_cons_zero]
  refine drawn_take (i := 12) (v := .string nm) (some 93) rfl rfl (by kernel_rfl) (by kernel_rfl) (by kernel_rfl) (fun _ _ _ h => h) (Or.inl ⟨by kernel_rfl, fun wq hw => by have q : wq.cell? ⟨w.heap.size, 4, none⟩ = some (.string nm) := cell_of_row _ _ _ _ _ _ hw; go_simp⟩) hHeld ?_
  simp only [Act.put, List.setIfInBounds_toArray, List.set_cons_succ, List.set_cons_zero]
  refine drawn_take (i := 13) (v := .pointer (some ⟨w.heap.size, 1, none⟩)) (some 94) rfl rfl (by kernel_rfl) (by kernel_rfl) (by kernel_rfl) (fun _ _ _ h => h) (Or.inl ⟨by kernel_rfl, fun wq hw => by go_simp⟩) hHeld ?_
  simp only [Act.put, List.setIfInBounds_toArray, List.set_cons_succ, List.set_cons_zero]
  refine drawn_take (i := 14) (v := .int .i64 si) (some 95) rfl rfl (by kernel_rfl) (by kernel_rfl) (by kernel_rfl) (fun _ _ _ h => h) (Or.inl ⟨by kernel_rfl, fun wq hw => by have q : wq.cell? ⟨w.heap.size, 1, none⟩ = some (.int .i64 si) := cell_of_row _ _ _ _ _ _ hw; go_simp⟩) hHeld ?_
  simp only [Act.put, List.setIfInBounds_toArray, List.set_cons_succ, List.set_cons_zero]
  refine drawn_take (i := 15) (v := .pointer (some ⟨w.heap.size, 2, none⟩)) (some 96) rfl rfl (by kernel_rfl) (by kernel_rfl) (by kernel_rfl) (fun _ _ _ h => h) (Or.inl ⟨by kernel_rfl, fun wq hw => by go_simp⟩) hHeld ?_
  simp only [Act.put, List.setIfInBounds_toArray, List.set_cons_succ, List.set_cons_zero]
  refine drawn_take (i := 16) (v := .int .i64 at2) (some 97) rfl rfl (by kernel_rfl) (by kernel_rfl) (by kernel_rfl) (fun _ _ _ h => h) (Or.inl ⟨by kernel_rfl, fun wq hw => by have q : wq.cell? ⟨w.heap.size, 2, none⟩ = some (.int .i64 at2) := cell_of_row _ _ _ _ _ _ hw; go_simp⟩) hHeld ?_
  simp only [Act.put, List.setIfInBounds_toArray, List.set_cons_succ, List.set_cons_zero]
  refine drawn_take (i := 17) (v := .pointer (some ⟨w.heap.size, 6, none⟩)) (some 98) rfl rfl (by kernel_rfl) (by kernel_rfl) (by kernel_rfl) (fun _ _ _ h => h) (Or.inl ⟨by kernel_rfl, fun wq hw => by go_simp⟩) hHeld ?_
  simp only [Act.put, List.setIfInBounds_toArray, List.set_cons_succ, List.set_cons_zero]
  refine drawn_take (i := 18) (v := .int .u8 (mk : Int)) (some 99) rfl rfl (by kernel_rfl) (by kernel_rfl) (by kernel_rfl) (fun _ _ _ h => h) (Or.inl ⟨by kernel_rfl, fun wq hw => by have q : wq.cell? ⟨w.heap.size, 6, none⟩ = some (.int .u8 (mk : Int)) := cell_of_row _ _ _ _ _ _ hw; go_simp⟩) hHeld ?_
  simp only [Act.put, List.setIfInBounds_toArray, List.set_cons_succ, List.set_cons_zero]
  refine wpAnyH_ready (rs := [9]) (by kernel_rfl) (by simp) ?_
  refine rdy_call (i := 9) rfl rfl (some 90) rfl 21 #[.pointer (some ⟨d, 0, none⟩), .string nm, .int .i64 si, .int .i64 at2, .int .u8 (mk : Int)] (tw_Rot (ts := #[23, 9, 3, 3, 5]) (x0 := 81) (x1 := 83) (x2 := 85) (x3 := 87) (x4 := 89) (by kernel_rfl) (by kernel_rfl) (by kernel_rfl) (by kernel_rfl) (by kernel_rfl) (by kernel_rfl)) (fun v w' => v = .int .i64 r.2 ∧ ∃ Fd', DiskS w' d Fd' (N + 1) r.1 ∧ Gr Fd Fd' wd w') ((rot_st wd d Fd N st hD1 nm HN.out si at2 mk hmk).mono fun e w' h => by rw [← hr] at h; obtain ⟨h1, Fd', h2, h3⟩ := h; exact ⟨_, h1, rfl, Fd', h2.mono (by omega), h3⟩) (fun r w9 hR => ?_) rdy_nil
  obtain ⟨rfl, Fd', hD2, hG2⟩ := hR
  obtain ⟨hW2, hY2, hFd2, hFy2, hX2⟩ := Two.prog (d := d) (N := N) (N' := N) (st' := st) hW1 hFd1 hFy1 hX hY1 hG2
  have hlt8 : w.heap.size < w9.heap.size := by have := hG2.1.size; omega
  refine ⟨(hG2.1.block _ hsz hnd).trans hHeld, fun hHeld => ?_⟩
  simp only [Act.put, List.setIfInBounds_toArray, List.set_cons_succ, List.set_cons_zero]
  refine wpAnyH_ready (rs := [19]) (by kernel_rfl) (by simp) ?_
  refine rdy_call (i := 19) rfl rfl (some 100) rfl 22 #[.pointer (some ⟨y, 0, none⟩), .string nm, .int .i64 si, .int .i64 at2, .int .u8 (mk : Int)] (twy_Rot (ts := #[24, 9, 3, 3, 5]) (x0 := 91) (x1 := 93) (x2 := 95) (x3 := 97) (x4 := 99) (by kernel_rfl) (by kernel_rfl) (by kernel_rfl) (by kernel_rfl) (by kernel_rfl) (by kernel_rfl)) (fun v w' => v = .int .i64 r.2 ∧ ∃ Fy', DiskY w' y Fy' room r.1 ∧ Gr Fy Fy' w9 w') ((rotY_st w9 y Fy room st hY2 (fun k hk => (hFy2 k hk).2) nm si at2 mk hmk).mono fun e w' h => by rw [← hr] at h; obtain ⟨h1, Fy', h2, h3⟩ := h; exact ⟨_, h1, rfl, Fy', h2, h3⟩) (fun r w9 hR => ?_) rdy_nil
  obtain ⟨rfl, Fy', hY3, hG3⟩ := hR
  obtain ⟨hW3, hD3, hFd3, hFy3, hX3⟩ := Two.doc (y := y) (room := room) hW2 hFd2 hFy2 hX2 hD2 hG3
  refine ⟨(hG3.1.block _ hlt8 hny).trans hHeld, fun hHeld => ?_⟩
  simp only [Act.put, List.setIfInBounds_toArray, List.set_cons_succ, List.set_cons_zero]
  obtain ⟨hU1, hU2, hU3⟩ := gr_two hbw hG2 hG3 hUd hUy
  have HTZ := hidn (show ∃ st' U', TwX W0 w9 d (N + 1) y room st' st' U' ∧ Gr U U' w w9 from ⟨r.1, _, ⟨hW3, Fd', Fy', hD3, hY3, hFd3, hFy3, hX3, hU2, hU3⟩, hU1⟩)
  obtain ⟨z, hz⟩ : ∃ z, z = r.2 := ⟨_, rfl⟩
  rw [← hz]
  clear hz
  refine drawn_take (i := 20) (v := .bool true) (some 101) rfl rfl (by kernel_rfl) (by kernel_rfl) (by kernel_rfl) (fun _ _ _ h => h) (Or.inl ⟨by kernel_rfl, fun wq hw => by go_simp⟩) hHeld ?_
  simp only [Act.put, List.setIfInBounds_toArray, List.set_cons_succ, List.set_cons_zero]
  refine drawn_take (i := 21) (v := .bool true) (some 6) rfl rfl (by kernel_rfl) (by kernel_rfl) (by kernel_rfl) (fun _ _ _ h => h) (Or.inl ⟨by kernel_rfl, fun wq hw => by go_simp⟩) hHeld ?_
  simp only [Act.put, List.setIfInBounds_toArray, List.set_cons_succ, List.set_cons_zero]
  refine wpAnyH_done (by kernel_rfl) ?_ _
  refine NoPanic.normal ?_
  clear hHeld hW hD hY hFd hFy hX hV hbw hsz hnd hny hD1 hY1 hW1 hFd1 hFy1 hr hD2 hG2 hW2 hY2 hFd2 hFy2 hX2 hY3 hG3 hW3 hD3 hFd3 hFy3 hX3 hlt8 hU1 hU2 hU3 hUd hUy
  go_wp2
  go_ret
  exact ⟨rfl, HTZ.out⟩

set_option maxHeartbeats 8000000 in
set_option maxRecDepth 100000 in
theorem do_5 (W0 w : World) (d N y : Nat) (room : Int) (st : St) (U : Nat → Prop) (h : TwX W0 w d N y room st st U) (hN : N < 1000000) (op si at2 n3 : Int) (nm : ByteArray) (sa : Option Addr) (sl sc : Nat) (zs : List Nat) (mk : Nat) (hmk : mk < 256) (ka : Option Addr) (kl kc : Nat) (ks : List Kp) (hnm : nm.size ≤ maxLen) (hB : Bs W0 sa sl zs) (hK : Kps W0 ka kl ks) (hn3 : n3 ≤ 9223372036854775807) (hq : wrap64 ((IntKind.u64.wrap op).tmod 7) = 5) :
    Calls Try.prog 7 #[.agg #[.int .i64 op, .int .i64 si, .int .i64 at2, .int .i64 n3, .string nm, .slice sa sl sc, .int .u8 (mk : Int), .slice ka kl kc], .pointer (some ⟨d, 0, none⟩), .pointer (some ⟨y, 0, none⟩)] w (DoPostU W0 w d N y room U) := by
  have t0 : ((5 : Int) == 0) = false := by decide
  have t1 : ((5 : Int) == 1) = false := by decide
  have t2 : ((5 : Int) == 2) = false := by decide
  have t3 : ((5 : Int) == 3) = false := by decide
  have t4 : ((5 : Int) == 4) = false := by decide
  have HT := hidn h
  have HB := hidn hB
  have HK := hidn hK
  have HN := hidn hnm
  clear h hB hK hnm
  go_enter Try.func7, Try.ntmps7
  go_wp2_with fail
  clear hq t0 t1 t2 t3 t4
  obtain ⟨hW, Fd, Fy, hD, hY, hFd, hFy, hX, hUd, hUy⟩ := HT.out
  obtain ⟨V, hV⟩ := HT.out.rel
  obtain ⟨wd, hwd⟩ : ∃ wd, wd = (w.alloc (.cells #[.int .i64 op, .int .i64 si, .int .i64 at2, .int .i64 n3, .string nm, .slice sa sl sc, .int .u8 (mk : Int), .slice ka kl kc] 32)).drew := ⟨_, rfl⟩
  have hbw : Below w.heap.size w wd := by rw [hwd]; exact ((Below.refl _ _).alloc (Nat.le_refl _) _).drew
  have hbox : wd.heap[w.heap.size]? = some (.cells #[.int .i64 op, .int .i64 si, .int .i64 at2, .int .i64 n3, .string nm, .slice sa sl sc, .int .u8 (mk : Int), .slice ka kl kc] 32 (0, 0)) := by rw [hwd]; exact heap_alloc_new _ _
  have hsz : w.heap.size < wd.heap.size := (Array.getElem?_eq_some_iff.1 hbox).1
  have hnd : ¬ Fd w.heap.size := fun hf => Nat.lt_irrefl _ (hFd _ hf).2
  have hny : ¬ Fy w.heap.size := fun hf => Nat.lt_irrefl _ (hFy _ hf).2
  have hD1 : DiskS wd d Fd N st := hD.below hbw
  have hY1 : DiskY wd y Fy room st := hY.below (fun k hk => (hFy k hk).2) hbw
  have hW1 : Below W0.heap.size W0 wd := hW.trans (hbw.mono hW.size)
  have hFd1 : ∀ k, Fd k → W0.heap.size ≤ k ∧ k < wd.heap.size := fun k hk => ⟨(hFd k hk).1, by have := (hFd k hk).2; omega⟩
  have hFy1 : ∀ k, Fy k → W0.heap.size ≤ k ∧ k < wd.heap.size := fun k hk => ⟨(hFy k hk).1, by have := (hFy k hk).2; omega⟩
  obtain ⟨r, hr⟩ : ∃ r, r = crD st ks := ⟨_, rfl⟩
  refine wp_region_noPanic ?_
  refine wp_region_held_drew (S := fun w' => w'.heap[w.heap.size]? = some (.cells #[.int .i64 op, .int .i64 si, .int .i64 at2, .int .i64 n3, .string nm, .slice sa sl sc, .int .u8 (mk : Int), .slice ka kl kc] 32 (0, 0))) (by kernel_rfl) (by rw [← hwd]; exact hbox) (fun hHeld => ?_)
  rw [← hwd] at hHeld ⊢
  clear hwd hbox
  refine drawn_take (i := 0) (v := .pointer (some ⟨d, 0, none⟩)) (some 104) rfl rfl (by kernel_rfl) (by kernel_rfl) (by kernel_rfl) (fun _ _ _ h => h) (Or.inl ⟨by kernel_rfl, fun wq hw => by go_simp⟩) hHeld ?_
  simp only [Act.put, List.setIfInBounds_toArray, List.set_cons_succ, List.set_cons_zero]
  refine drawn_take (i := 1) (v := .pointer (some ⟨w.heap.size, 7, none⟩)) (some 105) rfl rfl (by kernel_rfl) (by kernel_rfl) (by kernel_rfl) (fun _ _ _ h => h) (Or.inl ⟨by kernel_rfl, fun wq hw => by go_simp⟩) hHeld ?_
  simp only [Act.put, List.setIfInBounds_toArray, List.set_cons_succ, List.set_cons_zero]
  refine drawn_take (i := 2) (v := .slice ka kl kc) (some 106) rfl rfl (by kernel_rfl) (by kernel_rfl) (by kernel_rfl) (fun _ _ _ h => h) (Or.inl ⟨by kernel_rfl, fun wq hw => by have q : wq.cell? ⟨w.heap.size, 7, none⟩ = some (.slice ka kl kc) := cell_of_row _ _ _ _ _ _ hw; go_simp⟩) hHeld ?_
  simp only [Act.put, List.setIfInBounds_toArray, List.set_cons_succ, List.set_cons_zero]
  refine drawn_take (i := 4) (v := .pointer (some ⟨y, 0, none⟩)) (some 108) rfl rfl (by kernel_rfl) (by kernel_rfl) (by kernel_rfl) (fun _ _ _ h => h) (Or.inl ⟨by kernel_rfl, fun wq hw => by go_simp⟩) hHeld ?_
  simp only [Act.put, List.setIfInBounds_toArray, List.set_cons_succ, List.set_cons_zero]
  refine drawn_take (i := 5) (v := .pointer (some ⟨w.heap.size, 7, none⟩)) (some 109) rfl rfl (by kernel_rfl) (by kernel_rfl) (by kernel_rfl) (fun _ _ _ h => h) (Or.inl ⟨by kernel_rfl, fun wq hw => by go_simp⟩) hHeld ?_
  simp only [Act.put, List.setIfInBounds_toArray, List.set_cons_succ, List.set_cons_zero]
  refine drawn_take (i := 6) (v := .slice ka kl kc) (some 110) rfl rfl (by kernel_rfl) (by kernel_rfl) (by kernel_rfl) (fun _ _ _ h => h) (Or.inl ⟨by kernel_rfl, fun wq hw => by have q : wq.cell? ⟨w.heap.size, 7, none⟩ = some (.slice ka kl kc) := cell_of_row _ _ _ _ _ _ hw; go_simp⟩) hHeld ?_
  simp only [Act.put, List.setIfInBounds_toArray, List.set_cons_succ, List.set_cons_zero]
  refine wpAnyH_ready (rs := [3]) (by kernel_rfl) (by simp) ?_
  refine rdy_call (i := 3) rfl rfl (some 107) rfl 23 #[.pointer (some ⟨d, 0, none⟩), .slice ka kl kc] (tw_Crash (ts := #[23, 30]) (x0 := 104) (x1 := 106) (by kernel_rfl) (by kernel_rfl) (by kernel_rfl)) (fun v w' => v = .int .i64 r.2 ∧ ∃ Fd', DiskS w' d Fd' (N + 1) r.1 ∧ Gr Fd Fd' wd w') ((crash_st wd d Fd N st hD1 (fun k hk => (hFd1 k hk).2) ka kl kc ks (HK.out.below hW1)).mono fun e w' h => by rw [← hr] at h; obtain ⟨h1, Fd', h2, h3⟩ := h; exact ⟨_, h1, rfl, Fd', h2.mono (by omega), h3⟩) (fun r w9 hR => ?_) rdy_nil
  obtain ⟨rfl, Fd', hD2, hG2⟩ := hR
  obtain ⟨hW2, hY2, hFd2, hFy2, hX2⟩ := Two.prog (d := d) (N := N) (N' := N) (st' := st) hW1 hFd1 hFy1 hX hY1 hG2
  have hlt8 : w.heap.size < w9.heap.size := by have := hG2.1.size; omega
  refine ⟨(hG2.1.block _ hsz hnd).trans hHeld, fun hHeld => ?_⟩
  simp only [Act.put, List.setIfInBounds_toArray, List.set_cons_succ, List.set_cons_zero]
  refine wpAnyH_ready (rs := [7]) (by kernel_rfl) (by simp) ?_
  refine rdy_call (i := 7) rfl rfl (some 111) rfl 24 #[.pointer (some ⟨y, 0, none⟩), .slice ka kl kc] (twy_Crash (ts := #[24, 30]) (x0 := 108) (x1 := 110) (by kernel_rfl) (by kernel_rfl) (by kernel_rfl)) (fun v w' => v = .int .i64 r.2 ∧ ∃ Fy', DiskY w' y Fy' room r.1 ∧ Gr Fy Fy' w9 w') ((crashY_st w9 y Fy room st hY2 (fun k hk => (hFy2 k hk).2) ka kl kc ks (HK.out.below hW2) (kps_far HK.out hFy2)).mono fun e w' h => by rw [← hr] at h; obtain ⟨h1, Fy', h2, h3⟩ := h; exact ⟨_, h1, rfl, Fy', h2, h3⟩) (fun r w9 hR => ?_) rdy_nil
  obtain ⟨rfl, Fy', hY3, hG3⟩ := hR
  obtain ⟨hW3, hD3, hFd3, hFy3, hX3⟩ := Two.doc (y := y) (room := room) hW2 hFd2 hFy2 hX2 hD2 hG3
  refine ⟨(hG3.1.block _ hlt8 hny).trans hHeld, fun hHeld => ?_⟩
  simp only [Act.put, List.setIfInBounds_toArray, List.set_cons_succ, List.set_cons_zero]
  obtain ⟨hU1, hU2, hU3⟩ := gr_two hbw hG2 hG3 hUd hUy
  have HTZ := hidn (show ∃ st' U', TwX W0 w9 d (N + 1) y room st' st' U' ∧ Gr U U' w w9 from ⟨r.1, _, ⟨hW3, Fd', Fy', hD3, hY3, hFd3, hFy3, hX3, hU2, hU3⟩, hU1⟩)
  obtain ⟨z, hz⟩ : ∃ z, z = r.2 := ⟨_, rfl⟩
  rw [← hz]
  clear hz
  refine drawn_take (i := 8) (v := .bool true) (some 112) rfl rfl (by kernel_rfl) (by kernel_rfl) (by kernel_rfl) (fun _ _ _ h => h) (Or.inl ⟨by kernel_rfl, fun wq hw => by go_simp⟩) hHeld ?_
  simp only [Act.put, List.setIfInBounds_toArray, List.set_cons_succ, List.set_cons_zero]
  refine drawn_take (i := 9) (v := .bool true) (some 6) rfl rfl (by kernel_rfl) (by kernel_rfl) (by kernel_rfl) (fun _ _ _ h => h) (Or.inl ⟨by kernel_rfl, fun wq hw => by go_simp⟩) hHeld ?_
  simp only [Act.put, List.setIfInBounds_toArray, List.set_cons_succ, List.set_cons_zero]
  refine wpAnyH_done (by kernel_rfl) ?_ _
  refine NoPanic.normal ?_
  clear hHeld hW hD hY hFd hFy hX hV hbw hsz hnd hny hD1 hY1 hW1 hFd1 hFy1 hr hD2 hG2 hW2 hY2 hFd2 hFy2 hX2 hY3 hG3 hW3 hD3 hFd3 hFy3 hX3 hlt8 hU1 hU2 hU3 hUd hUy
  go_wp2
  go_ret
  exact ⟨rfl, HTZ.out⟩

set_option maxHeartbeats 8000000 in
set_option maxRecDepth 100000 in
theorem do_6 (W0 w : World) (d N y : Nat) (room : Int) (st : St) (U : Nat → Prop) (h : TwX W0 w d N y room st st U) (hN : N < 1000000) (op si at2 n3 : Int) (nm : ByteArray) (sa : Option Addr) (sl sc : Nat) (zs : List Nat) (mk : Nat) (hmk : mk < 256) (ka : Option Addr) (kl kc : Nat) (ks : List Kp) (hnm : nm.size ≤ maxLen) (hB : Bs W0 sa sl zs) (hK : Kps W0 ka kl ks) (hn3 : n3 ≤ 9223372036854775807) (hq : wrap64 ((IntKind.u64.wrap op).tmod 7) = 6) :
    Calls Try.prog 7 #[.agg #[.int .i64 op, .int .i64 si, .int .i64 at2, .int .i64 n3, .string nm, .slice sa sl sc, .int .u8 (mk : Int), .slice ka kl kc], .pointer (some ⟨d, 0, none⟩), .pointer (some ⟨y, 0, none⟩)] w (DoPostU W0 w d N y room U) := by
  have t0 : ((6 : Int) == 0) = false := by decide
  have t1 : ((6 : Int) == 1) = false := by decide
  have t2 : ((6 : Int) == 2) = false := by decide
  have t3 : ((6 : Int) == 3) = false := by decide
  have t4 : ((6 : Int) == 4) = false := by decide
  have t5 : ((6 : Int) == 5) = false := by decide
  have HT := hidn h
  have HB := hidn hB
  have HK := hidn hK
  have HN := hidn hnm
  clear h hB hK hnm
  go_enter Try.func7, Try.ntmps7
  go_wp2_with fail
  clear hq t0 t1 t2 t3 t4 t5
  obtain ⟨hW, Fd, Fy, hD, hY, hFd, hFy, hX, hUd, hUy⟩ := HT.out
  obtain ⟨V, hV⟩ := HT.out.rel
  obtain ⟨wd, hwd⟩ : ∃ wd, wd = (w.alloc (.cells #[.int .i64 op, .int .i64 si, .int .i64 at2, .int .i64 n3, .string nm, .slice sa sl sc, .int .u8 (mk : Int), .slice ka kl kc] 32)).drew := ⟨_, rfl⟩
  have hbw : Below w.heap.size w wd := by rw [hwd]; exact ((Below.refl _ _).alloc (Nat.le_refl _) _).drew
  have hbox : wd.heap[w.heap.size]? = some (.cells #[.int .i64 op, .int .i64 si, .int .i64 at2, .int .i64 n3, .string nm, .slice sa sl sc, .int .u8 (mk : Int), .slice ka kl kc] 32 (0, 0)) := by rw [hwd]; exact heap_alloc_new _ _
  have hsz : w.heap.size < wd.heap.size := (Array.getElem?_eq_some_iff.1 hbox).1
  have hnd : ¬ Fd w.heap.size := fun hf => Nat.lt_irrefl _ (hFd _ hf).2
  have hny : ¬ Fy w.heap.size := fun hf => Nat.lt_irrefl _ (hFy _ hf).2
  have hD1 : DiskS wd d Fd N st := hD.below hbw
  have hY1 : DiskY wd y Fy room st := hY.below (fun k hk => (hFy k hk).2) hbw
  have hW1 : Below W0.heap.size W0 wd := hW.trans (hbw.mono hW.size)
  have hFd1 : ∀ k, Fd k → W0.heap.size ≤ k ∧ k < wd.heap.size := fun k hk => ⟨(hFd k hk).1, by have := (hFd k hk).2; omega⟩
  have hFy1 : ∀ k, Fy k → W0.heap.size ≤ k ∧ k < wd.heap.size := fun k hk => ⟨(hFy k hk).1, by have := (hFy k hk).2; omega⟩
  obtain ⟨r, hr⟩ : ∃ r, r = fuD st n3 := ⟨_, rfl⟩
  refine wp_region_noPanic ?_
  refine wp_region_held_drew (S := fun w' => w'.heap[w.heap.size]? = some (.cells #[.int .i64 op, .int .i64 si, .int .i64 at2, .int .i64 n3, .string nm, .slice sa sl sc, .int .u8 (mk : Int), .slice ka kl kc] 32 (0, 0))) (by kernel_rfl) (by rw [← hwd]; exact hbox) (fun hHeld => ?_)
  rw [← hwd] at hHeld ⊢
  clear hwd hbox
  refine drawn_take (i := 0) (v := .pointer (some ⟨d, 0, none⟩)) (some 113) rfl rfl (by kernel_rfl) (by kernel_rfl) (by kernel_rfl) (fun _ _ _ h => h) (Or.inl ⟨by kernel_rfl, fun wq hw => by go_simp⟩) hHeld ?_
  simp only [Act.put, List.setIfInBounds_toArray, List.set_cons_succ, List.set_cons_zero]
  refine drawn_take (i := 1) (v := .pointer (some ⟨w.heap.size, 3, none⟩)) (some 114) rfl rfl (by kernel_rfl) (by kernel_rfl) (by kernel_rfl) (fun _ _ _ h => h) (Or.inl ⟨by kernel_rfl, fun wq hw => by go_simp⟩) hHeld ?_
  simp only [Act.put, List.setIfInBounds_toArray, List.set_cons_succ, List.set_cons_zero]
  refine drawn_take (i := 2) (v := .int .i64 n3) (some 115) rfl rfl (by kernel_rfl) (by kernel_rfl) (by kernel_rfl) (fun _ _ _ h => h) (Or.inl ⟨by kernel_rfl, fun wq hw => by have q : wq.cell? ⟨w.heap.size, 3, none⟩ = some (.int .i64 n3) := cell_of_row _ _ _ _ _ _ hw; go_simp⟩) hHeld ?_
  simp only [Act.put, List.setIfInBounds_toArray, List.set_cons_succ, List.set_cons_zero]
  refine drawn_take (i := 4) (v := .pointer (some ⟨y, 0, none⟩)) (some 117) rfl rfl (by kernel_rfl) (by kernel_rfl) (by kernel_rfl) (fun _ _ _ h => h) (Or.inl ⟨by kernel_rfl, fun wq hw => by go_simp⟩) hHeld ?_
  simp only [Act.put, List.setIfInBounds_toArray, List.set_cons_succ, List.set_cons_zero]
  refine drawn_take (i := 5) (v := .pointer (some ⟨w.heap.size, 3, none⟩)) (some 118) rfl rfl (by kernel_rfl) (by kernel_rfl) (by kernel_rfl) (fun _ _ _ h => h) (Or.inl ⟨by kernel_rfl, fun wq hw => by go_simp⟩) hHeld ?_
  simp only [Act.put, List.setIfInBounds_toArray, List.set_cons_succ, List.set_cons_zero]
  refine drawn_take (i := 6) (v := .int .i64 n3) (some 119) rfl rfl (by kernel_rfl) (by kernel_rfl) (by kernel_rfl) (fun _ _ _ h => h) (Or.inl ⟨by kernel_rfl, fun wq hw => by have q : wq.cell? ⟨w.heap.size, 3, none⟩ = some (.int .i64 n3) := cell_of_row _ _ _ _ _ _ hw; go_simp⟩) hHeld ?_
  simp only [Act.put, List.setIfInBounds_toArray, List.set_cons_succ, List.set_cons_zero]
  refine wpAnyH_ready (rs := [3]) (by kernel_rfl) (by simp) ?_
  refine rdy_call (i := 3) rfl rfl (some 116) rfl 25 #[.pointer (some ⟨d, 0, none⟩), .int .i64 n3] (tw_Fuse (ts := #[23, 3]) (x0 := 113) (x1 := 115) (by kernel_rfl) (by kernel_rfl) (by kernel_rfl)) (fun v w' => v = .int .i64 r.2 ∧ ∃ Fd', DiskS w' d Fd' (N + 1) r.1 ∧ Gr Fd Fd' wd w') ((fuse_st wd d Fd N st hD1 n3).mono fun e w' h => by rw [← hr] at h; obtain ⟨h1, Fd', h2, h3⟩ := h; exact ⟨_, h1, rfl, Fd', h2.mono (by omega), h3⟩) (fun r w9 hR => ?_) rdy_nil
  obtain ⟨rfl, Fd', hD2, hG2⟩ := hR
  obtain ⟨hW2, hY2, hFd2, hFy2, hX2⟩ := Two.prog (d := d) (N := N) (N' := N) (st' := st) hW1 hFd1 hFy1 hX hY1 hG2
  have hlt8 : w.heap.size < w9.heap.size := by have := hG2.1.size; omega
  refine ⟨(hG2.1.block _ hsz hnd).trans hHeld, fun hHeld => ?_⟩
  simp only [Act.put, List.setIfInBounds_toArray, List.set_cons_succ, List.set_cons_zero]
  refine wpAnyH_ready (rs := [7]) (by kernel_rfl) (by simp) ?_
  refine rdy_call (i := 7) rfl rfl (some 120) rfl 26 #[.pointer (some ⟨y, 0, none⟩), .int .i64 n3] (twy_Fuse (ts := #[24, 3]) (x0 := 117) (x1 := 119) (by kernel_rfl) (by kernel_rfl) (by kernel_rfl)) (fun v w' => v = .int .i64 r.2 ∧ ∃ Fy', DiskY w' y Fy' room r.1 ∧ Gr Fy Fy' w9 w') ((fuseY_st w9 y Fy room st hY2 n3 hn3).mono fun e w' h => by rw [← hr] at h; obtain ⟨h1, Fy', h2, h3⟩ := h; exact ⟨_, h1, rfl, Fy', h2, h3⟩) (fun r w9 hR => ?_) rdy_nil
  obtain ⟨rfl, Fy', hY3, hG3⟩ := hR
  obtain ⟨hW3, hD3, hFd3, hFy3, hX3⟩ := Two.doc (y := y) (room := room) hW2 hFd2 hFy2 hX2 hD2 hG3
  refine ⟨(hG3.1.block _ hlt8 hny).trans hHeld, fun hHeld => ?_⟩
  simp only [Act.put, List.setIfInBounds_toArray, List.set_cons_succ, List.set_cons_zero]
  obtain ⟨hU1, hU2, hU3⟩ := gr_two hbw hG2 hG3 hUd hUy
  have HTZ := hidn (show ∃ st' U', TwX W0 w9 d (N + 1) y room st' st' U' ∧ Gr U U' w w9 from ⟨r.1, _, ⟨hW3, Fd', Fy', hD3, hY3, hFd3, hFy3, hX3, hU2, hU3⟩, hU1⟩)
  obtain ⟨z, hz⟩ : ∃ z, z = r.2 := ⟨_, rfl⟩
  rw [← hz]
  clear hz
  refine drawn_take (i := 8) (v := .bool true) (some 121) rfl rfl (by kernel_rfl) (by kernel_rfl) (by kernel_rfl) (fun _ _ _ h => h) (Or.inl ⟨by kernel_rfl, fun wq hw => by go_simp⟩) hHeld ?_
  simp only [Act.put, List.setIfInBounds_toArray, List.set_cons_succ, List.set_cons_zero]
  refine drawn_take (i := 9) (v := .bool true) (some 6) rfl rfl (by kernel_rfl) (by kernel_rfl) (by kernel_rfl) (fun _ _ _ h => h) (Or.inl ⟨by kernel_rfl, fun wq hw => by go_simp⟩) hHeld ?_
  simp only [Act.put, List.setIfInBounds_toArray, List.set_cons_succ, List.set_cons_zero]
  refine wpAnyH_done (by kernel_rfl) ?_ _
  refine NoPanic.normal ?_
  clear hHeld hW hD hY hFd hFy hX hV hbw hsz hnd hny hD1 hY1 hW1 hFd1 hFy1 hr hD2 hG2 hW2 hY2 hFd2 hFy2 hX2 hY3 hG3 hW3 hD3 hFd3 hFy3 hX3 hlt8 hU1 hU2 hU3 hUd hUy
  go_wp2
  go_ret
  exact ⟨rfl, HTZ.out⟩

set_option maxHeartbeats 8000000 in
set_option maxRecDepth 100000 in
theorem do_0 (W0 w : World) (d N y : Nat) (room : Int) (st : St) (U : Nat → Prop) (h : TwX W0 w d N y room st st U) (hN : N < 1000000) (op si at2 n3 : Int) (nm : ByteArray) (sa : Option Addr) (sl sc : Nat) (zs : List Nat) (mk : Nat) (hmk : mk < 256) (ka : Option Addr) (kl kc : Nat) (ks : List Kp) (hnm : nm.size ≤ maxLen) (hB : Bs W0 sa sl zs) (hK : Kps W0 ka kl ks) (hn3 : n3 ≤ 9223372036854775807) (hq : wrap64 ((IntKind.u64.wrap op).tmod 7) = 0) :
    Calls Try.prog 7 #[.agg #[.int .i64 op, .int .i64 si, .int .i64 at2, .int .i64 n3, .string nm, .slice sa sl sc, .int .u8 (mk : Int), .slice ka kl kc], .pointer (some ⟨d, 0, none⟩), .pointer (some ⟨y, 0, none⟩)] w (DoPostU W0 w d N y room U) := by
  have HT := hidn h
  have HB := hidn hB
  have HK := hidn hK
  have HN := hidn hnm
  clear h hB hK hnm
  go_enter Try.func7, Try.ntmps7
  go_wp2_with fail
  clear hq
  obtain ⟨hW, Fd, Fy, hD, hY, hFd, hFy, hX, hUd, hUy⟩ := HT.out
  obtain ⟨V, hV⟩ := HT.out.rel
  obtain ⟨wd, hwd⟩ : ∃ wd, wd = w.alloc (.cells #[.int .i64 op, .int .i64 si, .int .i64 at2, .int .i64 n3, .string nm, .slice sa sl sc, .int .u8 (mk : Int), .slice ka kl kc] 32) := ⟨_, rfl⟩
  have hbw : Below w.heap.size w wd := by rw [hwd]; exact (Below.refl _ _).alloc (Nat.le_refl _) _
  have hbox : wd.heap[w.heap.size]? = some (.cells #[.int .i64 op, .int .i64 si, .int .i64 at2, .int .i64 n3, .string nm, .slice sa sl sc, .int .u8 (mk : Int), .slice ka kl kc] 32 (0, 0)) := by rw [hwd]; exact heap_alloc_new _ _
  have hsz : w.heap.size < wd.heap.size := (Array.getElem?_eq_some_iff.1 hbox).1
  have hnd : ¬ Fd w.heap.size := fun hf => Nat.lt_irrefl _ (hFd _ hf).2
  have hny : ¬ Fy w.heap.size := fun hf => Nat.lt_irrefl _ (hFy _ hf).2
  have hW1 : Below W0.heap.size W0 wd := hW.trans (hbw.mono hW.size)
  obtain ⟨r, hr⟩ : ∃ r, r = wrI st nm.data.toList 128 si (padTo zs) := ⟨_, rfl⟩
  rw [← hwd]
  refine (full_row wd _ _ _ _ _ _ _ sa sl sc zs (HB.out.below hW1)).mono ?_
  rintro e w1 ⟨fb, rfl, hfb, hfl, hBf, bf, hrf⟩
  have hbx1 : w1.heap[w.heap.size]? = some (.cells #[.int .i64 op, .int .i64 si, .int .i64 at2, .int .i64 n3, .string nm, .slice sa sl sc, .int .u8 (mk : Int), .slice ka kl kc] 32 (0, 0)) := (bf.block _ hsz).trans hbox
  have hb1 : Below w.heap.size w w1 := hbw.trans (bf.mono hbw.size)
  have hsz1 : w.heap.size < w1.heap.size := Nat.lt_of_lt_of_le hsz bf.size
  have hD1 : DiskS w1 d Fd N st := hD.below hb1
  have hY1 : DiskY w1 y Fy room st := hY.below (fun k hk => (hFy k hk).2) hb1
  have hW1' : Below W0.heap.size W0 w1 := hW.trans (hb1.mono hW.size)
  have hFd1 : ∀ k, Fd k → W0.heap.size ≤ k ∧ k < w1.heap.size := fun k hk => ⟨(hFd k hk).1, by have := (hFd k hk).2; omega⟩
  have hFy1 : ∀ k, Fy k → W0.heap.size ≤ k ∧ k < w1.heap.size := fun k hk => ⟨(hFy k hk).1, by have := (hFy k hk).2; omega⟩
  have hfbd : ∀ k, Fd k → k ≠ fb := fun k hk e => by have := (hFd k hk).2; omega
  have hfby : ∀ k, Fy k → k ≠ fb := fun k hk e => by have := (hFy k hk).2; omega
  have hBF : BsF Fd w1 (some ⟨fb, 0, none⟩) 128 (padTo zs) := ⟨hBf, fun x hx _ hf => by cases hx; exact hfbd _ hf rfl⟩
  have HW := hidn (write_I w1 d Fd N st hD1 nm HN.out si (some ⟨fb, 0, none⟩) 128 128 (padTo zs) hBF hV hN)
  have HBX1 := hidn hbx1
  have q4 : w1.cell? ⟨w.heap.size, 4, none⟩ = some (.string nm) := cell_of_row _ _ _ _ _ _ hbx1
  have q1 : w1.cell? ⟨w.heap.size, 1, none⟩ = some (.int .i64 si) := cell_of_row _ _ _ _ _ _ hbx1
  have HUD := hidn hUd
  have HUY := hidn hUy
  have KW1 := hidn hb1
  have P1 := hidn (show Fd = Fd ∧ (∀ k, Fd k → k ≠ fb) ∧ (∀ k, Fy k → k ≠ fb) ∧ (∀ k, Fd k → W0.heap.size ≤ k ∧ k < w1.heap.size) ∧ (∀ k, Fy k → W0.heap.size ≤ k ∧ k < w1.heap.size) ∧ (∀ k, Fd k → ¬ Fy k) ∧ DiskY w1 y Fy room st ∧ Below W0.heap.size W0 w1 ∧ ¬ Fd w.heap.size ∧ ¬ Fy w.heap.size ∧ Row128 w1 fb ∧ fb < w1.heap.size ∧ w.heap.size < fb from ⟨rfl, hfbd, hfby, hFd1, hFy1, hX, hY1, hW1', hnd, hny, hrf, hfl, by omega⟩)
  have HR := hidn hr
  clear hUd hUy hD hY hFd hFy hX hV hwd hbw hbox hsz hnd hny hW1 hr hfb hfl hBf bf hrf hbx1 hb1 hsz1 hD1 hY1 hW1' hFd1 hFy1 hfbd hfby hBF hW
  go_wp2_with fail
  refine HW.out.mono ?_
  rintro e w2 ⟨he, Fd', hD2, hG2⟩
  rw [← HR.out] at he hD2
  subst he
  obtain ⟨_, hfbd, hfby, hFd1, hFy1, hX, hY1, hW1, hnd, hny, hrf, hfl, hwf⟩ := P1.out
  obtain ⟨hW2, hY2, hFd2, hFy2, hX2⟩ := Two.prog (d := d) (N := N) (N' := N) (st' := st) hW1 hFd1 hFy1 hX hY1 hG2
  have hrf2 : Row128 w2 fb := by
    obtain ⟨cs, t, h1, h2, h3⟩ := hrf
    exact ⟨cs, t, (hG2.1.block fb hfl (fun hf => hfbd fb hf rfl)).trans h1, h2, h3⟩
  have hbx2 : w2.heap[w.heap.size]? = some (.cells #[.int .i64 op, .int .i64 si, .int .i64 at2, .int .i64 n3, .string nm, .slice sa sl sc, .int .u8 (mk : Int), .slice ka kl kc] 32 (0, 0)) := (hG2.1.block _ (Array.getElem?_eq_some_iff.1 HBX1.out).1 hnd).trans HBX1.out
  have hnd2 : ¬ Fd' fb := hG2.not hfl (fun hf => hfbd fb hf rfl)
  have hnb2 : ¬ Fd' w.heap.size := hG2.not (Array.getElem?_eq_some_iff.1 HBX1.out).1 hnd
  have hsp2 := hG2.1.size
  have KW2 := hidn (show (∀ k, k < w.heap.size → ¬ U k → w2.heap[k]? = w.heap[k]?) ∧ (∀ k, Fd' k → U k ∨ w.heap.size ≤ k) ∧ w2.os = w.os ∧ w2.tape = w.tape ∧ w2.output = w.output from
    ⟨fun k hk hn => (hG2.1.block k (Nat.lt_of_lt_of_le hk KW1.out.size) (fun hf => hn (HUD.out k hf))).trans (KW1.out.block k hk), fun k hk => by
      rcases hG2.2 k hk with h | ⟨h, _⟩
      · exact .inl (HUD.out k h)
      · exact .inr (Nat.le_trans KW1.out.size h), hG2.1.os.trans KW1.out.os, hG2.1.tape.trans KW1.out.tape, hG2.1.output.trans KW1.out.output⟩)
  obtain ⟨z, hz⟩ : ∃ z, z = r.2 := ⟨_, rfl⟩
  rw [← hz]
  have P2 := hidn (show DiskS w2 d Fd' (N + 1) r.1 ∧ DiskY w2 y Fy room st ∧ Below W0.heap.size W0 w2 ∧ (∀ k, Fd' k → W0.heap.size ≤ k ∧ k < w2.heap.size) ∧ (∀ k, Fy k → W0.heap.size ≤ k ∧ k < w2.heap.size) ∧ (∀ k, Fd' k → ¬ Fy k) ∧ w2.heap[w.heap.size]? = some (.cells #[.int .i64 op, .int .i64 si, .int .i64 at2, .int .i64 n3, .string nm, .slice sa sl sc, .int .u8 (mk : Int), .slice ka kl kc] 32 (0, 0)) ∧ ¬ Fd' fb ∧ ¬ Fy fb ∧ ¬ Fd' w.heap.size ∧ ¬ Fy w.heap.size ∧ z = r.2 ∧ fb < w2.heap.size ∧ w.heap.size < fb ∧ W0.heap.size ≤ w.heap.size from
    ⟨hD2, hY2, hW2, hFd2, hFy2, hX2, hbx2, hnd2, fun hf => hfby fb hf rfl, hnb2, hny, hz, by omega, hwf, HT.out.1.size⟩)
  have HRF := hidn hrf2
  clear hD2 hG2 hfbd hfby hFd1 hFy1 hX hY1 hW1 hnd hny hrf hfl hwf hW2 hY2 hFd2 hFy2 hX2 hrf2 hbx2 hnd2 hnb2 hsp2 hz q4 q1 P1 HW HBX1
  go_wp2_with fail
  have hgn : w2.heap.size ≠ fb := by have := P2.out.2.2.2.2.2.2.2.2.2.2.2.2.1; omega
  have hro3 : Row128 (w2.alloc (.cells #[.slice (some ⟨fb, 0, none⟩) 128 128] 29)) fb := by
    obtain ⟨cs, t, h1, h2, h3⟩ := HRF.out
    exact ⟨cs, t, (Below.heap_alloc _ _ _ (Array.getElem?_eq_some_iff.1 h1).1).trans h1, h2, h3⟩
  refine (spoil_one (w2.alloc (.cells #[.slice (some ⟨fb, 0, none⟩) 128 128] 29)) w2.heap.size fb 128 (heap_alloc_new _ _) hro3 hgn).mono ?_
  rintro e w3 ⟨rfl, hK3⟩
  clear hgn hro3 HRF
  obtain ⟨hD2, hY2, hW2, hFd2, hFy2, hX2, hbx2, hnd2, hny2, hnb2, hny, hz, hfl, hwf, hw0⟩ := P2.out
  have hk23 : ∀ k, k < w2.heap.size → k ≠ fb → w3.heap[k]? = w2.heap[k]? := fun k hk hn => (hK3.block k (by rw [World.size_alloc]; omega) hn).trans (Below.heap_alloc _ _ _ hk)
  have hs23 : w2.heap.size ≤ w3.heap.size := by have := hK3.size; rw [World.size_alloc] at this; omega
  have hD3 : DiskS w3 d Fd' (N + 1) r.1 := hD2.other (fun k hk => hk23 k (hFd2 k hk).2 (fun e => hnd2 (e ▸ hk)))
  have hY3 : DiskY w3 y Fy room st := hY2.other (fun k hk => hk23 k (hFy2 k hk).2 (fun e => hny2 (e ▸ hk)))
  have hW3 : Below W0.heap.size W0 w3 := hW2.trans (⟨hK3.os, hK3.tape, hK3.output, hs23, fun i hi => hk23 i (by have := hW2.size; omega) (by omega)⟩)
  have hbx3 : w3.heap[w.heap.size]? = some (.cells #[.int .i64 op, .int .i64 si, .int .i64 at2, .int .i64 n3, .string nm, .slice sa sl sc, .int .u8 (mk : Int), .slice ka kl kc] 32 (0, 0)) := (hk23 _ (by omega) (by omega)).trans hbx2
  have hFd3 : ∀ k, Fd' k → W0.heap.size ≤ k ∧ k < w3.heap.size := fun k hk => ⟨(hFd2 k hk).1, by have := (hFd2 k hk).2; omega⟩
  have hFy3 : ∀ k, Fy k → W0.heap.size ≤ k ∧ k < w3.heap.size := fun k hk => ⟨(hFy2 k hk).1, by have := (hFy2 k hk).2; omega⟩
  have KW3 := hidn (show (∀ k, k < w.heap.size → ¬ U k → w3.heap[k]? = w.heap[k]?) ∧ w3.os = w.os ∧ w3.tape = w.tape ∧ w3.output = w.output from
    ⟨fun k hk hn => (hk23 k (by omega) (by omega)).trans (KW2.out.1 k hk hn), hK3.os.trans KW2.out.2.2.1, hK3.tape.trans KW2.out.2.2.2.1, hK3.output.trans KW2.out.2.2.2.2⟩)
  have P3 := hidn (show DiskS w3 d Fd' (N + 1) r.1 ∧ DiskY w3 y Fy room st ∧ Below W0.heap.size W0 w3 ∧ (∀ k, Fd' k → W0.heap.size ≤ k ∧ k < w3.heap.size) ∧ (∀ k, Fy k → W0.heap.size ≤ k ∧ k < w3.heap.size) ∧ (∀ k, Fd' k → ¬ Fy k) ∧ w3.heap[w.heap.size]? = some (.cells #[.int .i64 op, .int .i64 si, .int .i64 at2, .int .i64 n3, .string nm, .slice sa sl sc, .int .u8 (mk : Int), .slice ka kl kc] 32 (0, 0)) ∧ ¬ Fd' w.heap.size ∧ ¬ Fy w.heap.size ∧ z = r.2 ∧ w.heap.size < w3.heap.size from ⟨hD3, hY3, hW3, hFd3, hFy3, hX2, hbx3, hnb2, hny, hz, by omega⟩)
  clear hD2 hY2 hW2 hFd2 hFy2 hX2 hbx2 hnd2 hny2 hnb2 hny hz hfl hwf hw0 hk23 hs23 hD3 hY3 hW3 hbx3 hFd3 hFy3 hK3 P2
  go_wp2_with fail
  obtain ⟨hD3, hY3, hW3, hFd3, hFy3, hX3, hbx3, hnb3, hny3, hz, hlt3⟩ := P3.out
  obtain ⟨wd, hwd⟩ : ∃ wd, wd = w3.drew := ⟨_, rfl⟩
  have hbd : Below w3.heap.size w3 wd := by rw [hwd]; exact (Below.refl _ _).drew
  have hsd : wd.heap.size = w3.heap.size := by rw [hwd]; rfl
  refine wp_region_noPanic ?_
  refine wp_region_held_drew (S := fun w' => w'.heap[w.heap.size]? = some (.cells #[.int .i64 op, .int .i64 si, .int .i64 at2, .int .i64 n3, .string nm, .slice sa sl sc, .int .u8 (mk : Int), .slice ka kl kc] 32 (0, 0))) (by kernel_rfl) hbx3 (fun hHeld => ?_)
  rw [← hwd] at hHeld ⊢
  clear hwd
  refine drawn_take (i := 0) (v := .int .i64 z) (some 28) rfl rfl (by kernel_rfl) (by kernel_rfl) (by kernel_rfl) (fun _ _ _ h => h) (Or.inl ⟨by kernel_rfl, fun wq hw => by go_simp⟩) hHeld ?_
  simp only [Act.put, List.setIfInBounds_toArray, List.set_cons_succ, List.set_cons_zero]
  refine drawn_take (i := 1) (v := .pointer (some ⟨y, 0, none⟩)) (some 29) rfl rfl (by kernel_rfl) (by kernel_rfl) (by kernel_rfl) (fun _ _ _ h => h) (Or.inl ⟨by kernel_rfl, fun wq hw => by go_simp⟩) hHeld ?_
  simp only [Act.put, List.setIfInBounds_toArray, List.set_cons_succ, List.set_cons_zero]
  refine drawn_take (i := 2) (v := .pointer (some ⟨w.heap.size, 4, none⟩)) (some 30) rfl rfl (by kernel_rfl) (by kernel_rfl) (by kernel_rfl) (fun _ _ _ h => h) (Or.inl ⟨by kernel_rfl, fun wq hw => by go_simp⟩) hHeld ?_
  simp only [Act.put, List.setIfInBounds_toArray, List.set_cons_succ, List.set_cons_zero]
  refine drawn_take (i := 3) (v := .string nm) (some 31) rfl rfl (by kernel_rfl) (by kernel_rfl) (by kernel_rfl) (fun _ _ _ h => h) (Or.inl ⟨by kernel_rfl, fun wq hw => by have q4 : wq.cell? ⟨w.heap.size, 4, none⟩ = some (.string nm) := cell_of_row _ _ _ _ _ _ hw; go_simp⟩) hHeld ?_
  simp only [Act.put, List.setIfInBounds_toArray, List.set_cons_succ, List.set_cons_zero]
  refine drawn_take (i := 4) (v := .pointer (some ⟨w.heap.size, 1, none⟩)) (some 32) rfl rfl (by kernel_rfl) (by kernel_rfl) (by kernel_rfl) (fun _ _ _ h => h) (Or.inl ⟨by kernel_rfl, fun wq hw => by go_simp⟩) hHeld ?_
  simp only [Act.put, List.setIfInBounds_toArray, List.set_cons_succ, List.set_cons_zero]
  refine drawn_take (i := 5) (v := .int .i64 si) (some 33) rfl rfl (by kernel_rfl) (by kernel_rfl) (by kernel_rfl) (fun _ _ _ h => h) (Or.inl ⟨by kernel_rfl, fun wq hw => by have q1 : wq.cell? ⟨w.heap.size, 1, none⟩ = some (.int .i64 si) := cell_of_row _ _ _ _ _ _ hw; go_simp⟩) hHeld ?_
  simp only [Act.put, List.setIfInBounds_toArray, List.set_cons_succ, List.set_cons_zero]
  refine drawn_take (i := 6) (v := .agg #[.int .i64 op, .int .i64 si, .int .i64 at2, .int .i64 n3, .string nm, .slice sa sl sc, .int .u8 (mk : Int), .slice ka kl kc]) (some 34) rfl rfl (by kernel_rfl) (by kernel_rfl) (by kernel_rfl) (fun _ _ _ h => h) (Or.inl ⟨by kernel_rfl, fun wq hw => by have q0 : wq.cell? ⟨w.heap.size, 0, none⟩ = some (.int .i64 op) := cell_of_row _ _ _ _ _ _ hw; have q1 : wq.cell? ⟨w.heap.size, 1, none⟩ = some (.int .i64 si) := cell_of_row _ _ _ _ _ _ hw; have q2 : wq.cell? ⟨w.heap.size, 2, none⟩ = some (.int .i64 at2) := cell_of_row _ _ _ _ _ _ hw; have q3 : wq.cell? ⟨w.heap.size, 3, none⟩ = some (.int .i64 n3) := cell_of_row _ _ _ _ _ _ hw; have q4 : wq.cell? ⟨w.heap.size, 4, none⟩ = some (.string nm) := cell_of_row _ _ _ _ _ _ hw; have q5 : wq.cell? ⟨w.heap.size, 5, none⟩ = some (.slice sa sl sc) := cell_of_row _ _ _ _ _ _ hw; have q6 : wq.cell? ⟨w.heap.size, 6, none⟩ = some (.int .u8 (mk : Int)) := cell_of_row _ _ _ _ _ _ hw; have q7 : wq.cell? ⟨w.heap.size, 7, none⟩ = some (.slice ka kl kc) := cell_of_row _ _ _ _ _ _ hw; go_simp⟩) hHeld ?_
  simp only [Act.put, List.setIfInBounds_toArray, List.set_cons_succ, List.set_cons_zero]
  refine wpAnyH_ready (rs := [7]) (by kernel_rfl) (by simp) ?_
  refine rdy_call (i := 7) rfl rfl (some 35) rfl 13 #[.agg #[.int .i64 op, .int .i64 si, .int .i64 at2, .int .i64 n3, .string nm, .slice sa sl sc, .int .u8 (mk : Int), .slice ka kl kc]] (tw_Full (ts := #[32]) (x0 := 34) (by kernel_rfl) (by kernel_rfl)) (fun v w' => ∃ b, v = .slice (some ⟨b, 0, none⟩) 128 128 ∧ wd.heap.size ≤ b ∧ b < w'.heap.size ∧ Bs w' (some ⟨b, 0, none⟩) 128 (padTo zs) ∧ Below wd.heap.size wd w') ((full_row wd _ _ _ _ _ _ _ sa sl sc zs ((HB.out.below hW3).below hbd)).mono fun e w' h => by obtain ⟨b, rfl, h1, h2, h3, h4, _⟩ := h; exact ⟨_, rfl, b, rfl, h1, h2, h3, h4⟩) (fun r w9 hR => ?_) rdy_nil
  obtain ⟨fb2, rfl, hfb, hfl, hBf, bf⟩ := hR
  refine ⟨(bf.block _ (by omega)).trans hHeld, fun hHeld => ?_⟩
  simp only [Act.put, List.setIfInBounds_toArray, List.set_cons_succ, List.set_cons_zero]
  have bf3 : Below w3.heap.size w3 w9 := hbd.trans (bf.mono hbd.size)
  have hY4 : DiskY w9 y Fy room st := hY3.below (fun k hk => (hFy3 k hk).2) bf3
  have hW4 : Below W0.heap.size W0 w9 := hW3.trans (bf3.mono hW3.size)
  have hD4 : DiskS w9 d Fd' (N + 1) r.1 := hD3.below bf3
  have hs4 := bf3.size
  have hFd4 : ∀ k, Fd' k → W0.heap.size ≤ k ∧ k < w9.heap.size := fun k hk => ⟨(hFd3 k hk).1, by have := (hFd3 k hk).2; omega⟩
  have hFy4 : ∀ k, Fy k → W0.heap.size ≤ k ∧ k < w9.heap.size := fun k hk => ⟨(hFy3 k hk).1, by have := (hFy3 k hk).2; omega⟩
  have hBF : BsF Fy w9 (some ⟨fb2, 0, none⟩) 128 (padTo zs) := ⟨hBf, fun x hx _ hf => by cases hx; have h : fb2 < w3.heap.size := (hFy3 _ hf).2; omega⟩
  have hlt4 : w.heap.size < w9.heap.size := by omega
  refine wpAnyH_ready (rs := [8]) (by kernel_rfl) (by simp) ?_
  refine rdy_call (i := 8) rfl rfl (some 36) rfl 16 #[.pointer (some ⟨y, 0, none⟩), .string nm, .int .i64 si, .slice (some ⟨fb2, 0, none⟩) 128 128] (twy_Write (ts := #[24, 9, 3, 29]) (x0 := 29) (x1 := 31) (x2 := 33) (x3 := 35) (by kernel_rfl) (by kernel_rfl) (by kernel_rfl) (by kernel_rfl) (by kernel_rfl)) (fun v w' => v = .int .i64 r.2 ∧ ∃ Fy', DiskY w' y Fy' room r.1 ∧ Gr Fy Fy' w9 w') ((writeY_I w9 y Fy room st hY4 (fun k hk => (hFy4 k hk).2) nm HN.out si (some ⟨fb2, 0, none⟩) 128 128 (padTo zs) hBF).mono fun e w' h => by rw [← HR.out] at h; obtain ⟨h1, Fy', h2, h3⟩ := h; exact ⟨_, h1, rfl, Fy', h2, h3⟩) (fun r w9 hR => ?_) rdy_nil
  obtain ⟨rfl, Fy', hY5, hG5⟩ := hR
  obtain ⟨hW5, hD5, hFd5, hFy5, hX5⟩ := Two.doc (y := y) (room := room) hW4 hFd4 hFy4 hX3 hD4 hG5
  refine ⟨(hG5.1.block _ hlt4 hny3).trans hHeld, fun hHeld => ?_⟩
  simp only [Act.put, List.setIfInBounds_toArray, List.set_cons_succ, List.set_cons_zero]
  have hs59 := hG5.1.size
  have HTZ := hidn (show ∃ st' U', TwX W0 w9 d (N + 1) y room st' st' U' ∧ Gr U U' w w9 from
    ⟨r.1, upU U w w9, ⟨hW5, Fd', Fy', hD5, hY5, hFd5, hFy5, hX5, fun k hk => by
      rcases KW2.out.2.1 k hk with h | h
      · exact .inl h
      · exact .inr ⟨h, (hFd5 k hk).2⟩, fun k hk => by
      rcases hG5.2 k hk with h | ⟨h, h'⟩
      · exact .inl (HUY.out k h)
      · exact .inr ⟨by omega, h'⟩⟩, ⟨hG5.1.os.trans (bf3.os.trans KW3.out.2.1), hG5.1.tape.trans (bf3.tape.trans KW3.out.2.2.1), hG5.1.output.trans (bf3.output.trans KW3.out.2.2.2), by omega, fun k hk hn => (hG5.1.block k (by omega) (fun hf => hn (HUY.out k hf))).trans ((bf3.block k (by omega)).trans (KW3.out.1 k hk hn))⟩, fun k hk => hk⟩)
  rw [← hz]
  refine drawn_take (i := 9) (v := .bool true) (some 37) rfl rfl (by kernel_rfl) (by kernel_rfl) (by kernel_rfl) (fun _ _ _ h => h) (Or.inl ⟨by kernel_rfl, fun wq hw => by go_simp⟩) hHeld ?_
  simp only [Act.put, List.setIfInBounds_toArray, List.set_cons_succ, List.set_cons_zero]
  refine drawn_take (i := 10) (v := .bool true) (some 6) rfl rfl (by kernel_rfl) (by kernel_rfl) (by kernel_rfl) (fun _ _ _ h => h) (Or.inl ⟨by kernel_rfl, fun wq hw => by go_simp⟩) hHeld ?_
  simp only [Act.put, List.setIfInBounds_toArray, List.set_cons_succ, List.set_cons_zero]
  refine wpAnyH_done (by kernel_rfl) ?_ _
  refine NoPanic.normal ?_
  clear hHeld hD3 hY3 hW3 hFd3 hFy3 hX3 hbx3 hnb3 hny3 hz hlt3 hbd hsd hfb hfl hBf bf bf3 hY4 hW4 hD4 hs4 hFd4 hFy4 hBF hlt4 hY5 hG5 hW5 hD5 hFd5 hFy5 hX5 P3 hs59
  go_wp2
  go_ret
  exact ⟨rfl, HTZ.out⟩

/-- A step on both disks. -/
theorem do_anyU (W0 w : World) (d N y : Nat) (room : Int) (st : St) (U : Nat → Prop) (h : TwX W0 w d N y room st st U) (hN : N < 1000000) (op si at2 n3 : Int) (nm : ByteArray) (sa : Option Addr) (sl sc : Nat) (zs : List Nat) (mk : Nat) (hmk : mk < 256) (ka : Option Addr) (kl kc : Nat) (ks : List Kp) (hnm : nm.size ≤ maxLen) (hB : Bs W0 sa sl zs) (hK : Kps W0 ka kl ks) (hn3 : n3 ≤ 9223372036854775807) (hop : -9223372036854775808 ≤ op ∧ op ≤ 9223372036854775807) :
    Calls Try.prog 7 #[.agg #[.int .i64 op, .int .i64 si, .int .i64 at2, .int .i64 n3, .string nm, .slice sa sl sc, .int .u8 (mk : Int), .slice ka kl kc], .pointer (some ⟨d, 0, none⟩), .pointer (some ⟨y, 0, none⟩)] w (DoPostU W0 w d N y room U) := by
  obtain ⟨q, hq⟩ : ∃ q, wrap64 ((IntKind.u64.wrap op).tmod 7) = q := ⟨_, rfl⟩
  have hq2 : 0 ≤ q ∧ q < 7 := by rw [← hq]; exact mod7 op hop
  have h7 : q = 0 ∨ q = 1 ∨ q = 2 ∨ q = 3 ∨ q = 4 ∨ q = 5 ∨ q = 6 := by omega
  rcases h7 with rfl | rfl | rfl | rfl | rfl | rfl | rfl

  · exact do_0 W0 w d N y room st U h hN op si at2 n3 nm sa sl sc zs mk hmk ka kl kc ks hnm hB hK hn3 hq
  · exact do_1 W0 w d N y room st U h hN op si at2 n3 nm sa sl sc zs mk hmk ka kl kc ks hnm hB hK hn3 hq
  · exact do_2 W0 w d N y room st U h hN op si at2 n3 nm sa sl sc zs mk hmk ka kl kc ks hnm hB hK hn3 hq
  · exact do_3 W0 w d N y room st U h hN op si at2 n3 nm sa sl sc zs mk hmk ka kl kc ks hnm hB hK hn3 hq
  · exact do_4 W0 w d N y room st U h hN op si at2 n3 nm sa sl sc zs mk hmk ka kl kc ks hnm hB hK hn3 hq
  · exact do_5 W0 w d N y room st U h hN op si at2 n3 nm sa sl sc zs mk hmk ka kl kc ks hnm hB hK hn3 hq
  · exact do_6 W0 w d N y room st U h hN op si at2 n3 nm sa sl sc zs mk hmk ka kl kc ks hnm hB hK hn3 hq

theorem do_any (W0 w : World) (d N y : Nat) (room : Int) (st : St) (h : Two W0 w d N y room st) (hN : N < 1000000) (op si at2 n3 : Int) (nm : ByteArray) (sa : Option Addr) (sl sc : Nat) (zs : List Nat) (mk : Nat) (hmk : mk < 256) (ka : Option Addr) (kl kc : Nat) (ks : List Kp) (hnm : nm.size ≤ maxLen) (hB : Bs W0 sa sl zs) (hK : Kps W0 ka kl ks) (hn3 : n3 ≤ 9223372036854775807) (hop : -9223372036854775808 ≤ op ∧ op ≤ 9223372036854775807) :
    Calls Try.prog 7 #[.agg #[.int .i64 op, .int .i64 si, .int .i64 at2, .int .i64 n3, .string nm, .slice sa sl sc, .int .u8 (mk : Int), .slice ka kl kc], .pointer (some ⟨d, 0, none⟩), .pointer (some ⟨y, 0, none⟩)] w (DoPost W0 d N y room) := by
  refine (do_anyU W0 w d N y room st _ h.x hN op si at2 n3 nm sa sl sc zs mk hmk ka kl kc ks hnm hB hK hn3 hop).mono ?_
  rintro e w' ⟨rfl, st', U', hT, _⟩
  exact ⟨rfl, st', hT.two⟩
end Go.Proofs.Ytocfbokgbpaneaa
