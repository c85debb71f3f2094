/- The document's disk: Sync. -/
import Derived.Test.YtocfbokgbpaneaaMl
import Derived.Test.YtocfbokgbpaneaaDiskSync
namespace Go.Proofs.Ytocfbokgbpaneaa
open Go.RowKit Go.Maps
set_option linter.unusedVariables false

def putAll (a : Act) (l : List (Nat × Value)) : Act := l.foldl (fun a p => a.put (some p.1) p.2) a

/-- A region by what it leaves: slots and a world. -/
theorem region_cut {P : Program} {id : Nat} {ops : Array Oper} {Q : Exit → Act → World → Prop} {a : Act} {w : World} {d : Bool} (I : List (Nat × Value) → World → Prop)
    (h1 : (Code.region id ops d).wp P (fun e a' w' => e = .normal ∧ ∃ l, I l w' ∧ a' = putAll a l) a w) (h2 : ∀ l w', I l w' → Q .normal (putAll a l) w') : (Code.region id ops d).wp P Q a w :=
  Code.wp_mono (fun e a' w' h => by obtain ⟨rfl, l, hI, rfl⟩ := h; exact h2 l w' hI) h1

theorem keeps_of {n : Nat} {F : Nat → Prop} {w w' : World} (h : Below n w w') (hn : n = w.heap.size) : Keeps F w w' := by
  subst hn
  exact Keeps.of_below h

theorem there_row {W : World} {g n c : Nat} {xs : List Value} (h : W.ownsRow 0 57 5 (.slice (some ⟨g, 0, none⟩) n c) n xs) {j : Nat} (hj : j < n) : W.there g (j * 5) 5 := by
  obtain ⟨cur, hcur⟩ := own_ty h (g := g) rfl
  have hsz : n * 5 ≤ cur.size := by
    rcases h.2 with ⟨h1, _⟩ | ⟨g', cap, cur', hv, _, hh, hle, _, hcs, _⟩
    · cases h1
    · cases hv
      rw [hcur] at hh
      cases hh
      rw [hcs]
      exact Nat.mul_le_mul_right _ hle
  intro q hq
  exact ⟨by rw [cell_of_row _ _ _ _ _ _ hcur, Array.getElem?_eq_getElem (by omega)]; rfl, frozen_of_row _ _ _ _ _ hcur⟩

theorem st5_run {o : Oper} {a : Act} {w : World} {x y : Operand} {g off : Nat} {a0 a1 a2 a3 a4 : Value} (ho : o.op = Op.store 57 x y) (hx : a.eval x = .pointer (some ⟨g, off, none⟩)) (hy : a.eval y = .agg #[a0, a1, a2, a3, a4]) (ht : w.there g off 5) (o0 : a0.oneCell' = true) (o1 : a1.oneCell' = true) (o2 : a2.oneCell' = true) (o3 : a3.oneCell' = true) (o4 : a4.oneCell' = true) :
    (execOp a.eval o).run Try.prog w = .ok .skip (w.setCells g off [a0, a1, a2, a3, a4]) := by
  have hi : (Try.prog.info? 57).map (·.size) = some (#[a0, a1, a2, a3, a4] : Array Value).size := by kernel_rfl
  have hr := run_storeAt_mid (P := Try.prog) w g off 57 #[a0, a1, a2, a3, a4] ht hi (by simp [o0, o1, o2, o3, o4])
  unfold execOp
  simp only [ho, hx, hy, Sem.run_bind, Sem.run_pure, Result.andThen_ok, hr]

theorem setCells5 (w : World) (g o : Nat) (a0 a1 a2 a3 a4 : Value) : w.setCells g o [a0, a1, a2, a3, a4] = ((((w.setCell ⟨g, o, none⟩ a0).setCell ⟨g, o + 1, none⟩ a1).setCell ⟨g, o + 2, none⟩ a2).setCell ⟨g, o + 3, none⟩ a3).setCell ⟨g, o + 4, none⟩ a4 := rfl

theorem keeps_setCells {g o : Nat} {w w' : World} {a0 a1 a2 a3 a4 : Value} (h : Keeps (fun b => b = g) w w') : Keeps (fun b => b = g) w (w'.setCells g o [a0, a1, a2, a3, a4]) := by
  rw [setCells5]
  exact ((((h.setCell (p := ⟨g, o, none⟩) rfl _).setCell (p := ⟨g, o + 1, none⟩) rfl _).setCell (p := ⟨g, o + 2, none⟩) rfl _).setCell (p := ⟨g, o + 3, none⟩) rfl _).setCell (p := ⟨g, o + 4, none⟩) rfl _

theorem other_setCells (w : World) (g o b : Nat) (a0 a1 a2 a3 a4 : Value) (h : b ≠ g) : (w.setCells g o [a0, a1, a2, a3, a4]).heap[b]? = w.heap[b]? := by
  rw [setCells5]
  rw [Below.heap_setCell _ ⟨g, o + 4, none⟩ _ b h, Below.heap_setCell _ ⟨g, o + 3, none⟩ _ b h, Below.heap_setCell _ ⟨g, o + 2, none⟩ _ b h, Below.heap_setCell _ ⟨g, o + 1, none⟩ _ b h, Below.heap_setCell _ ⟨g, o, none⟩ _ b h]

theorem row_put5 {w : World} {f : Yf} {l : List Yc} (hl : l.length = f.l.length) (h : w.ownsRow 0 57 5 f.row f.l.length (cellsC l)) {i : Nat} {c c' : Yc} (hi : l[i]? = some c) (a0 a1 a2 a3 a4 : Value) (hc : c'.cells = [a0, a1, a2, a3, a4]) : (w.setCells f.g (i * 5) [a0, a1, a2, a3, a4]).ownsRow 0 57 5 f.row f.l.length (cellsC (l.set i c')) := by
  rw [setCells5]
  have h5 := own_putY (own_putY (own_putY (own_putY (own_putY h (i * 5) a0) (i * 5 + 1) a1) (i * 5 + 2) a2) (i * 5 + 3) a3) (i * 5 + 4) a4
  have e : (((((cellsC l).set (i * 5) a0).set (i * 5 + 1) a1).set (i * 5 + 2) a2).set (i * 5 + 3) a3).set (i * 5 + 4) a4 = cellsC (l.set i c') := by
    clear h5 h hl
    induction l generalizing i with
    | nil => simp at hi
    | cons x r ih =>
      cases i with
      | zero =>
        show (((((x.cells ++ cellsC r).set (0 * 5) a0).set (0 * 5 + 1) a1).set (0 * 5 + 2) a2).set (0 * 5 + 3) a3).set (0 * 5 + 4) a4 = c'.cells ++ cellsC r
        rw [hc]
        simp [Yc.cells]
      | succ i =>
        have hx : x.cells.length = 5 := rfl
        show (((((x.cells ++ cellsC r).set ((i + 1) * 5) a0).set ((i + 1) * 5 + 1) a1).set ((i + 1) * 5 + 2) a2).set ((i + 1) * 5 + 3) a3).set ((i + 1) * 5 + 4) a4 = x.cells ++ cellsC (r.set i c')
        rw [List.set_append_right _ _ (by omega), List.set_append_right _ _ (by omega), List.set_append_right _ _ (by omega), List.set_append_right _ _ (by omega), List.set_append_right _ _ (by omega), hx, ← ih (by simpa using hi)]
        congr 1
        rw [show (i + 1) * 5 - 5 = i * 5 from by omega, show (i + 1) * 5 + 1 - 5 = i * 5 + 1 from by omega, show (i + 1) * 5 + 2 - 5 = i * 5 + 2 from by omega, show (i + 1) * 5 + 3 - 5 = i * 5 + 3 from by omega, show (i + 1) * 5 + 4 - 5 = i * 5 + 4 from by omega]
  rw [e] at h5
  exact h5

def setL (f : Yf) (l : List Yc) : Yf := { f with l := l }

theorem setL_setF (R : List Yf) (k : Nat) (f : Yf) (l : List Yc) (i : Nat) (c : Yc) : (R.set k (setL f l)).set k (setF (setL f l) i c) = R.set k (setL f (l.set i c)) := by
  rw [List.set_set]
  rfl

/-- The first so many extents synced. -/
def syncYTo (xs : List Ext) (j : Nat) : List Ext := (xs.take j).map Ext.synced ++ xs.drop j

theorem syncYTo_zero (xs : List Ext) : syncYTo xs 0 = xs := by simp [syncYTo]
theorem syncYTo_all (xs : List Ext) : syncYTo xs xs.length = xs.map Ext.synced := by simp [syncYTo]
theorem syncYTo_at (xs : List Ext) (j : Nat) (h : j < xs.length) : (syncYTo xs j)[j]? = xs[j]? := by
  unfold syncYTo
  rw [List.getElem?_append_right (by simp; omega)]
  simp [Nat.min_eq_left (Nat.le_of_lt h)]
theorem syncYTo_next (xs : List Ext) (j : Nat) (x : Ext) (h : xs[j]? = some x) : (syncYTo xs j).set j x.synced = syncYTo xs (j + 1) := by
  have hj := (List.getElem?_eq_some_iff.1 h)
  unfold syncYTo
  rw [List.set_append_right _ _ (by simp; omega), List.take_succ_eq_append_getElem hj.1, List.map_append, List.append_assoc]
  congr 1
  rw [List.length_map, List.length_take, Nat.min_eq_left (Nat.le_of_lt hj.1), Nat.sub_self, List.drop_eq_getElem_cons hj.1, hj.2]
  rfl

/-- What stands between two rounds. -/
def SyI (w : World) (y : Nat) (F : Nat → Prop) (fa : Option Addr) (fc : Nat) (R : List Yf) (k : Nat) (f : Yf) (room fuse : Int) (j : Nat) (wr : World) : Prop :=
  ∃ F' l, l.length = f.l.length ∧ l.map Yc.x = syncYTo (f.l.map Yc.x) j ∧ RyOf wr y F' fa fc (R.set k (setL f l)) room fuse ∧ Gr F F' w wr ∧ ∀ b, F' b → b < wr.heap.size

theorem SyI.start {w w1 : World} {y : Nat} {F : Nat → Prop} {fa : Option Addr} {fc : Nat} {R : List Yf} {k : Nat} {f : Yf} {room fuse : Int} (hk : R[k]? = some f) (h : RyOf w1 y F fa fc R room fuse) (hG : Gr F F w w1) (hL : ∀ b, F b → b < w1.heap.size) : SyI w y F fa fc R k f room fuse 0 w1 := by
  refine ⟨F, f.l, rfl, (syncYTo_zero _).symm, ?_, hG, hL⟩
  have e : R.set k (setL f f.l) = R := by
    apply List.ext_getElem?
    intro j
    rw [List.getElem?_set]
    split
    · next e =>
      subst e
      rw [if_pos (List.getElem?_eq_some_iff.1 hk).1, hk]
      rfl
    · rfl
  rw [e]
  exact h

theorem SyI.skip {w wr w2 : World} {y : Nat} {F : Nat → Prop} {fa : Option Addr} {fc : Nat} {R : List Yf} {k : Nat} {f : Yf} {room fuse : Int} {j : Nat} (h : SyI w y F fa fc R k f room fuse j wr) (hb : Below wr.heap.size wr w2) : SyI w y F fa fc R k f room fuse j w2 := by
  obtain ⟨F', l, h1, h2, h3, h4, h5⟩ := h
  exact ⟨F', l, h1, h2, h3.below h5 hb, h4.trans (Gr.of (Keeps.of_below hb)), fun b hb' => Nat.lt_of_lt_of_le (h5 b hb') hb.size⟩

theorem setL_at {R : List Yf} {k : Nat} {f : Yf} (hk : R[k]? = some f) (l : List Yc) : (R.set k (setL f l))[k]? = some (setL f l) := List.getElem?_set_self (List.getElem?_eq_some_iff.1 hk).1

theorem syncedY_calm {x : Ext} (h : x.waits = false) : x.synced = x := by
  unfold Ext.synced
  rw [h]
  rfl

theorem SyI.calm {w wr : World} {y : Nat} {F : Nat → Prop} {fa : Option Addr} {fc : Nat} {R : List Yf} {k : Nat} {f : Yf} {room fuse : Int} {j : Nat} {F' : Nat → Prop} {l : List Yc} {c : Yc} (h1 : l.length = f.l.length) (h2 : l.map Yc.x = syncYTo (f.l.map Yc.x) j) (h3 : RyOf wr y F' fa fc (R.set k (setL f l)) room fuse) (h4 : Gr F F' w wr) (h5 : ∀ b, F' b → b < wr.heap.size) (hc : l[j]? = some c) (hw : c.x.waits = false) : SyI w y F fa fc R k f room fuse (j + 1) wr := by
  refine ⟨F', l, h1, ?_, h3, h4, h5⟩
  have hj := (List.getElem?_eq_some_iff.1 hc).1
  have hx : (f.l.map Yc.x)[j]? = some c.x := by
    rw [← syncYTo_at _ j (by simp; omega), ← h2, List.getElem?_map, hc]
    rfl
  rw [← syncYTo_next _ j c.x hx, ← h2, syncedY_calm hw]
  apply List.ext_getElem?
  intro i
  rw [List.getElem?_set]
  split
  · next e =>
    subst e
    rw [if_pos (by simp; omega), List.getElem?_map, hc]
    rfl
  · rfl

/-- An extent that waits is synced. -/
theorem SyI.wait {w wr W : World} {y : Nat} {F : Nat → Prop} {fa : Option Addr} {fc : Nat} {R : List Yf} {k : Nat} {f : Yf} {room fuse : Int} {j : Nat} {F' : Nat → Prop} {l : List Yc} {c : Yc} (hk : R[k]? = some f) (h1 : l.length = f.l.length) (h2 : l.map Yc.x = syncYTo (f.l.map Yc.x) j) (h3 : RyOf wr y F' fa fc (R.set k (setL f l)) room fuse) (h4 : Gr F F' w wr) (h5 : ∀ b, F' b → b < wr.heap.size) (hc : l[j]? = some c) (hw : c.x.waits = true)
    (hB : Below wr.heap.size wr W) (qa qb qd : Nat × Nat) (ha : Im W qa c.x.wri) (hb : Im W qb c.x.wri) (hd : Im W qd c.x.wri) (na : wr.heap.size ≤ qa.1) (nb : wr.heap.size ≤ qb.1) (nd : wr.heap.size ≤ qd.1) (sa : qa.1 < W.heap.size) (sb : qb.1 < W.heap.size) (sd : qd.1 < W.heap.size) :
    SyI w y F fa fc R k f room fuse (j + 1) (W.setCells f.g (j * 5) [im c.q3, im qa, im qb, im qd, .bool false]) := by
  have hsy : c.x.synced = ⟨c.x.wri, c.x.wri, c.x.wri, false⟩ := by unfold Ext.synced; rw [hw]; rfl
  have hkl := setL_at hk l
  have hm := List.mem_of_getElem? hkl
  have hcm : c ∈ (setL f l).l := List.mem_of_getElem? hc
  have hj := (List.getElem?_eq_some_iff.1 hc).1
  have hx : (f.l.map Yc.x)[j]? = some c.x := by
    rw [← syncYTo_at _ j (by simp; omega), ← h2, List.getElem?_map, hc]
    rfl
  obtain ⟨x0, x1, x2, x3⟩ := h3.ims _ hm c hcm
  obtain ⟨f0, f1, f2, f3⟩ := h3.fi _ hm c hcm
  have hokc := (h3.ok _ hm).2.2 c hcm
  have hrowW : W.ownsRow 0 57 5 (setL f l).row (setL f l).l.length (cellsC (setL f l).l) := own_other (h3.rows _ hm) (fun b hb => by
    obtain rfl : (setL f l).g = b := by simpa [Yf.row, Value.ownBlock] using hb
    exact hB.block _ (h5 _ (h3.fr _ hm)))
  have hrow' := row_put5 rfl hrowW (i := j) hc (c' := ⟨c.x.synced, c.q3, qa, qb, qd⟩) (im c.q3) (im qa) (im qb) (im qd) (.bool false) (by rw [hsy]; rfl)
  have hoth : ∀ b, b ≠ f.g → (W.setCells f.g (j * 5) [im c.q3, im qa, im qb, im qd, .bool false]).heap[b]? = W.heap[b]? := fun b hb => other_setCells _ _ _ _ _ _ _ _ _ hb
  have hkI : ∀ (q : Nat × Nat) (z : List Nat), Im W q z → Im (W.setCells f.g (j * 5) [im c.q3, im qa, im qb, im qd, .bool false]) q z := fun q z hq => own_other hq (fun b hb => hoth b (Ne.symm (own_ne2 hrowW hq (g := f.g) rfl hb tyDF.2.2.2.2.2)))
  have hq3 : Im W c.q3 c.x.wri := own_other x3 (fun b hb => by cases hb; exact hB.block _ (h5 _ f3))
  have hrd : (⟨c.x.wri, c.x.wri, c.x.wri, false⟩ : Ext).rd = c.x.wri := rfl
  have hF := h3.turnC (w' := W.setCells f.g (j * 5) [im c.q3, im qa, im qb, im qd, .bool false]) (F' := fun b => F' b ∨ b = qa.1 ∨ b = qb.1 ∨ b = qd.1) hkl j ⟨c.x.synced, c.q3, qa, qb, qd⟩ hrow' (fun b hb' hne => (hoth b hne).trans (hB.block b (h5 b hb'))) (by simp only [hsy, hrd]; exact ⟨hkI _ _ hq3, hkI _ _ ha, hkI _ _ hb, hkI _ _ hd⟩) (by simp only [hsy]; exact ⟨hokc.2.2, hokc.2.2, hokc.2.2⟩) (fun b hb' => .inl hb') ⟨.inl f3, .inr (.inl rfl), .inr (.inr (.inl rfl)), .inr (.inr (.inr rfl))⟩
  rw [setL_setF] at hF
  have hsz : (W.setCells f.g (j * 5) [im c.q3, im qa, im qb, im qd, .bool false]).heap.size = W.heap.size := by rw [setCells5]; simp [World.setCell]
  have hsW := hB.size
  refine ⟨_, l.set j ⟨c.x.synced, c.q3, qa, qb, qd⟩, by rw [List.length_set]; exact h1, ?_, hF, ?_, fun b hb' => ?_⟩
  · rw [← syncYTo_next _ j c.x hx, ← h2]
    apply List.ext_getElem?
    intro i
    rw [List.getElem?_map, List.getElem?_set, List.getElem?_set]
    by_cases e : j = i
    · subst e
      rw [if_pos rfl, if_pos rfl, if_pos hj, if_pos (by simp; omega)]
      rfl
    · rw [if_neg e, if_neg e, List.getElem?_map]
  · have hks : Keeps (fun b => b = f.g) wr (W.setCells f.g (j * 5) [im c.q3, im qa, im qb, im qd, .bool false]) := keeps_setCells (Keeps.of_below hB)
    refine h4.trans ⟨⟨hks.os, hks.tape, hks.output, hks.size, fun b hb' hn => ?_⟩, fun b hb' => ?_⟩
    · have hfr : F' f.g := h3.fr (setL f l) hm
      exact (hoth b (fun e => hn (e ▸ hfr))).trans (hB.block b hb')
    · rw [hsz]
      rcases hb' with hb' | rfl | rfl | rfl
      · exact .inl hb'
      · exact .inr ⟨na, sa⟩
      · exact .inr ⟨nb, sb⟩
      · exact .inr ⟨nd, sd⟩
  · rw [hsz]
    rcases hb' with hb' | rfl | rfl | rfl
    · have := h5 b hb'; omega
    · exact sa
    · exact sb
    · exact sd
end Go.Proofs.Ytocfbokgbpaneaa
