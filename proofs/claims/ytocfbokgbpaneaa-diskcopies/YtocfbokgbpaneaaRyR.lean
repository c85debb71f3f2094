/- The document's disk: what Crash needs. -/
import Derived.Test.YtocfbokgbpaneaaRyP
import Derived.Test.YtocfbokgbpaneaaMg
import Derived.Test.YtocfbokgbpaneaaMj
namespace Go.Proofs.Ytocfbokgbpaneaa
open Go.RowKit Go.Maps
set_option linter.unusedVariables false

/-- How many extents of each file have fallen: all of those ahead, some of this one. -/
def uptoY (j i : Nat) : Nat → Nat := fun k => if k < j then 1000000 else if k = j then i else 0

def CrI (w : World) (y : Nat) (F : Nat → Prop) (fa : Option Addr) (fc : Nat) (R : List Yf) (room fuse : Int) (kf : List UInt8 → Int → Int) (a : Nat → Nat) (wr : World) : Prop :=
  ∃ F' R', RyOf wr y F' fa fc R' room fuse ∧ Gr F F' w wr ∧ (∀ b, F' b → b < wr.heap.size) ∧ R'.length = R.length ∧ ∀ k f, R[k]? = some f → ∃ f', R'[k]? = some f' ∧ f'.name = f.name ∧ f'.g = f.g ∧ f'.c = f.c ∧ f'.l.map Yc.x = fellTo (kf f.name.data.toList) (f.l.map Yc.x) (a k)

theorem fellTo_length (kf : Int → Int) (l : List Ext) (k : Nat) : (fellTo kf l k).length = l.length := by
  unfold fellTo
  rw [List.length_append, fellL_length, List.length_take, List.length_drop]
  omega

theorem fellTo_big (kf : Int → Int) (l : List Ext) (k : Nat) (h : l.length ≤ k) : fellTo kf l k = fellL kf l := by
  unfold fellTo
  rw [List.take_of_length_le h, List.drop_eq_nil_of_le h, List.append_nil]

theorem CrI.start {w w1 : World} {y : Nat} {F : Nat → Prop} {fa : Option Addr} {fc : Nat} {R : List Yf} {room fuse : Int} (kf : List UInt8 → Int → Int) (h : RyOf w1 y F fa fc R room fuse) (hG : Gr F F w w1) (hL : ∀ b, F b → b < w1.heap.size) : CrI w y F fa fc R room fuse kf (uptoY 0 0) w1 :=
  ⟨F, R, h, hG, hL, rfl, fun k f hf => ⟨f, hf, rfl, rfl, rfl, by
    have e : uptoY 0 0 k = 0 := by unfold uptoY; simp
    rw [e, fellTo_zero]⟩⟩

theorem CrI.skip {w wr w2 : World} {y : Nat} {F : Nat → Prop} {fa : Option Addr} {fc : Nat} {R : List Yf} {room fuse : Int} {kf : List UInt8 → Int → Int} {a : Nat → Nat} (h : CrI w y F fa fc R room fuse kf a wr) (hb : Below wr.heap.size wr w2) : CrI w y F fa fc R room fuse kf a w2 := by
  obtain ⟨F', R', h3, h4, h5, h6, h7⟩ := h
  exact ⟨F', R', h3.below h5 hb, h4.trans (Gr.of (Keeps.of_below hb)), fun b hb' => Nat.lt_of_lt_of_le (h5 b hb') hb.size, h6, h7⟩

theorem CrI.next {w wr : World} {y : Nat} {F : Nat → Prop} {fa : Option Addr} {fc : Nat} {R : List Yf} {room fuse : Int} {kf : List UInt8 → Int → Int} {j i : Nat} {f : Yf} (hf : R[j]? = some f) (hi : f.l.length ≤ i) (hsm : f.l.length ≤ 1000000) (h : CrI w y F fa fc R room fuse kf (uptoY j i) wr) : CrI w y F fa fc R room fuse kf (uptoY (j + 1) 0) wr := by
  obtain ⟨F', R', h3, h4, h5, h6, h7⟩ := h
  refine ⟨F', R', h3, h4, h5, h6, fun k g hg => ?_⟩
  obtain ⟨f', a1, a2, a3, a4, a5⟩ := h7 k g hg
  refine ⟨f', a1, a2, a3, a4, ?_⟩
  rw [a5]
  by_cases hk : k < j
  · have e1 : uptoY j i k = 1000000 := by unfold uptoY; rw [if_pos hk]
    have e2 : uptoY (j + 1) 0 k = 1000000 := by unfold uptoY; rw [if_pos (by omega)]
    rw [e1, e2]
  · by_cases hk2 : k = j
    · subst hk2
      rw [hf] at hg
      cases hg
      have e1 : uptoY k i k = i := by unfold uptoY; rw [if_neg (by omega), if_pos rfl]
      have e2 : uptoY (k + 1) 0 k = 1000000 := by unfold uptoY; rw [if_pos (by omega)]
      rw [e1, e2, fellTo_big _ _ _ (by simpa using hi), fellTo_big _ _ _ (by simpa using hsm)]
    · have e1 : uptoY j i k = 0 := by unfold uptoY; rw [if_neg hk, if_neg hk2]
      have e2 : uptoY (j + 1) 0 k = 0 := by
        unfold uptoY
        rw [if_neg (by omega)]
        split <;> rfl
      rw [e1, e2]

theorem uptoY_self (j i : Nat) : uptoY j i j = i := by unfold uptoY; rw [if_neg (by omega), if_pos rfl]
theorem uptoY_other {j i i' k : Nat} (h : k ≠ j) : uptoY j i k = uptoY j i' k := by unfold uptoY; rw [if_neg h, if_neg h]

theorem CrI.calm {w wr : World} {y : Nat} {F : Nat → Prop} {fa : Option Addr} {fc : Nat} {R : List Yf} {room fuse : Int} {kf : List UInt8 → Int → Int} {j i : Nat} {f f' : Yf} {F' : Nat → Prop} {R' : List Yf} {c : Yc} (hf : R[j]? = some f) (h3 : RyOf wr y F' fa fc R' room fuse) (h4 : Gr F F' w wr) (h5 : ∀ b, F' b → b < wr.heap.size) (h6 : R'.length = R.length) (h7 : ∀ k f, R[k]? = some f → ∃ f', R'[k]? = some f' ∧ f'.name = f.name ∧ f'.g = f.g ∧ f'.c = f.c ∧ f'.l.map Yc.x = fellTo (kf f.name.data.toList) (f.l.map Yc.x) (uptoY j i k))
    (hf' : R'[j]? = some f') (hc : f'.l[i]? = some c) (hw : c.x.waits = false) : CrI w y F fa fc R room fuse kf (uptoY j (i + 1)) wr := by
  refine ⟨F', R', h3, h4, h5, h6, fun k g hg => ?_⟩
  obtain ⟨g', a1, a2, a3, a4, a5⟩ := h7 k g hg
  refine ⟨g', a1, a2, a3, a4, ?_⟩
  rw [a5]
  by_cases hk : k = j
  · subst hk
    rw [hf] at hg
    cases hg
    rw [hf'] at a1
    cases a1
    rw [uptoY_self] at a5 ⊢
    rw [uptoY_self]
    have hil : i < (f.l.map Yc.x).length := by
      have h1 := congrArg List.length a5
      rw [fellTo_length, List.length_map] at h1
      have := (List.getElem?_eq_some_iff.1 hc).1
      omega
    have hx : (f.l.map Yc.x)[i] = c.x := by
      have h1 := fellTo_at (kf f.name.data.toList) _ i hil
      rw [← a5, List.getElem?_map, hc] at h1
      exact (Option.some.inj h1).symm
    rw [fellTo_idle _ _ i hil (by rw [hx]; exact hw)]
  · rw [uptoY_other hk]

theorem bsH_run {o : Oper} {a : Act} {w : World} {x z : Operand} {g N fc k : Nat} (ho : o.op = Op.slice 29 x none (some z) none) (hx : a.eval x = .slice (some ⟨g, 0, none⟩) N fc) (hz : a.eval z = .int .i64 (k : Int)) (hk : k ≤ fc) : (execOp a.eval o).run Try.prog w = .ok (.value (.slice (some ⟨g, 0, none⟩) k fc)) w := by
  have h2 : (Instr.slice 29 (.slice (some ⟨g, 0, none⟩) N fc) none (some (.int .i64 (k : Int))) none).run Try.prog w = .ok (.slice (some ⟨g, 0, none⟩) k fc) w := by
    rw [run_slice_h (P := Try.prog) w 29 (some ⟨g, 0, none⟩) N fc (by kernel_rfl) .i64 (k : Int) (by omega) (by omega)]
    have hsz : (sizeOf (Try.prog.elem 29)).run Try.prog w = .ok 1 w := by kernel_rfl
    rw [hsz]
    simp [Result.andThen, sliced, Addr.add]
  have hs := (run_sliceAt_slice (P := Try.prog) (w := w) 29 (.slice (some ⟨g, 0, none⟩) N fc) none (some (.int .i64 (k : Int))) none (by kernel_rfl)).trans h2
  simp [execOp, ho, hx, hz, hs, Result.andThen]

theorem bsL_run {o : Oper} {a : Act} {w : World} {x z : Operand} {g N fc k1 m2 c2 : Nat} {a2 : Addr} (ho : o.op = Op.slice 29 x (some z) none none) (hx : a.eval x = .slice (some ⟨g, 0, none⟩) N fc) (hz : a.eval z = .int .i64 (k1 : Int)) (hk : k1 ≤ N) (HA : Hid (a2 = if fc = k1 then ⟨g, 0, none⟩ else ⟨g, k1, none⟩)) (HM : Hid (m2 = N - k1)) (HC : Hid (c2 = fc - k1)) : (execOp a.eval o).run Try.prog w = .ok (.value (.slice (some a2) m2 c2)) w := by
  have h2 : (Instr.slice 29 (.slice (some ⟨g, 0, none⟩) N fc) (some (.int .i64 (k1 : Int))) none none).run Try.prog w = .ok (.slice (some a2) m2 c2) w := by
    rw [run_slice_l (P := Try.prog) w 29 (some ⟨g, 0, none⟩) N fc (by kernel_rfl) .i64 (k1 : Int) (by omega) (by omega)]
    have hsz : (sizeOf (Try.prog.elem 29)).run Try.prog w = .ok 1 w := by kernel_rfl
    rw [hsz, HA.out, HM.out, HC.out]
    by_cases e : fc = k1
    · simp [Result.andThen, sliced, e]
    · simp [Result.andThen, sliced, e, Addr.add]
      omega
  have hs := (run_sliceAt_slice (P := Try.prog) (w := w) 29 (.slice (some ⟨g, 0, none⟩) N fc) (some (.int .i64 (k1 : Int))) none none (by kernel_rfl)).trans h2
  simp [execOp, ho, hx, hz, hs, Result.andThen]

/-- Some bytes onto a row of bytes of one's own: they may be none. -/
theorem appBy (W : World) (n0 : Nat) (a : Option Addr) (n c : Nat) (xs : List Value) (hown : W.ownsRow n0 5 1 (.slice a n c) n xs) (hle : n0 ≤ W.heap.size) (x : Addr) (m c0 : Nat) (news : List Value) (hl : news.length = m) (h1 : ∀ u ∈ news, u.oneCell' = true) (hc : ∀ j u, news[j]? = some u → W.cell? (x.add j) = some u) (tot : Nat) (ht : tot = n + m) (htb : tot ≤ 2000000) :
    ∃ (a' : Option Addr) (c' : Nat) (W' : World), (Builtin.append_ #[29, 29] 29 #[.slice a n c, .slice (some x) m c0]).run Try.prog W = .ok (.slice a' tot c') W' ∧ W'.ownsRow n0 5 1 (.slice a' tot c') tot (xs ++ news) ∧ W.grownBy W' (Value.slice a n c).ownBlock := by
  obtain ⟨i0, z0, hi, hz0, hz1, hz2, hzc⟩ := byInfoY
  subst ht
  obtain ⟨v', w', r1, r2, r3, _⟩ := run_append_own (P := Try.prog) W n0 29 29 5 i0 z0 1 1 Try.underlying29 hi hz0 hz1 hz2 hzc (by decide) (.slice a n c) n xs hown x m c0 news (by omega) hc h1 (by unfold maxLen; omega) (by omega) hle
  obtain ⟨a', c', rfl⟩ : ∃ a' c', v' = .slice a' (n + m) c' := by
    rcases r2.2 with ⟨rfl, h9⟩ | ⟨g, cap, cur, rfl, _⟩
    · exact ⟨none, 0, by rw [h9]⟩
    · exact ⟨_, _, rfl⟩
  exact ⟨a', c', w', r1, r2, r3⟩

theorem vb_append (a b : List Nat) : vb (a ++ b) = vb a ++ vb b := by simp [vb]
theorem vb_take (a : List Nat) (n : Nat) : vb (a.take n) = (vb a).take n := by simp [vb, List.map_take]
theorem vb_drop (a : List Nat) (n : Nat) : vb (a.drop n) = (vb a).drop n := by simp [vb, List.map_drop]

/-- An extent that waits falls. -/
theorem CrI.wait {w wr : World} {y : Nat} {F : Nat → Prop} {fa : Option Addr} {fc : Nat} {R : List Yf} {room fuse : Int} {kf : List UInt8 → Int → Int} {j i : Nat} {f f' : Yf} {F' : Nat → Prop} {R' : List Yf} {c : Yc} (hf : R[j]? = some f) (h3 : RyOf wr y F' fa fc R' room fuse) (h4 : Gr F F' w wr) (h5 : ∀ b, F' b → b < wr.heap.size) (h6 : R'.length = R.length) (h7 : ∀ k f, R[k]? = some f → ∃ f', R'[k]? = some f' ∧ f'.name = f.name ∧ f'.g = f.g ∧ f'.c = f.c ∧ f'.l.map Yc.x = fellTo (kf f.name.data.toList) (f.l.map Yc.x) (uptoY j i k))
    (hf' : R'[j]? = some f') (hc : f'.l[i]? = some c) (hw : c.x.waits = true) (nk : Nat) (hnk : nk = clampK (kf f.name.data.toList (i : Int)))
    (W : World) (hB : Below wr.heap.size wr W) (qd : Nat × Nat) (hd : Im W qd (c.x.wri.take nk ++ c.x.dur.drop nk)) (nd : wr.heap.size ≤ qd.1) :
    ∃ (qr : Nat × Nat) (W8 : World), (Builtin.append_ #[29, 29] 29 #[.slice (some ⟨(W.setCell ⟨f'.g, i * 5 + 1, none⟩ (im qd)).heap.size, 0, none⟩) 0 0, im qd]).run Try.prog ((W.setCell ⟨f'.g, i * 5 + 1, none⟩ (im qd)).alloc (.cells #[] 5)) = .ok (im qr) W8 ∧
      (W.setCell ⟨f'.g, i * 5 + 1, none⟩ (im qd)).cell? ⟨f'.g, i * 5 + 1, none⟩ = some (im qd) ∧ W8.cell? ⟨f'.g, i * 5, none⟩ = some (im c.q0) ∧ W8.cell? ⟨f'.g, i * 5 + 4, none⟩ = some (.bool true) ∧ (∃ cur, W8.heap[f'.g]? = some (.cells cur 57 (0, 0))) ∧
      CrI w y F fa fc R room fuse kf (uptoY j (i + 1)) ((W8.setCell ⟨f'.g, i * 5, none⟩ (im qr)).setCell ⟨f'.g, i * 5 + 4, none⟩ (.bool false)) ∧ (∀ b, b < wr.heap.size → b ≠ f'.g → ((W8.setCell ⟨f'.g, i * 5, none⟩ (im qr)).setCell ⟨f'.g, i * 5 + 4, none⟩ (.bool false)).heap[b]? = wr.heap[b]?) := by
  have hm := List.mem_of_getElem? hf'
  have hcm : c ∈ f'.l := List.mem_of_getElem? hc
  obtain ⟨x0, x1, x2, x3⟩ := h3.ims _ hm c hcm
  obtain ⟨f0, f1, f2, f3⟩ := h3.fi _ hm c hcm
  have hokc := (h3.ok _ hm).2.2 c hcm
  have lfg := h5 _ (h3.fr _ hm)
  have hrowW : W.ownsRow 0 57 5 f'.row f'.l.length (cellsC f'.l) := own_other (h3.rows _ hm) (fun b hb => by
    obtain rfl : f'.g = b := by simpa [Yf.row, Value.ownBlock] using hb
    exact hB.block _ lfg)
  have hil := (List.getElem?_eq_some_iff.1 hc).1
  obtain ⟨w7, hw7⟩ : ∃ w7, w7 = W.setCell ⟨f'.g, i * 5 + 1, none⟩ (im qd) := ⟨_, rfl⟩
  have hrow7 := row_put rfl hrowW (i := i) hc (c' := ⟨c.x, c.q0, qd, c.q2, c.q3⟩) 1 (by omega) (im qd) rfl
  have hoth7 : ∀ b, b ≠ f'.g → w7.heap[b]? = W.heap[b]? := fun b hb => by rw [hw7]; exact Below.heap_setCell W ⟨f'.g, i * 5 + 1, none⟩ _ b hb
  have hs7 : w7.heap.size = W.heap.size := by rw [hw7]; simp [World.setCell]
  have hx7 : w7.os = W.os ∧ w7.tape = W.tape ∧ w7.output = W.output := by rw [hw7]; exact ⟨rfl, rfl, rfl⟩
  rw [← hw7] at hrow7 ⊢
  clear hw7
  have hqdW := own_lt hd qd.1 rfl
  have hd7 : Im w7 qd (c.x.wri.take nk ++ c.x.dur.drop nk) := own_other hd (fun b hb => by cases hb; exact hoth7 _ (Ne.symm (own_ne2 hrowW hd (g := f'.g) rfl rfl tyDF.2.2.2.2.2)))
  have hlen : (c.x.wri.take nk ++ c.x.dur.drop nk).length = 128 := by
    have h1 := hd.1
    rw [length_vb] at h1
    omega
  have hc1 : w7.cell? ⟨f'.g, i * 5 + 1, none⟩ = some (im qd) := by
    have h1 := hrow7.cells (g := f'.g) rfl (i * 5 + 1) (im qd) (by rw [cellsC_at _ i ⟨c.x, c.q0, qd, c.q2, c.q3⟩ (List.getElem?_set_self hil) 1 (by omega)]; rfl)
    rw [add_none, Nat.zero_add] at h1
    exact h1
  have hW1 : Below w7.heap.size w7 (w7.alloc (.cells #[] 5)) := (Below.refl _ _).alloc (Nat.le_refl _) _
  obtain ⟨qr, W8, hr, hir, hqr, hqrs, hg8⟩ := cpy (w7.alloc (.cells #[] 5)) w7.heap.size (heap_alloc_new _ _) ⟨qd.1, 0, none⟩ qd.2 _ hlen (fun jj u hj => by
    have h1 := (own_other hd7 (w' := w7.alloc (.cells #[] 5)) (fun b hb => by cases hb; exact hW1.block qd.1 (by omega))).cells (g := qd.1) rfl jj u hj
    exact h1)
  have hW8 : Below w7.heap.size w7 W8 := hW1.grown hg8 hW1.size (fun k hk => by cases hk; exact Nat.le_refl _)
  have hrow8 : W8.ownsRow 0 57 5 f'.row f'.l.length (cellsC (f'.l.set i ⟨c.x, c.q0, qd, c.q2, c.q3⟩)) := own_other hrow7 (fun b hb => by
    obtain rfl : f'.g = b := by simpa [Yf.row, Value.ownBlock] using hb
    exact hW8.block _ (by have := hB.size; omega))
  obtain ⟨cur, hcur⟩ := own_ty hrow8 (g := f'.g) rfl
  have key : ∀ jj v, jj < 5 → (⟨c.x, c.q0, qd, c.q2, c.q3⟩ : Yc).cells[jj]? = some v → W8.cell? ⟨f'.g, i * 5 + jj, none⟩ = some v := fun jj v hj hv => by
    have h1 := hrow8.cells (g := f'.g) rfl (i * 5 + jj) v (by rw [cellsC_at _ i ⟨c.x, c.q0, qd, c.q2, c.q3⟩ (List.getElem?_set_self hil) jj hj]; exact hv)
    rw [add_none, Nat.zero_add] at h1
    exact h1
  refine ⟨qr, W8, hr, hc1, key 0 _ (by omega) rfl, (key 4 _ (by omega) rfl).trans (by rw [hw]), ⟨cur, hcur⟩, ?_⟩
  obtain ⟨WF, hWF⟩ : ∃ WF, WF = (W8.setCell ⟨f'.g, i * 5, none⟩ (im qr)).setCell ⟨f'.g, i * 5 + 4, none⟩ (.bool false) := ⟨_, rfl⟩
  have hfell : c.x.fell (kf f.name.data.toList (i : Int)) = ⟨c.x.wri.take nk ++ c.x.dur.drop nk, c.x.syn, c.x.wri, false⟩ := by unfold Ext.fell Ext.crashed; rw [if_pos hw, ← hnk]
  obtain ⟨c', hc'⟩ : ∃ c' : Yc, c' = ⟨c.x.fell (kf f.name.data.toList (i : Int)), qr, qd, c.q2, c.q3⟩ := ⟨_, rfl⟩
  have hp1 := row_put (by rw [List.length_set]) hrow8 (List.getElem?_set_self hil) (c' := ⟨c.x, qr, qd, c.q2, c.q3⟩) 0 (by omega) (im qr) rfl
  rw [List.set_set] at hp1
  have hp2 := row_put (by rw [List.length_set]) hp1 (List.getElem?_set_self hil) (c' := c') 4 (by omega) (.bool false) (by rw [hc', hfell]; rfl)
  rw [List.set_set] at hp2
  have hothF : ∀ b, b ≠ f'.g → WF.heap[b]? = W8.heap[b]? := fun b hb => by
    rw [hWF, Below.heap_setCell _ ⟨f'.g, i * 5 + 4, none⟩ _ b hb, Below.heap_setCell _ ⟨f'.g, i * 5, none⟩ _ b hb]
  have hsF : WF.heap.size = W8.heap.size := by rw [hWF]; simp [World.setCell]
  have hxF : WF.os = W8.os ∧ WF.tape = W8.tape ∧ WF.output = W8.output := by rw [hWF]; exact ⟨rfl, rfl, rfl⟩
  rw [← hWF]
  have hp3 : WF.ownsRow 0 57 5 f'.row f'.l.length (cellsC (f'.l.set i c')) := by rw [hWF]; exact hp2
  clear hWF hp1 hp2
  have hsB := hB.size
  have hs8 := hW8.size
  have hblk : ∀ b, b < wr.heap.size → b ≠ f'.g → WF.heap[b]? = wr.heap[b]? := fun b hb hne => (hothF b hne).trans ((hW8.block b (by omega)).trans ((hoth7 b hne).trans (hB.block b hb)))
  have nnf : ∀ {q : Nat × Nat} {z : List Nat}, Im wr q z → q.1 ≠ f'.g := fun hq => Ne.symm (own_ne2 (h3.rows _ hm) hq (g := f'.g) rfl rfl tyDF.2.2.2.2.2)
  have hold : ∀ (q : Nat × Nat) (z : List Nat), Im wr q z → F' q.1 → Im WF q z := fun q z hq hFq => own_other hq (fun b hb => by cases hb; exact hblk _ (h5 _ hFq) (nnf hq))
  have hdF : Im WF qd (c.x.wri.take nk ++ c.x.dur.drop nk) := own_other hd7 (fun b hb => by cases hb; exact (hothF qd.1 (by omega)).trans (hW8.block qd.1 (by omega)))
  have hrF : Im WF qr (c.x.wri.take nk ++ c.x.dur.drop nk) := own_other hir (fun b hb => by cases hb; exact hothF qr.1 (by rw [World.size_alloc] at hqr; omega))
  rw [World.size_alloc] at hqr
  have hok' : c'.x.ok := by
    rw [hc']
    show (c.x.fell _).ok
    unfold Ext.fell
    rw [if_pos hw]
    exact Ext.crashed_ok hokc _
  have hF := h3.turnC (w' := WF) (F' := fun b => F' b ∨ b = qr.1 ∨ b = qd.1) hf' i c' hp3 (fun b hb' hne => hblk b (h5 b hb') hne) (by
    rw [hc']
    simp only [hfell]
    exact ⟨hrF, hdF, hold _ _ x2 f2, hold _ _ x3 f3⟩) hok' (fun b hb' => .inl hb') (by rw [hc']; exact ⟨.inr (.inl rfl), .inr (.inr rfl), .inl f2, .inl f3⟩)
  refine ⟨⟨_, R'.set j (setF f' i c'), hF, ?_, fun b hb' => ?_, by rw [List.length_set]; exact h6, fun k g hg => ?_⟩, hblk⟩
  · refine h4.trans ⟨⟨by rw [hxF.1, hW8.os, hx7.1, hB.os], by rw [hxF.2.1, hW8.tape, hx7.2.1, hB.tape], by rw [hxF.2.2, hW8.output, hx7.2.2, hB.output], by omega, fun b hb' hn => hblk b hb' (fun e => hn (e ▸ h3.fr _ hm))⟩, fun b hb' => ?_⟩
    rcases hb' with hb' | rfl | rfl
    · exact .inl hb'
    · exact .inr ⟨by omega, by omega⟩
    · exact .inr ⟨nd, by omega⟩
  · rcases hb' with hb' | rfl | rfl
    · have := h5 b hb'; omega
    · omega
    · omega
  · obtain ⟨g', a1, a2, a3, a4, a5⟩ := h7 k g hg
    by_cases hk : k = j
    · subst hk
      rw [hf] at hg
      cases hg
      rw [hf'] at a1
      cases a1
      refine ⟨setF f' i c', List.getElem?_set_self (List.getElem?_eq_some_iff.1 hf').1, a2, a3, a4, ?_⟩
      rw [uptoY_self] at a5
      rw [uptoY_self]
      have hil2 : i < (f.l.map Yc.x).length := by
        have h1 := congrArg List.length a5
        rw [fellTo_length, List.length_map] at h1
        omega
      have hx : (f.l.map Yc.x)[i] = c.x := by
        have h1 := fellTo_at (kf f.name.data.toList) _ i hil2
        rw [← a5, List.getElem?_map, hc] at h1
        exact (Option.some.inj h1).symm
      rw [← fellTo_step _ _ i hil2, hx, ← a5]
      show (f'.l.set i c').map Yc.x = _
      rw [List.map_set, hc']
    · refine ⟨g', ?_, a2, a3, a4, by rw [a5, uptoY_other hk]⟩
      rw [List.getElem?_set_ne (Ne.symm hk)]
      exact a1
theorem Kps.gr {F F' : Nat → Prop} {w w' : World} {a : Option Addr} {len : Nat} {ks : List Kp} (h : Kps w a len ks) (hn : ∀ x, a = some x → 0 < len → ¬ F x.block) (hk : Gr F F' w w') : Kps w' a len ks := by
  obtain ⟨h1, h2, h3, h4, h5⟩ := h
  refine ⟨h1, h2, h3, h4, fun x hx j k hj => ?_⟩
  have hpos : 0 < len := by have := (List.getElem?_eq_some_iff.1 hj).1; omega
  have hnx := hn x hx hpos
  have e : ∀ m, (x.add m).block = x.block := fun m => by unfold Addr.add; split <;> rfl
  obtain ⟨a1, a2, a3⟩ := h5 x hx j k hj
  have key : ∀ m v, w.cell? (x.add m) = some v → w'.cell? (x.add m) = some v := fun m v hv => by
    have hb := block_lt_of_cell hv
    rw [← hv]
    exact World.cell?_of_block (hk.1.block _ hb (by rw [e]; exact hnx))
  exact ⟨key _ _ a1, key _ _ a2, key _ _ a3⟩

theorem kget_none (ks : List Kp) (s : ByteArray) (i : Int) (h : ∀ (j : Nat) (k : Kp), ks[j]? = some k → ¬ (k.nm = s ∧ k.i = i)) : kfOf ks s.data.toList i = 0 := by
  unfold kfOf kget
  have e : (ks.find? fun k => decide (k.nm.data.toList = s.data.toList ∧ k.i = i)) = none := by
    rw [List.find?_eq_none]
    intro k hk
    obtain ⟨j, hj⟩ := List.mem_iff_getElem?.1 hk
    have := h j k hj
    simp only [decide_eq_true_eq]
    rintro ⟨e1, e2⟩
    refine this ⟨?_, e2⟩
    cases hkn : k.nm
    cases s
    rw [hkn] at e1
    congr 1
    exact Array.toList_inj.1 e1
  rw [e]
  rfl

theorem kget_some (ks : List Kp) (s : ByteArray) (i : Int) (jj : Nat) (k : Kp) (hk : ks[jj]? = some k) (h : ∀ j < jj, ∀ k, ks[j]? = some k → ¬ (k.nm = s ∧ k.i = i)) (hs : k.nm = s) (hi : k.i = i) : kfOf ks s.data.toList i = k.n := by
  have hsplit : ks = ks.take jj ++ k :: ks.drop (jj + 1) := by
    have hj := List.getElem?_eq_some_iff.1 hk
    rw [← hj.2, ← List.drop_eq_getElem_cons hj.1, List.take_append_drop]
  have h0 := kget_none (ks.take jj) s i (fun j k' hk' => by
    rw [List.getElem?_take] at hk'
    split at hk'
    · next e => exact h j e k' hk'
    · cases hk')
  have hn : (ks.take jj).find? (fun k => decide (k.nm.data.toList = s.data.toList ∧ k.i = i)) = none := by
    rw [List.find?_eq_none]
    intro k' hk'
    obtain ⟨j, hj⟩ := List.mem_iff_getElem?.1 hk'
    rw [List.getElem?_take] at hj
    split at hj
    · next e =>
      have := h j e k' hj
      simp only [decide_eq_true_eq]
      rintro ⟨e1, e2⟩
      refine this ⟨?_, e2⟩
      cases hkn : k'.nm
      cases s
      rw [hkn] at e1
      congr 1
      exact Array.toList_inj.1 e1
    · cases hj
  unfold kfOf kget
  rw [hsplit, List.find?_append, hn]
  simp [hs, hi]
end Go.Proofs.Ytocfbokgbpaneaa
