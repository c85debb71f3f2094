/- The document's disk: rows of files joined; a disk with other files. -/
import Derived.Test.YtocfbokgbpaneaaRyJ
namespace Go.Proofs.Ytocfbokgbpaneaa
open Go.RowKit Go.Maps
set_option linter.unusedVariables false

theorem mk0f_run {o : Oper} {a : Act} {w : World} (ho : o.op = Op.buildSlice 50 0 #[]) : (execOp a.eval o).run Try.prog w = .ok (.value (.slice (some ⟨w.heap.size, 0, none⟩) 0 0)) (w.alloc (.cells #[] 55)) := by
  have h : (Instr.buildSlice 50 0 #[]).run Try.prog w = .ok (.slice (some ⟨w.heap.size, 0, none⟩) 0 0) (w.alloc (.cells #[] 55)) := by kernel_rfl
  simp [execOp, ho, h, Result.andThen]

theorem own_emptyN {W : World} {b e size base : Nat} (h : W.heap[b]? = some (.cells #[] e (0, 0))) (hb : base ≤ b) : W.ownsRow base e size (.slice (some ⟨b, 0, none⟩) 0 0) 0 [] :=
  ⟨by simp, .inr ⟨b, 0, #[], rfl, hb, h, by omega, by simp, by simp, by simp⟩⟩

theorem file_info : ∃ i0, Try.prog.info? 55 = some i0 ∧ i0.zero = some (.agg #[.string ⟨#[]⟩, .slice none 0 0]) ∧ i0.size = 2 ∧ i0.bytes = 40 := by
  have h : (Try.prog.info? 55).map (fun i => (i.zero, i.size, i.bytes)) = some (some (.agg #[.string ⟨#[]⟩, .slice none 0 0]), 2, 40) := by kernel_rfl
  obtain ⟨i0, hi, h1, h2, h3⟩ := info_parts h
  exact ⟨i0, hi, h1, h2, h3⟩

theorem cellsR_one (R : List Yf) : ∀ u ∈ cellsR R, u.oneCell' = true := by
  intro u hu
  unfold cellsR at hu
  obtain ⟨f, _, hf⟩ := List.mem_flatMap.1 hu
  simp only [Yf.cells, Yf.row, List.mem_cons, List.not_mem_nil, or_false] at hf
  rcases hf with rfl | rfl <;> rfl

/-- A slice of files onto a row of one's own: it may be empty. -/
theorem appFl (W : World) (n0 : Nat) (a : Option Addr) (n c : Nat) (xs : List Value) (hown : W.ownsRow n0 55 2 (.slice a n c) n xs) (hle : n0 ≤ W.heap.size) (aa : Option Addr) (m c0 : Nat) (news : List Value) (hm : m ≤ 1000000) (hsrc : news.length = m * 2 ∧ (∀ u ∈ news, u.oneCell' = true) ∧ (aa = none → m = 0) ∧ ∀ x, aa = some x → ∀ j u, news[j]? = some u → W.cell? (x.add j) = some u) (tot : Nat) (ht : tot = n + m) (htb : tot ≤ 2000000) :
    ∃ (a' : Option Addr) (c' : Nat) (W' : World), (Builtin.append_ #[50, 50] 50 #[.slice a n c, .slice aa m c0]).run Try.prog W = .ok (.slice a' tot c') W' ∧ W'.ownsRow n0 55 2 (.slice a' tot c') tot (xs ++ news) ∧ W.grownBy W' (Value.slice a n c).ownBlock := by
  obtain ⟨i0, hi, hz0, hz1, hz2⟩ := file_info
  obtain ⟨hl, h1, h0, hc⟩ := hsrc
  subst ht
  cases aa with
  | none =>
    obtain rfl := h0 rfl
    have hn : news = [] := by
      cases news with
      | nil => rfl
      | cons _ _ => simp at hl
    subst hn
    refine ⟨a, c, W, ?_, by simpa using hown, ⟨rfl, rfl, rfl, Nat.le_refl _, fun _ _ _ => rfl⟩⟩
    rcases hown.2 with ⟨hv, h2⟩ | ⟨g, cap, cur, hv, _, _, hnc, _⟩
    · cases hv
      simp [Builtin.append_, run_underlying Try.underlying50, sizeOf, typeInfo, hi, Builtin.lenOf, Builtin.firstCells]
    · cases hv
      simp [Builtin.append_, run_underlying Try.underlying50, sizeOf, typeInfo, hi, Builtin.lenOf, Builtin.firstCells, hnc, storeCells]
  | some x =>
    obtain ⟨v', w', r1, r2, r3, _⟩ := run_append_own (P := Try.prog) W n0 50 50 55 i0 _ 2 40 Try.underlying50 hi hz0 hz1 hz2 rfl (by decide) (.slice a n c) n xs hown x m c0 news hl (hc x rfl) h1 (by unfold maxLen; omega) (by omega) hle
    obtain ⟨a', c', rfl⟩ : ∃ a' c', v' = .slice a' (n + m) c' := by
      rcases r2.2 with ⟨rfl, h9⟩ | ⟨g, cap, cur, rfl, _⟩
      · exact ⟨none, 0, by rw [h9]⟩
      · exact ⟨_, _, rfl⟩
    exact ⟨a', c', w', r1, r2, r3⟩

theorem slH_run {o : Oper} {a : Act} {w : World} {x z : Operand} {g N fc k : Nat} (ho : o.op = Op.slice 50 x none (some z) none) (hx : a.eval x = .slice (some ⟨g, 0, none⟩) N fc) (hz : a.eval z = .int .i64 (k : Int)) (hk : k ≤ fc) : (execOp a.eval o).run Try.prog w = .ok (.value (.slice (some ⟨g, 0, none⟩) k fc)) w := by
  have h2 : (Instr.slice 50 (.slice (some ⟨g, 0, none⟩) N fc) none (some (.int .i64 (k : Int))) none).run Try.prog w = .ok (.slice (some ⟨g, 0, none⟩) k fc) w := by
    rw [run_slice_h (P := Try.prog) w 50 (some ⟨g, 0, none⟩) N fc (by kernel_rfl) .i64 (k : Int) (by omega) (by omega)]
    have hsz : (sizeOf (Try.prog.elem 50)).run Try.prog w = .ok 2 w := by kernel_rfl
    rw [hsz]
    simp [Result.andThen, sliced, Addr.add]
  have hs := (run_sliceAt_slice (P := Try.prog) (w := w) 50 (.slice (some ⟨g, 0, none⟩) N fc) none (some (.int .i64 (k : Int))) none (by kernel_rfl)).trans h2
  simp [execOp, ho, hx, hz, hs, Result.andThen]

theorem slL_run {o : Oper} {a : Act} {w : World} {x z : Operand} {g N fc k1 m2 c2 : Nat} {a2 : Option Addr} (ho : o.op = Op.slice 50 x (some z) none none) (hx : a.eval x = .slice (some ⟨g, 0, none⟩) N fc) (hz : a.eval z = .int .i64 (k1 : Int)) (hk : k1 ≤ N) (HA : Hid (a2 = if fc = k1 then some ⟨g, 0, none⟩ else some ⟨g, k1 * 2, none⟩)) (HM : Hid (m2 = N - k1)) (HC : Hid (c2 = fc - k1)) : (execOp a.eval o).run Try.prog w = .ok (.value (.slice a2 m2 c2)) w := by
  have h2 : (Instr.slice 50 (.slice (some ⟨g, 0, none⟩) N fc) (some (.int .i64 (k1 : Int))) none none).run Try.prog w = .ok (.slice a2 m2 c2) w := by
    rw [run_slice_l (P := Try.prog) w 50 (some ⟨g, 0, none⟩) N fc (by kernel_rfl) .i64 (k1 : Int) (by omega) (by omega)]
    have hsz : (sizeOf (Try.prog.elem 50)).run Try.prog w = .ok 2 w := by kernel_rfl
    rw [hsz, HA.out, HM.out, HC.out]
    by_cases e : fc = k1
    · simp [Result.andThen, sliced, e]
    · simp [Result.andThen, sliced, e, Addr.add]
      omega
  have hs := (run_sliceAt_slice (P := Try.prog) (w := w) 50 (.slice (some ⟨g, 0, none⟩) N fc) (some (.int .i64 (k1 : Int))) none none (by kernel_rfl)).trans h2
  simp [execOp, ho, hx, hz, hs, Result.andThen]

/-- The same disk with other files of its own, in another row. -/
theorem RyOf.files2 {w w' : World} {y : Nat} {F F' : Nat → Prop} {fa : Option Addr} {fc : Nat} {R : List Yf} {room fuse : Int} (h : RyOf w y F fa fc R room fuse) (R' : List Yf) (hsub : ∀ f ∈ R', f ∈ R) (hnd : (R'.map Yf.g).Nodup) (a' : Option Addr) (c' : Nat)
    (hy : w'.heap[y]? = some (.cells #[.int .i64 room, .slice a' R'.length c', .int .i64 fuse] 52 (0, 0))) (hfiles : w'.ownsRow 0 55 2 (.slice a' R'.length c') R'.length (cellsR R')) (hb : ∀ b, F b → b ≠ y → w'.heap[b]? = w.heap[b]?) (hFF : ∀ b, F b → F' b) (hFa : ∀ x, a' = some x → F' x.block) : RyOf w' y F' a' c' R' room fuse where
  disk := hy
  files := hfiles
  rows := fun f hf => own_other (h.rows f (hsub f hf)) (fun g hg => by
    obtain rfl : f.g = g := by simpa [Yf.row, Value.ownBlock] using hg
    exact hb _ (h.fr f (hsub f hf)) (own_ne (h.rows f (hsub f hf)) (g := f.g) rfl h.disk (Ne.symm tyDF.2.1)))
  ims := fun f hf c hc => by
    obtain ⟨a0, a1, a2, a3⟩ := h.ims f (hsub f hf) c hc
    obtain ⟨b0, b1, b2, b3⟩ := h.fi f (hsub f hf) c hc
    have nn : ∀ {q : Nat × Nat} {z : List Nat}, Im w q z → q.1 ≠ y := fun hq => own_ne hq rfl h.disk (Ne.symm tyDF.2.2.1)
    exact ⟨own_other a0 (fun g hg => by cases hg; exact hb _ b0 (nn a0)), own_other a1 (fun g hg => by cases hg; exact hb _ b1 (nn a1)), own_other a2 (fun g hg => by cases hg; exact hb _ b2 (nn a2)), own_other a3 (fun g hg => by cases hg; exact hb _ b3 (nn a3))⟩
  ok := fun f hf => h.ok f (hsub f hf)
  apart := hnd
  fy := hFF _ h.fy
  ff := hFa
  fr := fun f hf => hFF _ (h.fr f (hsub f hf))
  fi := fun f hf c hc => by
    obtain ⟨b0, b1, b2, b3⟩ := h.fi f (hsub f hf) c hc
    exact ⟨hFF _ b0, hFF _ b1, hFF _ b2, hFF _ b3⟩

theorem set3b {w : World} {y : Nat} {a b c v : Value} {t : TypeId} (h : w.heap[y]? = some (.cells #[a, b, c] t (0, 0))) : (w.setCell ⟨y, 1, none⟩ v).heap[y]? = some (.cells #[a, v, c] t (0, 0)) := by
  rw [setCell_eq_setRow _ _ _ _ _ _ _ h]
  exact setRow_heap _ _ _ _ _ _ h

theorem cellsR_append (a b : List Yf) : cellsR (a ++ b) = cellsR a ++ cellsR b := by simp [cellsR]

theorem cellsR_drop (R : List Yf) (k j : Nat) : (cellsR (R.drop k))[j]? = (cellsR R)[k * 2 + j]? := by
  induction R generalizing k with
  | nil => simp [cellsR]
  | cons x r ih =>
    cases k with
    | zero => simp
    | succ k =>
      rw [List.drop_succ_cons, ih k]
      show _ = (x.cells ++ cellsR r)[(k + 1) * 2 + j]?
      rw [List.getElem?_append_right (by show 2 ≤ _; omega), show (k + 1) * 2 + j - x.cells.length = k * 2 + j from by show (k + 1) * 2 + j - 2 = _; omega]

theorem cellsR_takeY (R : List Yf) (k j : Nat) (u : Value) (h : (cellsR (R.take k))[j]? = some u) : (cellsR R)[j]? = some u := by
  have e : cellsR R = cellsR (R.take k) ++ cellsR (R.drop k) := by rw [← cellsR_append, List.take_append_drop]
  rw [e, List.getElem?_append_left (List.getElem?_eq_some_iff.1 h).1]
  exact h
end Go.Proofs.Ytocfbokgbpaneaa
