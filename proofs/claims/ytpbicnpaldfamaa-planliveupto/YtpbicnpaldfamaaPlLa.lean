/- What dryrotref16.Live leans on: its operations' rows, and its bool in plain words. -/
import Derived.Test.YtpbicnpaldfamaaPlX
import Derived.Test.YtpbicnpaldfamaaPlZ
namespace Go.Proofs.Ytpbicnpaldfamaa
open Go.RowKit Go.Joins
set_option linter.unusedVariables false

def putAll (a : Act) (l : List (Nat × Value)) : Act := l.foldl (fun a p => a.put (some p.1) p.2) a

/-- A region by what it leaves: slots and a world. -/
theorem region_cut {P : Program} {id : Nat} {ops : Array Oper} {Q : Exit → Act → World → Prop} {a : Act} {w : World} {d : Bool} (I : List (Nat × Value) → World → Prop)
    (h1 : (Code.region id ops d).wp P (fun e a' w' => e = .normal ∧ ∃ l, I l w' ∧ a' = putAll a l) a w) (h2 : ∀ l w', I l w' → Q .normal (putAll a l) w') : (Code.region id ops d).wp P Q a w :=
  Code.wp_mono (fun e a' w' h => by obtain ⟨rfl, l, hI, rfl⟩ := h; exact h2 l w' hI) h1

theorem grown_alloc (w : World) (o : Obj) : w.grownBy (w.alloc o) none := ⟨rfl, rfl, rfl, by simp, fun i hi _ => Below.heap_alloc _ _ _ hi⟩

theorem own_emptyN {W : World} {b e size base : Nat} (h : W.heap[b]? = some (.cells #[] e (0, 0))) (hb : base ≤ b) : W.ownsRow base e size (.slice (some ⟨b, 0, none⟩) 0 0) 0 [] :=
  ⟨by simp, .inr ⟨b, 0, #[], rfl, hb, h, by omega, by simp, by simp, by simp⟩⟩

theorem mkF0_run {o : Oper} {a : Act} {w : World} (ho : o.op = Op.buildSlice 22 0 #[]) : (execOp a.eval o).run Try.prog w = .ok (.value (.slice (some ⟨w.heap.size, 0, none⟩) 0 0)) (w.alloc (.cells #[] 31)) := by
  have h : (Instr.buildSlice 22 0 #[]).run Try.prog w = .ok (.slice (some ⟨w.heap.size, 0, none⟩) 0 0) (w.alloc (.cells #[] 31)) := by kernel_rfl
  simp [execOp, ho, h, Result.andThen]

theorem bsF1_run {o : Oper} {a : Act} {w : World} {x : Operand} {d : Fo} (ho : o.op = Op.buildSlice 22 1 #[(0, x)]) (hx : a.eval x = d.agg) : (execOp a.eval o).run Try.prog w = .ok (.value (.slice (some ⟨w.heap.size, 0, none⟩) 1 1)) (w.alloc (.cells d.cells.toArray 31)) := by
  have h : (Instr.buildSlice 22 1 #[(0, d.agg)]).run Try.prog w = .ok (.slice (some ⟨w.heap.size, 0, none⟩) 1 1) (w.alloc (.cells d.cells.toArray 31)) := by kernel_rfl
  simp [execOp, ho, hx, h, Result.andThen]

theorem ldF_run {o : Oper} {a : Act} {w : World} {x : Operand} {g : Nat} {d : Fo} (ho : o.op = Op.load 31 x) (hx : a.eval x = .pointer (some ⟨g, 0, none⟩)) (hg : w.heap[g]? = some (.cells d.cells.toArray 31 (0, 0))) : (execOp a.eval o).run Try.prog w = .ok (.value d.agg) w := by
  have hi : (Try.prog.info? 31).map (·.size) = some d.cells.toArray.size := by
    rw [show d.cells.toArray.size = 8 from rfl]; kernel_rfl
  unfold execOp
  simp only [ho, hx, Instr.loadAt, Instr.sureAddr, Sem.run_bind, Sem.run_pure, Result.andThen_ok, run_loadVar_row w g 31 31 d.cells.toArray (0, 0) _ hg Try.underlying31 rfl hi]
  rfl

theorem appl_run {o : Oper} {a : Act} {w w' : World} {t u : TypeId} {x y : Operand} {vx vy v : Value} (ho : o.op = .call { callee := .builtin .append, args := #[x, y], argTypes := #[t, u] }) (hx : a.eval x = vx) (hy : a.eval y = vy) (hr : (Builtin.append_ #[t, u] o.type #[vx, vy]).run Try.prog w = .ok v w') : (execOp a.eval o).run Try.prog w = .ok (.value v) w' := by
  unfold execOp
  simp only [ho, resolve, invoke, builtin, Sem.run_bind, Sem.run_pure, Result.andThen_ok, List.map_toArray, List.map_cons, List.map_nil, hx, hy, hr]

def AtF (fa : Option Addr) (N fc : Nat) : Prop := (fa = none ∧ N = 0) ∨ (∃ g off, fa = some ⟨g, off, none⟩ ∧ N ≤ fc)

def lowF (fa : Option Addr) (fc k : Nat) : Option Addr := match fa with
  | none => none
  | some ⟨g, o, sp⟩ => if fc = k then some ⟨g, o, sp⟩ else some ⟨g, o + k * 8, sp⟩

theorem slHF_run {o : Oper} {a : Act} {w : World} {x z : Operand} {fa : Option Addr} {N fc k : Nat} (ho : o.op = Op.slice 22 x none (some z) none) (hx : a.eval x = .slice fa N fc) (hz : a.eval z = .int .i64 (k : Int)) (hfa : AtF fa N fc) (hk : k ≤ N) : (execOp a.eval o).run Try.prog w = .ok (.value (.slice fa k fc)) w := by
  have h2 : (Instr.slice 22 (.slice fa N fc) none (some (.int .i64 (k : Int))) none).run Try.prog w = .ok (.slice fa k fc) w := by
    rw [run_slice_h (P := Try.prog) w 22 fa N fc (by kernel_rfl) .i64 (k : Int) (by omega) (by rcases hfa with ⟨_, h⟩ | ⟨_, _, _, h⟩ <;> omega)]
    have hsz : (sizeOf (Try.prog.elem 22)).run Try.prog w = .ok 8 w := by kernel_rfl
    rw [hsz]
    rcases hfa with ⟨rfl, h⟩ | ⟨g, off, rfl, h⟩
    · simp [Result.andThen, sliced]
    · simp [Result.andThen, sliced, Addr.add]
  have hs := (run_sliceAt_slice (P := Try.prog) (w := w) 22 (.slice fa N fc) none (some (.int .i64 (k : Int))) none (by kernel_rfl)).trans h2
  simp [execOp, ho, hx, hz, hs, Result.andThen]

theorem slLF_run {o : Oper} {a : Act} {w : World} {x z : Operand} {fa : Option Addr} {N fc k m2 c2 : Nat} {a2 : Option Addr} (ho : o.op = Op.slice 22 x (some z) none none) (hx : a.eval x = .slice fa N fc) (hz : a.eval z = .int .i64 (k : Int)) (hfa : AtF fa N fc) (hk : k ≤ N) (HA : Hid (a2 = lowF fa fc k)) (HM : Hid (m2 = N - k)) (HC : Hid (c2 = fc - k)) : (execOp a.eval o).run Try.prog w = .ok (.value (.slice a2 m2 c2)) w := by
  have h2 : (Instr.slice 22 (.slice fa N fc) (some (.int .i64 (k : Int))) none none).run Try.prog w = .ok (.slice a2 m2 c2) w := by
    rw [run_slice_l (P := Try.prog) w 22 fa N fc (by kernel_rfl) .i64 (k : Int) (by omega) (by omega)]
    have hsz : (sizeOf (Try.prog.elem 22)).run Try.prog w = .ok 8 w := by kernel_rfl
    rw [hsz, HA.out, HM.out, HC.out]
    rcases hfa with ⟨rfl, h⟩ | ⟨g, off, rfl, h⟩
    · simp [Result.andThen, sliced, lowF]
    · unfold lowF
      by_cases e : fc = k
      · simp [Result.andThen, sliced, e]
      · simp [Result.andThen, sliced, e, Addr.add]
  have hs := (run_sliceAt_slice (P := Try.prog) (w := w) 22 (.slice fa N fc) (some (.int .i64 (k : Int))) none none (by kernel_rfl)).trans h2
  simp [execOp, ho, hx, hz, hs, Result.andThen]

theorem fcells_one (d : Fo) : ∀ u ∈ d.cells, u.oneCell' = true := by
  intro u hu
  simp [Fo.cells] at hu
  rcases hu with rfl | rfl | rfl | rfl | rfl | rfl | rfl | rfl <;> rfl

/-- What an append may take its news from. -/
def SrcF (W : World) (aa : Option Addr) (m : Nat) (news : List Value) : Prop := news.length = m * 8 ∧ (∀ u ∈ news, u.oneCell' = true) ∧ (aa = none → m = 0) ∧ ∀ x, aa = some x → ∀ j u, news[j]? = some u → W.cell? (x.add j) = some u

theorem Fls.src {w : World} {a : Option Addr} {len : Nat} {l : List Fo} (h : Fls w a len l) : SrcF w a len (fvs l) := by
  obtain ⟨h1, h2, h3, h4, h5⟩ := h
  refine ⟨by rw [fvs_length, h1], fvs_one l, h3, fun x hx j u hj => ?_⟩
  have hjl : j < l.length * 8 := by rw [← fvs_length]; exact (List.getElem?_eq_some_iff.1 hj).1
  have hq : j / 8 < l.length := by omega
  have hr : j % 8 < 8 := Nat.mod_lt _ (by decide)
  obtain ⟨d, hd⟩ : ∃ d, l[j / 8]? = some d := ⟨_, List.getElem?_eq_getElem hq⟩
  obtain ⟨v, hv⟩ : ∃ v, d.cells[j % 8]? = some v := ⟨_, List.getElem?_eq_getElem (by show j % 8 < 8; exact hr)⟩
  have e : j = j / 8 * 8 + j % 8 := by omega
  have h6 := fvs_get l (j / 8) d hd (j % 8) v hv
  rw [← e, hj] at h6
  injection h6 with h6
  have h7 := h5 x hx (j / 8) d hd (j % 8) v hv
  rw [← e] at h7
  rw [h6]
  exact h7

theorem Fls.low {w : World} {a : Option Addr} {N fc k : Nat} {l : List Fo} (h : Fls w a N l) (hfa : AtF a N fc) (hk : k ≤ N) : SrcF w (lowF a fc k) (N - k) (fvs (l.drop k)) := by
  rcases hfa with ⟨rfl, h0⟩ | ⟨g, off, rfl, hle⟩
  · subst h0
    have : l = [] := List.eq_nil_of_length_eq_zero h.1
    subst this
    simp only [List.drop_nil, Nat.zero_sub]
    exact (Fls.nil w).src
  · unfold lowF
    by_cases e : fc = k
    · simp only [e, if_true]
      have hN : N = k := by omega
      subst hN
      have hd : l.drop N = [] := by rw [← h.1, List.drop_length]
      rw [hd, Nat.sub_self]
      exact ⟨rfl, (fun u hu => by cases hu), (fun e => by cases e), (fun x hx j u hj => by simp [fvs] at hj)⟩
    · simp only [e, if_false]
      exact (h.drop k hk).src

theorem srcOne {W : World} {b : Nat} {d : Fo} (he : W.heap[b]? = some (.cells d.cells.toArray 31 (0, 0))) : SrcF W (some ⟨b, 0, none⟩) 1 d.cells :=
  ⟨rfl, fcells_one d, (fun e => by cases e), fun x hx j u hj => by
    cases hx
    rw [ladd_none, Nat.zero_add, cell_of_row _ _ _ _ _ _ he]
    simpa using hj⟩

theorem appF (W : World) (n0 : Nat) (a : Option Addr) (n c : Nat) (xs : List Value) (hown : W.ownsRow n0 31 8 (.slice a n c) n xs) (hle : n0 ≤ W.heap.size) (aa : Option Addr) (m c0 : Nat) (news : List Value) (hsrc : SrcF W aa m news) (tot : Nat) (ht : tot = n + m) (htb : tot ≤ 1000) :
    ∃ (a' : Option Addr) (c' : Nat) (W' : World), (Builtin.append_ #[22, 22] 22 #[.slice a n c, .slice aa m c0]).run Try.prog W = .ok (.slice a' tot c') W' ∧ W'.ownsRow n0 31 8 (.slice a' tot c') tot (xs ++ news) ∧ W.grownBy W' (Value.slice a n c).ownBlock := by
  obtain ⟨i0, z, hi, hz0, hz1, hz2, hzc⟩ := foInfo
  obtain ⟨hl, h1, h0, hc⟩ := hsrc
  subst ht
  obtain ⟨v', w', r1, r2, r3⟩ := appA (P := Try.prog) W n0 22 22 31 i0 z 8 80 Try.underlying22 hi hz0 hz1 hz2 hzc (by decide) _ n xs hown hle aa m c0 news hl h0 hc h1 (by unfold maxLen; omega) (by omega)
  obtain ⟨a', c', rfl⟩ := own_slice r2
  exact ⟨a', c', w', r1, r2, r3⟩

theorem heirs_mem2 {l : List Fo} {gen : Int} {n : Nat} {e : Int × Int × Int} (h : e ∈ heirsTo l gen n) : ∃ j o, j < n ∧ l[j]? = some o ∧ o.ge ≤ gen ∧ e.1 ∈ o.ps ∧ e.2 = (o.nu, (j : Int)) := by
  unfold heirsTo at h
  obtain ⟨j, hj, he⟩ := List.mem_flatMap.1 h
  unfold heirsAt at he
  cases ho : l[j]? with
  | none => rw [ho] at he; cases he
  | some o =>
    rw [ho] at he
    simp only at he
    split at he
    · rename_i hg
      obtain ⟨p, hp, rfl⟩ := List.mem_map.1 he
      exact ⟨j, o, List.mem_range.1 hj, ho, hg, hp, rfl⟩
    · cases he

/-- Block o, number i, has taken the k-th one's place. -/
def BadF (gen : Int) (k : Nat) (nu : Int) (i : Nat) (o : Fo) : Prop := i ≠ k ∧ o.ge ≤ gen ∧ nu ∈ o.ps

theorem live_iff {l : List Fo} {gen : Int} {n k : Nat} {d : Fo} (hd : l[k]? = some d) : replG (getE (heirsTo l gen n) d.nu) d.nu (k : Int) = false ↔ ∀ i < n, ∀ o, l[i]? = some o → ¬ BadF gen k d.nu i o := by
  rw [replG_false]
  constructor
  · intro h i hi o ho hb
    have := h _ (mem_getE.2 (mem_heirs hi ho hb.2.1 hb.2.2))
    simp only [Prod.mk.injEq] at this
    have := hb.1
    omega
  · intro h b hb
    obtain ⟨j, o, hj, ho, hg, hp, he⟩ := heirs_mem2 (mem_getE.1 hb)
    simp only at hp he
    by_cases e : j = k
    · subst e
      rw [hd] at ho
      injection ho with ho
      rw [he, ho]
    · exact absurd ⟨e, hg, hp⟩ (h j hj o ho)

theorem pv_sort {l m : List Fo} (h : l.map Fo.pv = m.map Fo.pv) : (sortE l).map Fo.pv = (sortE m).map Fo.pv := by
  have rev : ∀ (T U : List Fo) (f g : Fo), T.map Fo.pv = U.map Fo.pv → f.pv = g.pv → (insRev T f).map Fo.pv = (insRev U g).map Fo.pv := by
    intro T
    induction T with
    | nil =>
      intro U f g hT hf
      cases U with
      | nil => simp [insRev, hf]
      | cons _ _ => simp at hT
    | cons x t ih =>
      intro U f g hT hf
      cases U with
      | nil => simp at hT
      | cons y u =>
        simp only [List.map_cons, List.cons.injEq] at hT
        have e1 : f.rk = g.rk := by
          have := congrArg (fun z : PVt => z.2.2.2.1) hf
          exact this
        have e2 : x.rk = y.rk := by
          have := congrArg (fun z : PVt => z.2.2.2.1) hT.1
          exact this
        show (if f.rk < x.rk then x :: insRev t f else f :: x :: t).map Fo.pv = (if g.rk < y.rk then y :: insRev u g else g :: y :: u).map Fo.pv
        rw [e1, e2]
        split
        · simp only [List.map_cons, hT.1, ih u f g hT.2 hf]
        · simp only [List.map_cons, hT.1, hT.2, hf]
  have ins : ∀ (T U : List Fo) (f g : Fo), T.map Fo.pv = U.map Fo.pv → f.pv = g.pv → (insE T f).map Fo.pv = (insE U g).map Fo.pv := by
    intro T U f g hT hf
    unfold insE
    have := rev T.reverse U.reverse f g (by simp only [List.map_reverse, hT]) hf
    simp only [List.map_reverse, this]
  have key : ∀ (l m A B : List Fo), l.map Fo.pv = m.map Fo.pv → A.map Fo.pv = B.map Fo.pv → (l.foldl insE A).map Fo.pv = (m.foldl insE B).map Fo.pv := by
    intro l
    induction l with
    | nil =>
      intro m A B h hA
      cases m with
      | nil => exact hA
      | cons _ _ => simp at h
    | cons x t ih =>
      intro m A B h hA
      cases m with
      | nil => simp at h
      | cons y u =>
        simp only [List.map_cons, List.cons.injEq] at h
        exact ih u _ _ h.2 (ins _ _ _ _ hA h.1)
  exact key l m [] [] h rfl

end Go.Proofs.Ytpbicnpaldfamaa
