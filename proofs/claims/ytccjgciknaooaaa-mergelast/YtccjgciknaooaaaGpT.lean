/- merge: what the document's insertion is made of. -/
import Derived.Test.YtccjgciknaooaaaGpK
import Derived.Test.YtccjgciknaooaaaDrawn
import Derived.Test.YtccjgciknaooaaaAppA
namespace Go.Proofs.Ytccjgciknaooaaa
open Go.RowKit Go.Joins
set_option linter.unusedVariables false

def gpPutAll (a : Act) (l : List (Nat × Value)) : Act := l.foldl (fun a p => a.put (some p.1) p.2) a

theorem gp_cut {P : Program} {id : Nat} {ops : Array Oper} {Q : Exit → Act → World → Prop} {a : Act} {w : World} {d : Bool} (I : List (Nat × Value) → World → Prop)
    (h1 : (Code.region id ops d).wp P (fun e a' w' => e = .normal ∧ ∃ l, I l w' ∧ a' = gpPutAll a l) a w) (h2 : ∀ l w', I l w' → Q .normal (gpPutAll a l) w') : (Code.region id ops d).wp P Q a w :=
  Code.wp_mono (fun e a' w' h => by obtain ⟨rfl, l, hI, rfl⟩ := h; exact h2 l w' hI) h1

theorem gp_empty {W : World} {b base : Nat} (h : W.heap[b]? = some (.cells #[] 62 (0, 0))) (hb : base ≤ b) : W.ownsRow base 62 2 (.slice (some ⟨b, 0, none⟩) 0 0) 0 [] :=
  ⟨by simp, .inr ⟨b, 0, #[], rfl, hb, h, by omega, by simp, by simp, by simp⟩⟩

theorem gp_mk0 {o : Oper} {a : Act} {w : World} (ho : o.op = Op.buildSlice 23 0 #[]) : (execOp a.eval o).run Try.prog w = .ok (.value (.slice (some ⟨w.heap.size, 0, none⟩) 0 0)) (w.alloc (.cells #[] 62)) := by
  have h : (Instr.buildSlice 23 0 #[]).run Try.prog w = .ok (.slice (some ⟨w.heap.size, 0, none⟩) 0 0) (w.alloc (.cells #[] 62)) := by kernel_rfl
  simp [execOp, ho, h, Result.andThen]

theorem gp_mk1 {o : Oper} {a : Act} {w : World} {x : Operand} {gf gt : Int} (ho : o.op = Op.buildSlice 23 1 #[(0, x)]) (hx : a.eval x = .agg #[.int .i64 gf, .int .i64 gt]) : (execOp a.eval o).run Try.prog w = .ok (.value (.slice (some ⟨w.heap.size, 0, none⟩) 1 1)) (w.alloc (.cells #[.int .i64 gf, .int .i64 gt] 62)) := by
  have h : (Instr.buildSlice 23 1 #[(0, .agg #[.int .i64 gf, .int .i64 gt])]).run Try.prog w = .ok (.slice (some ⟨w.heap.size, 0, none⟩) 1 1) (w.alloc (.cells #[.int .i64 gf, .int .i64 gt] 62)) := by kernel_rfl
  simp [execOp, ho, hx, h, Result.andThen]

theorem gp_appr {o : Oper} {a : Act} {w w' : World} {t u : TypeId} {x y : Operand} {vx vy v : Value} (ho : o.op = .call { callee := .builtin .append, args := #[x, y], argTypes := #[t, u] }) (hx : a.eval x = vx) (hy : a.eval y = vy) (hr : (Builtin.append_ #[t, u] o.type #[vx, vy]).run Try.prog w = .ok v w') : (execOp a.eval o).run Try.prog w = .ok (.value v) w' := by
  unfold execOp
  simp only [ho, resolve, invoke, builtin, Sem.run_bind, Sem.run_pure, Result.andThen_ok, List.map_toArray, List.map_cons, List.map_nil, hx, hy, hr]

theorem vgp_at {w : World} {x : Addr} {len : Nat} {l : List Gp} (h : Gps w (some x) len l) : ∀ j u, (vgp l)[j]? = some u → w.cell? (x.add j) = some u := by
  intro j u hj
  have hjl : j < l.length * 2 := by rw [← vgp_len]; exact (List.getElem?_eq_some_iff.1 hj).1
  have hk : j / 2 < l.length := by omega
  obtain ⟨g1, g2⟩ := vgp_get l (j / 2) hk
  obtain ⟨c1, c2⟩ := h.2.2.2 x rfl (j / 2) (by rw [← h.1]; exact hk)
  by_cases hp : j % 2 = 0
  · have e : j / 2 * 2 = j := by omega
    rw [e] at g1 c1
    rw [hj] at g1
    rw [c1, ← g1]
  · have e : j / 2 * 2 + 1 = j := by omega
    rw [e] at g2 c2
    rw [hj] at g2
    rw [c2, ← g2]

/-- append of gaps that lie somewhere onto a row of one's own. -/
theorem gpApp (W : World) (n0 : Nat) (v : Value) (n : Nat) (xs : List Value) (hown : W.ownsRow n0 62 2 v n xs) (hle : n0 ≤ W.heap.size) (aa : Option Addr) (m c0 : Nat) (l : List Gp) (hI : Gps W aa m l) (tot : Nat) (ht : tot = n + m) (htb : tot ≤ 10000) :
    ∃ (a' : Option Addr) (c' : Nat) (W' : World), (Builtin.append_ #[23, 23] 23 #[v, .slice aa m c0]).run Try.prog W = .ok (.slice a' tot c') W' ∧ W'.ownsRow n0 62 2 (.slice a' tot c') tot (xs ++ vgp l) ∧ W.grownBy W' v.ownBlock := by
  obtain ⟨i0, hi, hz0, hz1, hz2⟩ := info_parts zGap
  have hI' := hI
  obtain ⟨h1, h2, h3, h4⟩ := hI
  subst ht
  obtain ⟨v', w', r1, r2, r3⟩ := appAny (P := Try.prog) W n0 23 23 62 i0 (.agg #[.int .i64 0, .int .i64 0]) 2 16 Try.underlying23 hi hz0 hz1 hz2 rfl (by decide) v n xs hown hle aa m c0 (vgp l) (by rw [vgp_len, h1]) h3 (fun x hx j u hu => by
    subst hx
    exact vgp_at hI' j u hu) (one_vgp l) (by unfold maxLen; omega) (by omega)
  obtain ⟨a', c', rfl⟩ := own_slice r2
  exact ⟨a', c', w', r1, r2, r3⟩

theorem gp_slH {o : Oper} {a : Act} {w : World} {x z : Operand} {fa : Option Addr} {N fc k : Nat} (ho : o.op = Op.slice 23 x none (some z) none) (hx : a.eval x = .slice fa N fc) (hz : a.eval z = .int .i64 (k : Int)) (hk : k ≤ fc) : (execOp a.eval o).run Try.prog w = .ok (.value (.slice fa k fc)) w := by
  have h2 : (Instr.slice 23 (.slice fa N fc) none (some (.int .i64 (k : Int))) none).run Try.prog w = .ok (.slice fa k fc) w := by
    rw [run_slice_h (P := Try.prog) w 23 fa N fc (by kernel_rfl) .i64 (k : Int) (by omega) (by omega)]
    have hsz : (sizeOf (Try.prog.elem 23)).run Try.prog w = .ok 2 w := by kernel_rfl
    rw [hsz]
    cases fa <;> simp [Result.andThen, sliced, Addr.add]
  have hs := (run_sliceAt_slice (P := Try.prog) (w := w) 23 (.slice fa N fc) none (some (.int .i64 (k : Int))) none (by kernel_rfl)).trans h2
  simp [execOp, ho, hx, hz, hs, Result.andThen]

theorem gp_slL {o : Oper} {a : Act} {w : World} {x z : Operand} {fa a2 : Option Addr} {N fc k m2 c2 : Nat} (ho : o.op = Op.slice 23 x (some z) none none) (hx : a.eval x = .slice fa N fc) (hz : a.eval z = .int .i64 (k : Int)) (hk : k ≤ N) (HA : Hid (a2 = if fc = k then fa else fa.map (·.add (k * 2)))) (HM : Hid (m2 = N - k)) (HC : Hid (c2 = fc - k)) : (execOp a.eval o).run Try.prog w = .ok (.value (.slice a2 m2 c2)) w := by
  have h2 : (Instr.slice 23 (.slice fa N fc) (some (.int .i64 (k : Int))) none none).run Try.prog w = .ok (.slice a2 m2 c2) w := by
    rw [run_slice_l (P := Try.prog) w 23 fa N fc (by kernel_rfl) .i64 (k : Int) (by omega) (by omega)]
    have hsz : (sizeOf (Try.prog.elem 23)).run Try.prog w = .ok 2 w := by kernel_rfl
    rw [hsz, HA.out, HM.out, HC.out]
    simp [Result.andThen, sliced]
  have hs := (run_sliceAt_slice (P := Try.prog) (w := w) 23 (.slice fa N fc) (some (.int .i64 (k : Int))) none none (by kernel_rfl)).trans h2
  simp [execOp, ho, hx, hz, hs, Result.andThen]

theorem Gps.take {w : World} {a : Option Addr} {len : Nat} {l : List Gp} (h : Gps w a len l) (m : Nat) (hm : m ≤ len) : Gps w a m (l.take m) := by
  obtain ⟨h1, h2, h4, h5⟩ := h
  have hd : ∀ i, i < m → gpD (l.take m) i = gpD l i := by
    intro i hi
    simp [gpD, List.getD_eq_getElem?_getD, hi]
  refine ⟨by rw [List.length_take]; omega, by omega, fun h => by have := h4 h; omega, fun x hx j hj => ?_⟩
  rw [hd j hj]; exact h5 x hx j (by omega)

theorem gpLow {w : World} {fa : Option Addr} {N fc k : Nat} {l : List Gp} (h : Gps w fa N l) (hc : N ≤ fc) (hk : k ≤ N) : Gps w (if fc = k then fa else fa.map (·.add (k * 2))) (N - k) (l.drop k) := by
  have hpos := fun h0 => h.pos (h0 : 0 < N)
  obtain ⟨h1, h2, h3, h4⟩ := h
  refine ⟨by rw [List.length_drop, h1], by omega, fun e => ?_, fun x hx j hj => ?_⟩
  · have : fa = none := by
      split at e
      · exact e
      · simpa using e
    have := h3 this
    omega
  · have hd : gpD (l.drop k) j = gpD l (k + j) := by simp [gpD, List.getD_eq_getElem?_getD]
    rw [hd]
    rw [if_neg (by omega)] at hx
    obtain ⟨b, off, rfl, _, hcl⟩ := hpos (by omega)
    simp only [Option.map_some, Option.some.injEq] at hx
    subst hx
    obtain ⟨c0, c1⟩ := hcl (k + j) (by omega)
    rw [add_none, add_none, add_none]
    rw [show off + k * 2 + j * 2 = off + (k + j) * 2 from by omega, show off + k * 2 + (j * 2 + 1) = off + (k + j) * 2 + 1 from by omega]
    exact ⟨c0, c1⟩

theorem gp_n1 {W : World} {b : Nat} {gf gt : Int} (h : W.heap[b]? = some (.cells #[.int .i64 gf, .int .i64 gt] 62 (0, 0))) : Gps W (some ⟨b, 0, none⟩) 1 [⟨gf, gt⟩] := by
  refine ⟨rfl, by unfold maxLen; omega, (fun e => by cases e), fun x hx j hj => ?_⟩
  cases hx
  obtain rfl : j = 0 := by omega
  rw [add_none, add_none]
  exact ⟨cell_of_row _ _ _ _ _ _ h, cell_of_row _ _ _ _ _ _ h⟩
end Go.Proofs.Ytccjgciknaooaaa
