/- merge: what the document's Set is made of. -/
import Derived.Test.YtccjgciknaooaaaHiC
import Derived.Test.YtccjgciknaooaaaDrawn
import Derived.Test.YtccjgciknaooaaaAppA
namespace Go.Proofs.Ytccjgciknaooaaa
open Go.RowKit Go.Joins
set_option linter.unusedVariables false

def smPutAll (a : Act) (l : List (Nat × Value)) : Act := l.foldl (fun a p => a.put (some p.1) p.2) a

theorem sm_cut {P : Program} {id : Nat} {ops : Array Oper} {Q : Exit → Act → World → Prop} {a : Act} {w : World} {d : Bool} (I : List (Nat × Value) → World → Prop)
    (h1 : (Code.region id ops d).wp P (fun e a' w' => e = .normal ∧ ∃ l, I l w' ∧ a' = smPutAll a l) a w) (h2 : ∀ l w', I l w' → Q .normal (smPutAll a l) w') : (Code.region id ops d).wp P Q a w :=
  Code.wp_mono (fun e a' w' h => by obtain ⟨rfl, l, hI, rfl⟩ := h; exact h2 l w' hI) h1

theorem sm_empty {W : World} {b base : Nat} (h : W.heap[b]? = some (.cells #[] 36 (0, 0))) (hb : base ≤ b) : W.ownsRow base 36 2 (.slice (some ⟨b, 0, none⟩) 0 0) 0 [] :=
  ⟨by simp, .inr ⟨b, 0, #[], rfl, hb, h, by omega, by simp, by simp, by simp⟩⟩

theorem sm_mk0 {o : Oper} {a : Act} {w : World} (ho : o.op = Op.buildSlice 25 0 #[]) : (execOp a.eval o).run Try.prog w = .ok (.value (.slice (some ⟨w.heap.size, 0, none⟩) 0 0)) (w.alloc (.cells #[] 36)) := by
  have h : (Instr.buildSlice 25 0 #[]).run Try.prog w = .ok (.slice (some ⟨w.heap.size, 0, none⟩) 0 0) (w.alloc (.cells #[] 36)) := by kernel_rfl
  simp [execOp, ho, h, Result.andThen]

theorem sm_mk1 {o : Oper} {a : Act} {w : World} {x : Operand} {ts : Int} {vs : Nat} (ho : o.op = Op.buildSlice 25 1 #[(0, x)]) (hx : a.eval x = .agg #[.int .i64 ts, .int .u64 (vs : Int)]) : (execOp a.eval o).run Try.prog w = .ok (.value (.slice (some ⟨w.heap.size, 0, none⟩) 1 1)) (w.alloc (.cells #[.int .i64 ts, .int .u64 (vs : Int)] 36)) := by
  have h : (Instr.buildSlice 25 1 #[(0, .agg #[.int .i64 ts, .int .u64 (vs : Int)])]).run Try.prog w = .ok (.slice (some ⟨w.heap.size, 0, none⟩) 1 1) (w.alloc (.cells #[.int .i64 ts, .int .u64 (vs : Int)] 36)) := by kernel_rfl
  simp [execOp, ho, hx, h, Result.andThen]

theorem sm_appr {o : Oper} {a : Act} {w w' : World} {t u : TypeId} {x y : Operand} {vx vy v : Value} (ho : o.op = .call { callee := .builtin .append, args := #[x, y], argTypes := #[t, u] }) (hx : a.eval x = vx) (hy : a.eval y = vy) (hr : (Builtin.append_ #[t, u] o.type #[vx, vy]).run Try.prog w = .ok v w') : (execOp a.eval o).run Try.prog w = .ok (.value v) w' := by
  unfold execOp
  simp only [ho, resolve, invoke, builtin, Sem.run_bind, Sem.run_pure, Result.andThen_ok, List.map_toArray, List.map_cons, List.map_nil, hx, hy, hr]

/-- append of gaps that lie somewhere onto a row of one's own. -/
theorem smApp (W : World) (n0 : Nat) (v : Value) (n : Nat) (xs : List Value) (hown : W.ownsRow n0 36 2 v n xs) (hle : n0 ≤ W.heap.size) (aa : Option Addr) (m c0 : Nat) (l : List Sam) (hI : Sm W aa m l) (tot : Nat) (ht : tot = n + m) (htb : tot ≤ 10000) :
    ∃ (a' : Option Addr) (c' : Nat) (W' : World), (Builtin.append_ #[25, 25] 25 #[v, .slice aa m c0]).run Try.prog W = .ok (.slice a' tot c') W' ∧ W'.ownsRow n0 36 2 (.slice a' tot c') tot (xs ++ vsm l) ∧ W.grownBy W' v.ownBlock := by
  obtain ⟨i0, hi, hz0, hz1, hz2⟩ := info_parts Try.infoSam
  have hI' := hI
  obtain ⟨h1, h2, _, h3, h4⟩ := hI
  subst ht
  obtain ⟨v', w', r1, r2, r3⟩ := appAny (P := Try.prog) W n0 25 25 36 i0 (.agg #[.int .i64 0, .int .u64 0]) 2 16 Try.underlying25 hi hz0 hz1 hz2 rfl (by decide) v n xs hown hle aa m c0 (vsm l) (by rw [vsm_len, h1]) h3 (fun x hx j u hu => by
    subst hx
    exact vsm_at hI' j u hu) (one_vsm l) (by unfold maxLen; omega) (by omega)
  obtain ⟨a', c', rfl⟩ := own_slice r2
  exact ⟨a', c', w', r1, r2, r3⟩

theorem sm_slH {o : Oper} {a : Act} {w : World} {x z : Operand} {fa : Option Addr} {N fc k : Nat} (ho : o.op = Op.slice 25 x none (some z) none) (hx : a.eval x = .slice fa N fc) (hz : a.eval z = .int .i64 (k : Int)) (hk : k ≤ fc) : (execOp a.eval o).run Try.prog w = .ok (.value (.slice fa k fc)) w := by
  have h2 : (Instr.slice 25 (.slice fa N fc) none (some (.int .i64 (k : Int))) none).run Try.prog w = .ok (.slice fa k fc) w := by
    rw [run_slice_h (P := Try.prog) w 25 fa N fc (by kernel_rfl) .i64 (k : Int) (by omega) (by omega)]
    have hsz : (sizeOf (Try.prog.elem 25)).run Try.prog w = .ok 2 w := by kernel_rfl
    rw [hsz]
    cases fa <;> simp [Result.andThen, sliced, Addr.add]
  have hs := (run_sliceAt_slice (P := Try.prog) (w := w) 25 (.slice fa N fc) none (some (.int .i64 (k : Int))) none (by kernel_rfl)).trans h2
  simp [execOp, ho, hx, hz, hs, Result.andThen]

theorem sm_slL {o : Oper} {a : Act} {w : World} {x z : Operand} {fa a2 : Option Addr} {N fc k m2 c2 : Nat} (ho : o.op = Op.slice 25 x (some z) none none) (hx : a.eval x = .slice fa N fc) (hz : a.eval z = .int .i64 (k : Int)) (hk : k ≤ N) (HA : Hid (a2 = if fc = k then fa else fa.map (·.add (k * 2)))) (HM : Hid (m2 = N - k)) (HC : Hid (c2 = fc - k)) : (execOp a.eval o).run Try.prog w = .ok (.value (.slice a2 m2 c2)) w := by
  have h2 : (Instr.slice 25 (.slice fa N fc) (some (.int .i64 (k : Int))) none none).run Try.prog w = .ok (.slice a2 m2 c2) w := by
    rw [run_slice_l (P := Try.prog) w 25 fa N fc (by kernel_rfl) .i64 (k : Int) (by omega) (by omega)]
    have hsz : (sizeOf (Try.prog.elem 25)).run Try.prog w = .ok 2 w := by kernel_rfl
    rw [hsz, HA.out, HM.out, HC.out]
    simp [Result.andThen, sliced]
  have hs := (run_sliceAt_slice (P := Try.prog) (w := w) 25 (.slice fa N fc) (some (.int .i64 (k : Int))) none none (by kernel_rfl)).trans h2
  simp [execOp, ho, hx, hz, hs, Result.andThen]

theorem smLow {w : World} {fa : Option Addr} {N fc k : Nat} {l : List Sam} (h : Sm w fa N l) (hc : N ≤ fc) (hk : k ≤ N) : Sm w (if fc = k then fa else fa.map (·.add (k * 2))) (N - k) (l.drop k) := by
  have hpos := fun h0 => h.pos (h0 : 0 < N)
  obtain ⟨h1, h2, hok, h3, h4⟩ := h
  have hd : ∀ j, samD (l.drop k) j = samD l (k + j) := fun j => by simp [samD, List.getD_eq_getElem?_getD]
  refine ⟨by rw [List.length_drop, h1], by omega, fun i => by rw [hd]; exact hok _, fun e => ?_, fun x hx j hj => ?_⟩
  · have : fa = none := by
      split at e
      · exact e
      · simpa using e
    have := h3 this
    omega
  · rw [hd]
    rw [if_neg (by omega)] at hx
    obtain ⟨b, off, rfl, _, hcl⟩ := hpos (by omega)
    simp only [Option.map_some, Option.some.injEq] at hx
    subst hx
    obtain ⟨c0, c1⟩ := hcl (k + j) (by omega)
    rw [add_none, add_none, add_none]
    rw [show off + k * 2 + j * 2 = off + (k + j) * 2 from by omega, show off + k * 2 + (j * 2 + 1) = off + (k + j) * 2 + 1 from by omega]
    exact ⟨c0, c1⟩

theorem sm_n1 {W : World} {b : Nat} {ts : Int} {vs : Nat} (hok : SamOK ⟨ts, vs⟩) (h : W.heap[b]? = some (.cells #[.int .i64 ts, .int .u64 (vs : Int)] 36 (0, 0))) : Sm W (some ⟨b, 0, none⟩) 1 [⟨ts, vs⟩] := by
  refine ⟨rfl, by unfold maxLen; omega, samD_ok (fun s hs => by rw [List.mem_singleton] at hs; subst hs; exact hok), (fun e => by cases e), fun x hx j hj => ?_⟩
  cases hx
  obtain rfl : j = 0 := by omega
  rw [add_none, add_none]
  exact ⟨cell_of_row _ _ _ _ _ _ h, cell_of_row _ _ _ _ _ _ h⟩

theorem samD_at {R : List Sam} {i : Nat} (hi : i < R.length) : samD R i = R[i] := by
  unfold samD
  rw [List.getD_eq_getElem?_getD, List.getElem?_eq_getElem hi]
  rfl

/-- A sample of a new time at its place. -/
theorem set_ok {S : List Sam} {s : Sam} {p : Nat} (hp : p ≤ S.length) (hu : UpS S) (hnew : ∀ y ∈ S, y.t ≠ s.t) (h1 : p = 0 ∨ (samD S (p - 1)).t < s.t) (h2 : ∀ i, p ≤ i → i < S.length → s.t ≤ (samD S i).t) :
    UpS (S.take p ++ [s] ++ S.drop p) ∧ ∀ y, y ∈ S.take p ++ [s] ++ S.drop p ↔ y = s ∨ y ∈ S := by
  have hlow : ∀ y ∈ S.take p, y.t < s.t := fun y hy => by
    obtain ⟨i, hi, rfl⟩ := List.getElem_of_mem hy
    rw [List.length_take] at hi
    rw [List.getElem_take]
    rcases h1 with h1 | h1
    · omega
    · by_cases he : i = p - 1
      · subst he; rw [samD_at (by omega)] at h1; exact h1
      · rw [samD_at (by omega)] at h1
        have := List.pairwise_iff_getElem.1 hu i (p - 1) (by omega) (by omega) (by omega)
        omega
  have hhigh : ∀ y ∈ S.drop p, s.t < y.t := fun y hy => by
    have hy2 := hy
    obtain ⟨i, hi, rfl⟩ := List.getElem_of_mem hy
    rw [List.length_drop] at hi
    have h3 := h2 (p + i) (by omega) (by omega)
    rw [samD_at (by omega)] at h3
    have h4 := hnew _ (List.mem_of_mem_drop hy2)
    rw [List.getElem_drop] at h4 ⊢
    omega
  refine ⟨?_, fun y => ?_⟩
  · refine List.pairwise_append.2 ⟨List.pairwise_append.2 ⟨hu.sublist (List.take_sublist _ _), List.pairwise_singleton _ _, fun a ha b hb => ?_⟩, hu.sublist (List.drop_sublist _ _), fun a ha b hb => ?_⟩
    · rw [List.mem_singleton] at hb; subst hb; exact hlow a ha
    · rcases List.mem_append.1 ha with ha | ha
      · have := hlow a ha
        have := hhigh b hb
        omega
      · rw [List.mem_singleton] at ha; subst ha; exact hhigh b hb
  · have e : y ∈ S ↔ y ∈ S.take p ∨ y ∈ S.drop p := by
      conv => lhs; rw [← List.take_append_drop p S]
      exact List.mem_append
    rw [e]
    simp only [List.mem_append, List.mem_singleton]
    constructor
    · rintro ((h | h) | h)
      · exact .inr (.inl h)
      · exact .inl h
      · exact .inr (.inr h)
    · rintro (h | h | h)
      · exact .inl (.inr h)
      · exact .inl (.inl h)
      · exact .inr h
end Go.Proofs.Ytccjgciknaooaaa
