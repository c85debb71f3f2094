/- Spots in memory, and the rows of operations on slices of them. -/
import Derived.Test.YtidlogeeophogaaDoorDrawn
import Derived.Test.YtidlogeeophogaaDoorDiskAt
import Derived.Lib.SmallJoins
import Derived.Laws.OwnMore
import Derived.Laws.AppendOwnNone
namespace Go.Proofs.YtidlogeeophogaaDoor.Sp
open Go.RowKit Go.Joins
set_option linter.unusedVariables false

structure Spt where
  nm : ByteArray
  ix : Int

def Spt.cells (d : Spt) : List Value := [.string d.nm, .int .i64 d.ix]

def fvs (l : List Spt) : List Value := (l.map Spt.cells).flatten

theorem fvs_cons (d : Spt) (l : List Spt) : fvs (d :: l) = d.cells ++ fvs l := rfl

theorem fvs_length (l : List Spt) : (fvs l).length = l.length * 2 := by
  induction l with
  | nil => rfl
  | cons d t ih => rw [fvs_cons, List.length_append, ih, List.length_cons]; simp only [Spt.cells, List.length_cons, List.length_nil]; omega

theorem fvs_append (l m : List Spt) : fvs (l ++ m) = fvs l ++ fvs m := by simp [fvs]

theorem fvs_get (l : List Spt) : ∀ (j : Nat) (d : Spt), l[j]? = some d → ∀ k v, d.cells[k]? = some v → (fvs l)[j * 2 + k]? = some v := by
  induction l with
  | nil => intro j s h; simp at h
  | cons x t ih =>
    intro j s h k v hk
    rw [fvs_cons]
    have hl : ∀ y : Spt, y.cells.length = 2 := fun _ => rfl
    cases j with
    | zero =>
      simp at h
      subst h
      have hk2 : k < x.cells.length := (List.getElem?_eq_some_iff.1 hk).1
      rw [Nat.zero_mul, Nat.zero_add, List.getElem?_append_left hk2]
      exact hk
    | succ j =>
      have := ih j s (by simpa using h) k v hk
      rw [show (j + 1) * 2 + k = 2 + (j * 2 + k) from by omega, List.getElem?_append_right (by rw [hl]; omega), hl, Nat.add_sub_cancel_left]
      exact this

def Fls (w : World) (a : Option Addr) (len : Nat) (l : List Spt) : Prop :=
  l.length = len ∧ len ≤ maxLen ∧ (a = none → len = 0) ∧ (∀ d ∈ l, True) ∧ ∀ x, a = some x → ∀ j d, l[j]? = some d → ∀ k v, d.cells[k]? = some v → w.cell? (x.add (j * 2 + k)) = some v

theorem Fls.nil (w : World) : Fls w none 0 [] := ⟨rfl, Nat.zero_le _, fun _ => rfl, (fun d hd => by cases hd), (fun x hx => by cases hx)⟩

theorem Fls.below {w w' : World} {a : Option Addr} {len : Nat} {l : List Spt} (h : Fls w a len l) (hb : Below w.heap.size w w') : Fls w' a len l := by
  obtain ⟨h1, h2, h3, h4, h5⟩ := h
  refine ⟨h1, h2, h3, fun s hs => trivial, fun x hx j s hs k v hv => ?_⟩
  have := h5 x hx j s hs k v hv
  exact (hb.cell (block_lt_of_cell this)).trans this

theorem Fls.take {w : World} {a : Option Addr} {len : Nat} {l : List Spt} (h : Fls w a len l) (k : Nat) (hk : k ≤ len) : Fls w a k (l.take k) := by
  obtain ⟨h1, h2, h3, h4, h5⟩ := h
  refine ⟨by rw [List.length_take]; omega, by omega, fun e => by have := h3 e; omega, fun d hd => h4 d (List.mem_of_mem_take hd), fun x hx j d hd => ?_⟩
  rw [List.getElem?_take] at hd
  split at hd
  · exact h5 x hx j d hd
  · cases hd

theorem Fls.at {w : World} {a : Option Addr} {len j : Nat} {l : List Spt} {d : Spt} (h : Fls w a len l) (hd : l[j]? = some d) :
    ∃ b off, a = some ⟨b, off, none⟩ ∧ b < w.heap.size ∧ w.cell? ⟨b, off + j * 2, none⟩ = some (.string d.nm) ∧ w.cell? ⟨b, off + j * 2 + 1, none⟩ = some (.int .i64 d.ix) ∧ True := by
  obtain ⟨h1, h2, h3, h4, h5⟩ := h
  have hjl : j < l.length := (List.getElem?_eq_some_iff.1 hd).1
  cases a with
  | none => have := h3 rfl; omega
  | some x =>
    obtain ⟨b, off, spot⟩ := x
    obtain ⟨s0, hs0⟩ : ∃ s0, l[0]? = some s0 := ⟨_, List.getElem?_eq_getElem (by omega)⟩
    have hspot : spot = none := by simpa [Addr.add] using World.cell?_spot (h5 _ rfl 0 s0 hs0 0 _ rfl)
    subst hspot
    have h := h5 _ rfl j d hd
    have e : ∀ k, (⟨b, off, none⟩ : Addr).add (j * 2 + k) = ⟨b, off + j * 2 + k, none⟩ := fun k => by rw [add_none, Nat.add_assoc]
    simp only [e] at h
    exact ⟨b, off, rfl, block_lt_of_cell (h 0 _ rfl), h 0 _ rfl, h 1 _ rfl, h4 d (List.mem_of_getElem? hd)⟩

theorem Fls.drop {w : World} {b off len : Nat} {l : List Spt} (h : Fls w (some ⟨b, off, none⟩) len l) (k : Nat) (hk : k ≤ len) : Fls w (some ⟨b, off + k * 2, none⟩) (len - k) (l.drop k) := by
  obtain ⟨h1, h2, h3, h4, h5⟩ := h
  refine ⟨by rw [List.length_drop]; omega, by omega, (fun e => by cases e), fun d hd => h4 d (List.mem_of_mem_drop hd), fun x hx j d hd i v hi => ?_⟩
  cases hx
  rw [List.getElem?_drop] at hd
  have := h5 _ rfl (k + j) d hd i v hi
  rw [add_none] at this ⊢
  rw [show off + k * 2 + (j * 2 + i) = off + ((k + j) * 2 + i) from by rw [Nat.add_mul]; omega]
  exact this

/-- The struct's value. -/
def Spt.agg (d : Spt) : Value := .agg #[.string d.nm, .int .i64 d.ix]

theorem own_slice {w : World} {base e size n : Nat} {v : Value} {xs : List Value} (h : w.ownsRow base e size v n xs) : ∃ a c, v = .slice a n c := by
  rcases h.2 with ⟨h1, h2⟩ | ⟨g, cap, cur, h1, _⟩
  · exact ⟨none, 0, by rw [h1, h2]⟩
  · exact ⟨_, _, h1⟩

theorem own_lower {w : World} {base base' e size n : Nat} {v : Value} {xs : List Value} (h : w.ownsRow base' e size v n xs) (hb : base ≤ base') : w.ownsRow base e size v n xs := by
  refine ⟨h.1, ?_⟩
  rcases h.2 with hn | ⟨g, cap, cur, rfl, hbb, rest⟩
  · exact .inl hn
  · exact .inr ⟨g, cap, cur, rfl, by omega, rest⟩

theorem own_skip {w w' : World} {base e size n : Nat} {v : Value} {xs : List Value} (h : w.ownsRow base e size v n xs) (hb : Below w.heap.size w w') : w'.ownsRow base e size v n xs := by
  refine ⟨h.1, ?_⟩
  rcases h.2 with hn | ⟨g, cap, cur, rfl, hbb, hgg, rest⟩
  · exact .inl hn
  · exact .inr ⟨g, cap, cur, rfl, hbb, by rw [hb.block g (Array.getElem?_eq_some_iff.1 hgg).1]; exact hgg, rest⟩

theorem foInfo : ∃ i0 z, Tryd.prog.info? 25 = some i0 ∧ i0.zero = some z ∧ i0.size = 2 ∧ i0.bytes = 24 ∧ z.cells.size = 2 := by
  have h : (Tryd.prog.info? 25).map (fun i => (i.zero, i.size, i.bytes)) = some (some (.agg #[.string ⟨#[]⟩, .int .i64 0]), 2, 24) := by kernel_rfl
  obtain ⟨i0, hi, h1, h2, h3⟩ := info_parts h
  exact ⟨i0, _, hi, h1, h2, h3, rfl⟩

theorem app_none {P : Program} {w : World} (base : Nat) (t ty e : TypeId) (i : TypeInfo) (size : Nat) (ht : P.underlying t = some (.slice e)) (hi : P.info? e = some i)
    (v : Value) (n c : Nat) (xs : List Value) (hown : w.ownsRow base e size v n xs) : (Builtin.append_ #[t, t] ty #[v, .slice none 0 c]).run P w = .ok v w := by
  rcases hown.2 with ⟨rfl, rfl⟩ | ⟨g, cap, cur, rfl, _, _, hnc, _⟩
  · simp [Builtin.append_, run_underlying ht, sizeOf, typeInfo, hi, Builtin.lenOf, Builtin.firstCells]
  · simp [Builtin.append_, run_underlying ht, sizeOf, typeInfo, hi, Builtin.lenOf, Builtin.firstCells, hnc, storeCells]

theorem appA {P : Program} (w : World) (base : Nat) (t ty e : TypeId) (i : TypeInfo) (z : Value) (size bytes : Nat) (ht : P.underlying t = some (.slice e)) (hi : P.info? e = some i) (hz : i.zero = some z)
    (hsize : i.size = size) (hby : i.bytes = bytes) (hzs : z.cells.size = size) (hsz : 0 < size)
    (v : Value) (n : Nat) (xs : List Value) (hown : w.ownsRow base e size v n xs) (hbase : base ≤ w.heap.size)
    (aa : Option Addr) (m c : Nat) (news : List Value) (hl : news.length = m * size) (h0 : aa = none → m = 0) (hnews : ∀ x, aa = some x → ∀ j u, news[j]? = some u → w.cell? (x.add j) = some u) (h1 : ∀ u ∈ news, u.oneCell' = true)
    (h63 : n + m ≤ maxLen) (hbytes : (n + m) * bytes ≤ 140737488355328) :
    ∃ v' w', (Builtin.append_ #[t, t] ty #[v, .slice aa m c]).run P w = .ok v' w' ∧ w'.ownsRow base e size v' (n + m) (xs ++ news) ∧ w.grownBy w' v.ownBlock := by
  cases aa with
  | none =>
    obtain rfl := h0 rfl
    have hn : news = [] := by
      cases news with
      | nil => rfl
      | cons _ _ => simp at hl
    subst hn
    exact ⟨v, w, app_none base t ty e i size ht hi v n c xs hown, by simpa using hown, ⟨rfl, rfl, rfl, Nat.le_refl _, fun _ _ _ => rfl⟩⟩
  | some x =>
    obtain ⟨v', w', r1, r2, r3, _⟩ := run_append_own (P := P) w base t ty e i z size bytes ht hi hz hsize hby hzs hsz v n xs hown x m c news hl (hnews x rfl) h1 h63 hbytes hbase
    exact ⟨v', w', r1, r2, r3⟩

def putAll (a : Act) (l : List (Nat × Value)) : Act := l.foldl (fun a p => a.put (some p.1) p.2) a

/-- A region by what it leaves: slots and a world. -/
theorem region_cut {P : Program} {id : Nat} {ops : Array Oper} {Q : Exit → Act → World → Prop} {a : Act} {w : World} {d : Bool} (I : List (Nat × Value) → World → Prop)
    (h1 : (Code.region id ops d).wp P (fun e a' w' => e = .normal ∧ ∃ l, I l w' ∧ a' = putAll a l) a w) (h2 : ∀ l w', I l w' → Q .normal (putAll a l) w') : (Code.region id ops d).wp P Q a w :=
  Code.wp_mono (fun e a' w' h => by obtain ⟨rfl, l, hI, rfl⟩ := h; exact h2 l w' hI) h1

theorem grown_alloc (w : World) (o : Obj) : w.grownBy (w.alloc o) none := ⟨rfl, rfl, rfl, by simp, fun i hi _ => Below.heap_alloc _ _ _ hi⟩

theorem own_emptyN {W : World} {b e size base : Nat} (h : W.heap[b]? = some (.cells #[] e (0, 0))) (hb : base ≤ b) : W.ownsRow base e size (.slice (some ⟨b, 0, none⟩) 0 0) 0 [] :=
  ⟨by simp, .inr ⟨b, 0, #[], rfl, hb, h, by omega, by simp, by simp, by simp⟩⟩

theorem mkF0_run {o : Oper} {a : Act} {w : World} (ho : o.op = Op.buildSlice 22 0 #[]) : (execOp a.eval o).run Tryd.prog w = .ok (.value (.slice (some ⟨w.heap.size, 0, none⟩) 0 0)) (w.alloc (.cells #[] 25)) := by
  have h : (Instr.buildSlice 22 0 #[]).run Tryd.prog w = .ok (.slice (some ⟨w.heap.size, 0, none⟩) 0 0) (w.alloc (.cells #[] 25)) := by kernel_rfl
  simp [execOp, ho, h, Result.andThen]

theorem bsF1_run {o : Oper} {a : Act} {w : World} {x : Operand} {d : Spt} (ho : o.op = Op.buildSlice 22 1 #[(0, x)]) (hx : a.eval x = d.agg) : (execOp a.eval o).run Tryd.prog w = .ok (.value (.slice (some ⟨w.heap.size, 0, none⟩) 1 1)) (w.alloc (.cells d.cells.toArray 25)) := by
  have h : (Instr.buildSlice 22 1 #[(0, d.agg)]).run Tryd.prog w = .ok (.slice (some ⟨w.heap.size, 0, none⟩) 1 1) (w.alloc (.cells d.cells.toArray 25)) := by kernel_rfl
  simp [execOp, ho, hx, h, Result.andThen]

theorem ldF_run {o : Oper} {a : Act} {w : World} {x : Operand} {g : Nat} {d : Spt} (ho : o.op = Op.load 25 x) (hx : a.eval x = .pointer (some ⟨g, 0, none⟩)) (hg : w.heap[g]? = some (.cells d.cells.toArray 25 (0, 0))) : (execOp a.eval o).run Tryd.prog w = .ok (.value d.agg) w := by
  have hi : (Tryd.prog.info? 25).map (·.size) = some d.cells.toArray.size := by
    rw [show d.cells.toArray.size = 2 from rfl]; kernel_rfl
  unfold execOp
  simp only [ho, hx, Instr.loadAt, Instr.sureAddr, Sem.run_bind, Sem.run_pure, Result.andThen_ok, run_loadVar_row w g 25 25 d.cells.toArray (0, 0) _ hg Tryd.underlying25 rfl hi]
  rfl

theorem appl_run {o : Oper} {a : Act} {w w' : World} {t u : TypeId} {x y : Operand} {vx vy v : Value} (ho : o.op = .call { callee := .builtin .append, args := #[x, y], argTypes := #[t, u] }) (hx : a.eval x = vx) (hy : a.eval y = vy) (hr : (Builtin.append_ #[t, u] o.type #[vx, vy]).run Tryd.prog w = .ok v w') : (execOp a.eval o).run Tryd.prog w = .ok (.value v) w' := by
  unfold execOp
  simp only [ho, resolve, invoke, builtin, Sem.run_bind, Sem.run_pure, Result.andThen_ok, List.map_toArray, List.map_cons, List.map_nil, hx, hy, hr]

def AtF (fa : Option Addr) (N fc : Nat) : Prop := (fa = none ∧ N = 0) ∨ (∃ g off, fa = some ⟨g, off, none⟩ ∧ N ≤ fc)

def lowF (fa : Option Addr) (fc k : Nat) : Option Addr := match fa with
  | none => none
  | some ⟨g, o, sp⟩ => if fc = k then some ⟨g, o, sp⟩ else some ⟨g, o + k * 2, sp⟩

theorem slHF_run {o : Oper} {a : Act} {w : World} {x z : Operand} {fa : Option Addr} {N fc k : Nat} (ho : o.op = Op.slice 22 x none (some z) none) (hx : a.eval x = .slice fa N fc) (hz : a.eval z = .int .i64 (k : Int)) (hfa : AtF fa N fc) (hk : k ≤ N) : (execOp a.eval o).run Tryd.prog w = .ok (.value (.slice fa k fc)) w := by
  have h2 : (Instr.slice 22 (.slice fa N fc) none (some (.int .i64 (k : Int))) none).run Tryd.prog w = .ok (.slice fa k fc) w := by
    rw [run_slice_h (P := Tryd.prog) w 22 fa N fc (by kernel_rfl) .i64 (k : Int) (by omega) (by rcases hfa with ⟨_, h⟩ | ⟨_, _, _, h⟩ <;> omega)]
    have hsz : (sizeOf (Tryd.prog.elem 22)).run Tryd.prog w = .ok 2 w := by kernel_rfl
    rw [hsz]
    rcases hfa with ⟨rfl, h⟩ | ⟨g, off, rfl, h⟩
    · simp [Result.andThen, sliced]
    · simp [Result.andThen, sliced, Addr.add]
  have hs := (run_sliceAt_slice (P := Tryd.prog) (w := w) 22 (.slice fa N fc) none (some (.int .i64 (k : Int))) none (by kernel_rfl)).trans h2
  simp [execOp, ho, hx, hz, hs, Result.andThen]

theorem slLF_run {o : Oper} {a : Act} {w : World} {x z : Operand} {fa : Option Addr} {N fc k m2 c2 : Nat} {a2 : Option Addr} (ho : o.op = Op.slice 22 x (some z) none none) (hx : a.eval x = .slice fa N fc) (hz : a.eval z = .int .i64 (k : Int)) (hfa : AtF fa N fc) (hk : k ≤ N) (HA : Hid (a2 = lowF fa fc k)) (HM : Hid (m2 = N - k)) (HC : Hid (c2 = fc - k)) : (execOp a.eval o).run Tryd.prog w = .ok (.value (.slice a2 m2 c2)) w := by
  have h2 : (Instr.slice 22 (.slice fa N fc) (some (.int .i64 (k : Int))) none none).run Tryd.prog w = .ok (.slice a2 m2 c2) w := by
    rw [run_slice_l (P := Tryd.prog) w 22 fa N fc (by kernel_rfl) .i64 (k : Int) (by omega) (by omega)]
    have hsz : (sizeOf (Tryd.prog.elem 22)).run Tryd.prog w = .ok 2 w := by kernel_rfl
    rw [hsz, HA.out, HM.out, HC.out]
    rcases hfa with ⟨rfl, h⟩ | ⟨g, off, rfl, h⟩
    · simp [Result.andThen, sliced, lowF]
    · unfold lowF
      by_cases e : fc = k
      · simp [Result.andThen, sliced, e]
      · simp [Result.andThen, sliced, e, Addr.add]
  have hs := (run_sliceAt_slice (P := Tryd.prog) (w := w) 22 (.slice fa N fc) (some (.int .i64 (k : Int))) none none (by kernel_rfl)).trans h2
  simp [execOp, ho, hx, hz, hs, Result.andThen]

theorem fcells_one (d : Spt) : ∀ u ∈ d.cells, u.oneCell' = true := by
  intro u hu
  simp [Spt.cells] at hu
  rcases hu with rfl | rfl <;> rfl

theorem fvs_one (l : List Spt) : ∀ u ∈ fvs l, u.oneCell' = true := by
  intro u hu
  unfold fvs at hu
  obtain ⟨c, hc, hu⟩ := List.mem_flatten.1 hu
  obtain ⟨d, _, rfl⟩ := List.mem_map.1 hc
  exact fcells_one d u hu

/-- What an append may take its news from. -/
def SrcF (W : World) (aa : Option Addr) (m : Nat) (news : List Value) : Prop := news.length = m * 2 ∧ (∀ u ∈ news, u.oneCell' = true) ∧ (aa = none → m = 0) ∧ ∀ x, aa = some x → ∀ j u, news[j]? = some u → W.cell? (x.add j) = some u

theorem Fls.src {w : World} {a : Option Addr} {len : Nat} {l : List Spt} (h : Fls w a len l) : SrcF w a len (fvs l) := by
  obtain ⟨h1, h2, h3, h4, h5⟩ := h
  refine ⟨by rw [fvs_length, h1], fvs_one l, h3, fun x hx j u hj => ?_⟩
  have hjl : j < l.length * 2 := by rw [← fvs_length]; exact (List.getElem?_eq_some_iff.1 hj).1
  have hq : j / 2 < l.length := by omega
  have hr : j % 2 < 2 := Nat.mod_lt _ (by decide)
  obtain ⟨d, hd⟩ : ∃ d, l[j / 2]? = some d := ⟨_, List.getElem?_eq_getElem hq⟩
  obtain ⟨v, hv⟩ : ∃ v, d.cells[j % 2]? = some v := ⟨_, List.getElem?_eq_getElem (by show j % 2 < 2; exact hr)⟩
  have e : j = j / 2 * 2 + j % 2 := by omega
  have h6 := fvs_get l (j / 2) d hd (j % 2) v hv
  rw [← e, hj] at h6
  injection h6 with h6
  have h7 := h5 x hx (j / 2) d hd (j % 2) v hv
  rw [← e] at h7
  rw [h6]
  exact h7

theorem Fls.low {w : World} {a : Option Addr} {N fc k : Nat} {l : List Spt} (h : Fls w a N l) (hfa : AtF a N fc) (hk : k ≤ N) : SrcF w (lowF a fc k) (N - k) (fvs (l.drop k)) := by
  rcases hfa with ⟨rfl, h0⟩ | ⟨g, off, rfl, hle⟩
  · subst h0
    have : l = [] := List.eq_nil_of_length_eq_zero h.1
    subst this
    simp only [List.drop_nil, Nat.zero_sub]
    exact (Fls.nil w).src
  · unfold lowF
    by_cases e : fc = k
    · simp only [e, if_true]
      have hN : N = k := by omega
      subst hN
      have hd : l.drop N = [] := by rw [← h.1, List.drop_length]
      rw [hd, Nat.sub_self]
      exact ⟨rfl, (fun u hu => by cases hu), (fun e => by cases e), (fun x hx j u hj => by simp [fvs] at hj)⟩
    · simp only [e, if_false]
      exact (h.drop k hk).src

theorem srcOne {W : World} {b : Nat} {d : Spt} (he : W.heap[b]? = some (.cells d.cells.toArray 25 (0, 0))) : SrcF W (some ⟨b, 0, none⟩) 1 d.cells :=
  ⟨rfl, fcells_one d, (fun e => by cases e), fun x hx j u hj => by
    cases hx
    rw [add_none, Nat.zero_add, cell_of_row _ _ _ _ _ _ he]
    simpa using hj⟩

theorem appF (W : World) (n0 : Nat) (a : Option Addr) (n c : Nat) (xs : List Value) (hown : W.ownsRow n0 25 2 (.slice a n c) n xs) (hle : n0 ≤ W.heap.size) (aa : Option Addr) (m c0 : Nat) (news : List Value) (hsrc : SrcF W aa m news) (tot : Nat) (ht : tot = n + m) (htb : tot ≤ 1000) :
    ∃ (a' : Option Addr) (c' : Nat) (W' : World), (Builtin.append_ #[22, 22] 22 #[.slice a n c, .slice aa m c0]).run Tryd.prog W = .ok (.slice a' tot c') W' ∧ W'.ownsRow n0 25 2 (.slice a' tot c') tot (xs ++ news) ∧ W.grownBy W' (Value.slice a n c).ownBlock := by
  obtain ⟨i0, z, hi, hz0, hz1, hz2, hzc⟩ := foInfo
  obtain ⟨hl, h1, h0, hc⟩ := hsrc
  subst ht
  obtain ⟨v', w', r1, r2, r3⟩ := appA (P := Tryd.prog) W n0 22 22 25 i0 z 2 24 Tryd.underlying22 hi hz0 hz1 hz2 hzc (by decide) _ n xs hown hle aa m c0 news hl h0 hc h1 (by unfold maxLen; omega) (by omega)
  obtain ⟨a', c', rfl⟩ := own_slice r2
  exact ⟨a', c', w', r1, r2, r3⟩

theorem fls_of_own {w : World} {base n : Nat} {v : Value} {l : List Spt} (h : w.ownsRow base 25 2 v n (fvs l)) (hn : l.length = n) : ∃ a c, v = .slice a n c ∧ Fls w a n l ∧ AtF a n c := by
  rcases h.2 with ⟨h1, h2⟩ | ⟨g, cap, cur, h1, _, hg, hc, hs, hcs, hm⟩
  · subst h2
    have : l = [] := List.eq_nil_of_length_eq_zero hn
    subst this
    exact ⟨none, 0, h1, Fls.nil w, .inl ⟨rfl, rfl⟩⟩
  · have h1' : v.ownBlock = some g := by rw [h1]; rfl
    refine ⟨_, _, h1, ⟨hn, by omega, (fun e => by cases e), (fun _ _ => trivial), fun x hx j d hd k u hk => ?_⟩, .inr ⟨g, 0, rfl, hc⟩⟩
    cases hx
    exact h.cells (g := g) h1' _ _ (fvs_get l j d hd k u hk)

end Go.Proofs.YtidlogeeophogaaDoor.Sp
