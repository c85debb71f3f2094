/- Sorting footers by rank, stably. -/
import Derived.Test.YtpbicnpaldfamaaPlS
import Derived.Deep.MidRow
import Derived.Deep.Upon
namespace Go.Proofs.Ytpbicnpaldfamaa
open Go.RowKit Go.Joins
set_option linter.unusedVariables false

/-- One more, behind all that are not above it; the list is turned round. -/
def insRev : List Fo → Fo → List Fo
  | [], f => [f]
  | x :: t, f => if f.rk < x.rk then x :: insRev t f else f :: x :: t

def insE (L : List Fo) (f : Fo) : List Fo := (insRev L.reverse f).reverse

def sortE (M : List Fo) : List Fo := M.foldl insE []

theorem insRev_over (R T : List Fo) (f : Fo) (h : ∀ x ∈ R, f.rk < x.rk) : insRev (R ++ T) f = R ++ insRev T f := by
  induction R with
  | nil => rfl
  | cons x t ih =>
    have hx := h x (by simp)
    show (if f.rk < x.rk then x :: insRev (t ++ T) f else _) = _
    rw [if_pos hx, ih (fun y hy => h y (by simp [hy]))]
    rfl

theorem insRev_stop (T : List Fo) (f : Fo) (h : ∀ x, T.head? = some x → ¬ f.rk < x.rk) : insRev T f = f :: T := by
  cases T with
  | nil => rfl
  | cons x t =>
    show (if f.rk < x.rk then _ else _) = _
    rw [if_neg (h x rfl)]

theorem insE_at (A B : List Fo) (f : Fo) (hB : ∀ x ∈ B, f.rk < x.rk) (hA : ∀ x, A.getLast? = some x → ¬ f.rk < x.rk) : insE (A ++ B) f = A ++ f :: B := by
  unfold insE
  rw [List.reverse_append, insRev_over _ _ _ (fun x hx => hB x (List.mem_reverse.1 hx)), insRev_stop _ _ (fun x hx => hA x (by rwa [List.head?_reverse] at hx))]
  simp

theorem sortE_snoc (M : List Fo) (f : Fo) : sortE (M ++ [f]) = insE (sortE M) f := by unfold sortE; rw [List.foldl_append]; rfl

theorem insRev_perm (T : List Fo) (f : Fo) : (insRev T f).Perm (f :: T) := by
  induction T with
  | nil => exact List.Perm.refl _
  | cons x t ih =>
    show (if f.rk < x.rk then x :: insRev t f else f :: x :: t).Perm _
    split
    · exact (List.Perm.cons x ih).trans (List.Perm.swap f x t)
    · exact List.Perm.refl _

theorem insE_perm (L : List Fo) (f : Fo) : (insE L f).Perm (L ++ [f]) := by
  unfold insE
  refine ((List.reverse_perm _).trans (insRev_perm _ f)).trans ?_
  refine (List.Perm.cons f (List.reverse_perm L)).trans ?_
  exact List.perm_append_comm (l₁ := [f]) (l₂ := L)

theorem sortE_perm (M : List Fo) : (sortE M).Perm M := by
  have key : ∀ (M A : List Fo), (M.foldl insE A).Perm (A ++ M) := by
    intro M
    induction M with
    | nil => intro A; simp
    | cons x t ih =>
      intro A
      refine (ih (insE A x)).trans ?_
      have := (insE_perm A x).append_right t
      simpa using this
  have h9 := key M []
  rw [List.nil_append] at h9
  exact h9

theorem sortE_len (M : List Fo) : (sortE M).length = M.length := (sortE_perm M).length_eq

/-- What stands while footers are sorted. -/
structure SortI (w wr : World) (g n : Nat) (M : List Fo) : Prop where
  grown : w.grownBy wr (some g)
  rows : ∀ j d, M[j]? = some d → wr.rangeAt g (j * 8) d.cells
  there : wr.there g 0 (n * 8)
  len : M.length = n
  blk : ∀ cur0, w.heap[g]? = some (.cells cur0 31 (0, 0)) → ∃ cur, wr.heap[g]? = some (.cells cur 31 (0, 0)) ∧ cur.size = cur0.size

theorem SortI.below {w wr w' : World} {g n : Nat} {M : List Fo} (h : SortI w wr g n M) (hb : Below wr.heap.size wr w') (hg : g < wr.heap.size) : SortI w w' g n M := by
  have hblk : w'.heap[g]? = wr.heap[g]? := hb.block g hg
  refine ⟨⟨hb.os.trans h.grown.os, hb.tape.trans h.grown.tape, hb.output.trans h.grown.output, Nat.le_trans h.grown.size hb.size, fun i hi hn => (hb.block i (Nat.lt_of_lt_of_le hi h.grown.size)).trans (h.grown.block i hi hn)⟩, fun j d hd i v hv => ?_, fun j hj => ?_, h.len, fun c0 h0 => by rw [hblk]; exact h.blk c0 h0⟩
  · rw [World.cell?_of_block (w := wr) hblk]
    exact h.rows j d hd i v hv
  · have h9 := h.there j hj
    rw [World.cell?_of_block (w := wr) hblk]
    refine ⟨h9.1, ?_⟩
    rw [← h9.2]
    simp only [World.frozen?, hblk]

theorem SortI.glt {w wr : World} {g n : Nat} {M : List Fo} (h : SortI w wr g n M) (hn : 0 < n) : g < wr.heap.size := by
  have h9 := (h.there 0 (by omega)).1
  obtain ⟨v, hv⟩ := Option.isSome_iff_exists.1 h9
  exact block_lt_of_cell hv

theorem SortI.at {w wr : World} {g n : Nat} {M : List Fo} (h : SortI w wr g n M) {j : Nat} {d : Fo} (hd : M[j]? = some d) : wr.cell? ⟨g, j * 8, none⟩ = some (.int .i64 d.nu) ∧ wr.cell? ⟨g, j * 8 + 1, none⟩ = some (.int .i64 d.ge) ∧ wr.cell? ⟨g, j * 8 + 2, none⟩ = some (.int .i64 d.lv) ∧ wr.cell? ⟨g, j * 8 + 3, none⟩ = some (.int .i64 d.rk) ∧ wr.cell? ⟨g, j * 8 + 4, none⟩ = some (.int .i64 d.mn) ∧ wr.cell? ⟨g, j * 8 + 5, none⟩ = some (.int .i64 d.mx) ∧ wr.cell? ⟨g, j * 8 + 6, none⟩ = some (.int .i64 d.bt) ∧ wr.cell? ⟨g, j * 8 + 7, none⟩ = some (.slice d.pa d.pl d.pc) :=
  ⟨h.rows j d hd 0 _ rfl, h.rows j d hd 1 _ rfl, h.rows j d hd 2 _ rfl, h.rows j d hd 3 _ rfl, h.rows j d hd 4 _ rfl, h.rows j d hd 5 _ rfl, h.rows j d hd 6 _ rfl, h.rows j d hd 7 _ rfl⟩

theorem blk_setCells (g : Nat) : ∀ (vs : List Value) (o : Nat) (w : World) (cur : Array Value), w.heap[g]? = some (.cells cur 31 (0, 0)) → ∃ cur', (w.setCells g o vs).heap[g]? = some (.cells cur' 31 (0, 0)) ∧ cur'.size = cur.size
  | [], _, w, cur, h => ⟨cur, h, rfl⟩
  | v :: r, o, w, cur, h => by
    have h1 := heap_setCell_same w g o cur 31 v h
    obtain ⟨c2, h2, s2⟩ := blk_setCells g r (o + 1) (w.setCell ⟨g, o, none⟩ v) _ h1
    exact ⟨c2, h2, by rw [s2]; simp⟩

theorem os_setCells (b : Nat) : ∀ (vs : List Value) (o : Nat) (w : World), (w.setCells b o vs).os = w.os
  | [], _, _ => rfl
  | v :: r, o, w => by
    show ((w.setCell ⟨b, o, none⟩ v).setCells b (o + 1) r).os = _
    rw [os_setCells b r]
    exact (Below.refl 0 w |>.setCell (p := ⟨b, o, none⟩) (Nat.zero_le _) v).os

theorem tape_setCells (b : Nat) : ∀ (vs : List Value) (o : Nat) (w : World), (w.setCells b o vs).tape = w.tape
  | [], _, _ => rfl
  | v :: r, o, w => by
    show ((w.setCell ⟨b, o, none⟩ v).setCells b (o + 1) r).tape = _
    rw [tape_setCells b r]
    exact (Below.refl 0 w |>.setCell (p := ⟨b, o, none⟩) (Nat.zero_le _) v).tape

theorem out_setCells (b : Nat) : ∀ (vs : List Value) (o : Nat) (w : World), (w.setCells b o vs).output = w.output
  | [], _, _ => rfl
  | v :: r, o, w => by
    show ((w.setCell ⟨b, o, none⟩ v).setCells b (o + 1) r).output = _
    rw [out_setCells b r]
    exact (Below.refl 0 w |>.setCell (p := ⟨b, o, none⟩) (Nat.zero_le _) v).output

theorem size_setCells' (b : Nat) : ∀ (vs : List Value) (o : Nat) (w : World), (w.setCells b o vs).heap.size = w.heap.size
  | [], _, _ => rfl
  | v :: r, o, w => by
    show ((w.setCell ⟨b, o, none⟩ v).setCells b (o + 1) r).heap.size = _
    rw [size_setCells' b r]
    simp

/-- Two that follow one another, exchanged. -/
theorem SortI.swap {w wr : World} {g n : Nat} {A B : List Fo} {x f : Fo} (h : SortI w wr g n (A ++ x :: f :: B)) : SortI w ((wr.setCells g ((A.length + 1) * 8) x.cells).setCells g (A.length * 8) f.cells) g n (A ++ f :: x :: B) := by
  have hgl : g < wr.heap.size := h.glt (by rw [← h.len]; simp; omega)
  have t1 := World.there_setCells h.there g ((A.length + 1) * 8) x.cells
  have t2 := World.there_setCells t1 g (A.length * 8) f.cells
  have hx8 : x.cells.length = 8 := rfl
  have hf8 : f.cells.length = 8 := rfl
  have hln := h.len
  simp at hln
  have sub : ∀ {W : World} {o : Nat}, W.there g 0 (n * 8) → o + 8 ≤ n * 8 → W.there g o 8 := fun {W o} hW ho j hj => by
    have := hW (o + j) (by omega)
    rwa [Nat.zero_add] at this
  refine ⟨?_, fun j d hd => ?_, t2, by simp; omega, fun c0 h0 => ?bl⟩
  case bl =>
    obtain ⟨c1, k1, s1⟩ := h.blk c0 h0
    obtain ⟨c2, k2, s2⟩ := blk_setCells g x.cells ((A.length + 1) * 8) wr c1 k1
    obtain ⟨c3, k3, s3⟩ := blk_setCells g f.cells (A.length * 8) _ c2 k2
    exact ⟨c3, k3, by rw [s3, s2, s1]⟩
  · refine ⟨?_, ?_, ?_, ?_, fun i hi hne => ?_⟩
    · rw [os_setCells, os_setCells]; exact h.grown.os
    · rw [tape_setCells, tape_setCells]; exact h.grown.tape
    · rw [out_setCells, out_setCells]; exact h.grown.output
    · rw [size_setCells', size_setCells']; exact h.grown.size
    · have hig : i ≠ g := fun e => hne (by rw [e])
      rw [World.heap_setCells_other _ _ _ _ (by rw [size_setCells']; exact Nat.lt_of_lt_of_le hi h.grown.size) hig, World.heap_setCells_other _ _ _ _ (Nat.lt_of_lt_of_le hi h.grown.size) hig]
      exact h.grown.block i hi hne
  · by_cases h1 : j = A.length
    · subst h1
      obtain rfl : d = f := by simpa using hd.symm
      exact World.rangeAt_setCells_same _ _ _ _ (sub t1 (by omega))
    · by_cases h2 : j = A.length + 1
      · subst h2
        obtain rfl : d = x := by
          rw [List.getElem?_append_right (by omega)] at hd
          simpa using hd.symm
        exact World.rangeAt_setCells_apart (World.rangeAt_setCells_same _ _ _ _ (sub h.there (by omega))) _ _ _ (.inr (.inr (by rw [hf8]; omega)))
      · have hd' : (A ++ x :: f :: B)[j]? = some d := by
          by_cases h3 : j < A.length
          · rw [List.getElem?_append_left h3] at hd ⊢
            exact hd
          · rw [List.getElem?_append_right (by omega)] at hd ⊢
            obtain ⟨m, hm⟩ : ∃ m, j - A.length = m + 2 := ⟨j - A.length - 2, by omega⟩
            rw [hm] at hd ⊢
            exact hd
        have hd8 : d.cells.length = 8 := rfl
        have r1 := World.rangeAt_setCells_apart (h.rows j d hd') g ((A.length + 1) * 8) x.cells (.inr (by rw [hd8, hx8]; omega))
        exact World.rangeAt_setCells_apart r1 g (A.length * 8) f.cells (.inr (by rw [hd8, hf8]; omega))

theorem callv_run {o : Oper} {a : Act} {w : World} {f : FuncId} {x y z : Nat} {vy vz : Value} {ts : Array TypeId} (ho : o.op = Op.call { callee := Callee.value (Operand.tmp x), args := #[.tmp y, .tmp z], argTypes := ts }) (hen : ∀ args w, (callFunc f args).run Try.prog w = .ok (.enter f args) w) (hx : a.eval (.tmp x) = .func (.func f) #[] #[]) (hy : a.eval (.tmp y) = vy) (hz : a.eval (.tmp z) = vz) : (execOp a.eval o).run Try.prog w = .ok (.enter f #[vy, vz]) w := by
  simp only [Act.eval] at hx hy hz
  simp [go_sem, execOp, ho, resolve, invoke, hen, hx, hy, hz]

end Go.Proofs.Ytpbicnpaldfamaa
