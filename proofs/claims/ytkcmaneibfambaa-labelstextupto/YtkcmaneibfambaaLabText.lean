/- labels.Text: a contract at every list of labels; awake. -/
import Derived.Test.YtkcmaneibfambaaLabQuote
import Derived.Test.YtkcmaneibfambaaLabCan
namespace Go.Proofs.Ytkcmaneibfambaa
open Go.RowKit
set_option linter.unusedVariables false

def textOne (k : Nat) (x : Lab) : List UInt8 := (if k = 0 then [] else [44]) ++ x.1.data.toList ++ [61] ++ quoted x.2
def textTo (ls : List Lab) : Nat → List UInt8
  | 0 => [123]
  | k + 1 => textTo ls k ++ textOne k (labD ls k)
def textOf (ls : List Lab) : List UInt8 := textTo ls ls.length ++ [125]
theorem can_sizes (ls : List Lab) (h : canOK ls = true) (i : Nat) (hi : i < ls.length) : (labD ls i).1.size ≤ 24 ∧ (labD ls i).2.size ≤ 40 := by
  have h1 := ((canOK_iff ls).1 h).2.2 i hi
  unfold canAt nameOK valueOK at h1
  simp at h1
  omega
theorem textOne_len (k : Nat) (x : Lab) (h1 : x.1.size ≤ 24) (h2 : x.2.size ≤ 40) : (textOne k x).length ≤ 110 := by
  have e1 := Lib.size_eq x.1
  have e2 := Lib.size_eq x.2
  have e3 := (quoteL_len x.2.data.toList).2
  unfold textOne quoted
  simp only [List.length_append, List.length_cons, List.length_nil]
  split <;> simp <;> omega
theorem textTo_len (ls : List Lab) (h : canOK ls = true) : ∀ k, k ≤ ls.length → (textTo ls k).length ≤ 1 + 110 * k := by
  intro k
  induction k with
  | zero => intro _; exact Nat.le_refl _
  | succ k ih =>
    intro hk
    have h1 := ih (by omega)
    obtain ⟨h2, h3⟩ := can_sizes ls h k (by omega)
    have h4 := textOne_len k _ h2 h3
    simp only [textTo, List.length_append]
    omega
theorem builder_below {T e : TypeId} {B b : Nat} {bs : List Value} {w w' : World} (h : Lib.IsBuilderF T e B b bs w) (hb : Below w.heap.size w w') : Lib.IsBuilderF T e B b bs w' := by
  have key : ∀ p, Lib.BuilderAtF T e B b p bs w → Lib.BuilderAtF T e B b p bs w' := by
    rintro p ⟨hB, v, h1, h2, h3⟩
    refine ⟨hB, v, ?_, ⟨h2.1, ?_⟩, h3⟩
    · rw [hb.block b (Array.getElem?_eq_some_iff.1 h1).1]; exact h1
    · rcases h2.2 with h | ⟨g, cap, cur, fz, hv, hg, hh, r⟩
      · exact .inl h
      · exact .inr ⟨g, cap, cur, fz, hv, hg, by rw [hb.block g (Array.getElem?_eq_some_iff.1 hh).1]; exact hh, r⟩
  exact h.elim (fun x => .inl (key _ x)) (fun x => .inr (key _ x))
theorem alloc_size (w : World) (o : Obj) : (w.alloc o).heap.size = w.heap.size + 1 := by simp
theorem alloc_at (w : World) (o : Obj) : (w.alloc o).heap[w.heap.size]? = some o := by
  show (w.heap.push o)[w.heap.size]? = _
  simp
theorem cell_at {w : World} {k o : Nat} {t : TypeId} {cs : Array Value} {fz : Nat × Nat} (h : w.heap[k]? = some (.cells cs t fz)) : w.cell? ⟨k, o, none⟩ = cs[o]? := cell_of_row _ _ _ _ _ _ h
theorem kept_cell {e : TypeId} {b k : Nat} {t : TypeId} {cs : Array Value} {fz : Nat × Nat} {w w' : World} (h : Lib.OthersKept e (some b) w w') (hk : w.heap[k]? = some (.cells cs t fz)) (hb : k ≠ b) (ht : t ≠ e) : w'.heap[k]? = some (.cells cs t fz) :=
  h k _ hk (fun e1 => hb (Option.some.inj e1)) (fun c f e1 => by cases e1; exact ht rfl)

set_option maxHeartbeats 2000000 in
theorem text_no (a : Option Addr) (len cap : Nat) (ls : List Lab) (w : World) (h : Ls w a len ls) (hr : len ≤ 140737488355328) (hc : canOK ls = false) :
    Calls Try.prog 24 #[.slice a len cap] w fun e w' => e = .returned (.tuple #[.string ⟨#[]⟩, .int .i64 1]) ∧ Below w.heap.size w w' := by
  go_enter Try.func24, Try.ntmps24
  go_wp2_with fail
  refine (can_any a len cap ls _ h hr).mono ?_
  rintro e w1 ⟨rfl, hb⟩
  rw [hc]
  go_wp2
  go_ret2
  exact ⟨rfl, hb⟩

set_option maxHeartbeats 4000000 in
set_option maxRecDepth 1000000 in
theorem text_yes (a : Option Addr) (len cap : Nat) (ls : List Lab) (w : World) (h : Ls w a len ls) (hr : len ≤ 140737488355328) (hc : canOK ls = true) :
    Calls Try.prog 24 #[.slice a len cap] w fun e w' => e = .returned (.tuple #[.string ⟨(textOf ls).toArray⟩, .int .i64 0]) ∧ Below w.heap.size w w' := by
  have hl := hidn h.1
  have h8 := ((canOK_iff ls).1 hc).2.1
  have h0 := ((canOK_iff ls).1 hc).1
  rw [hl.out] at h8 h0
  obtain ⟨b, off, rfl, hbw, hcell⟩ := h.pos h0
  have hH := hidn h
  go_enter Try.func24, Try.ntmps24
  go_wp2_with fail
  refine (can_any _ len cap ls _ h hr).mono ?_
  rintro e w1 ⟨rfl, hb1⟩
  have hc' := hidn hc
  rw [hc]
  clear h hc
  go_wp2_with (go_at_call 45; refine (wbyteL w1.heap.size w1.heap.size [] 123 123 rfl _ (Lib.IsBuilderF.of (Lib.fresh_isBuilder 58 5 w1)) (by simp) (by simp)).mono ?_)
  rintro e W1 ⟨rfl, i1, b1, k1⟩
  have hB1 : Below w1.heap.size w1 W1 := below_new _ b1
  have hsz1 : w1.heap.size < W1.heap.size := by have := b1.size; simp at this; omega
  have hsz0 : w.heap.size ≤ w1.heap.size := hb1.size
  clear b1 k1
  go_wp2
  go_loopw [13] (fun i wr => ∃ k : Nat, k ≤ len ∧ i = .int .i64 k ∧ Lib.IsBuilderF 58 5 w1.heap.size w1.heap.size (Lib.byteCells (textTo ls k)) wr ∧ w1.heap.size < wr.heap.size ∧ Below w1.heap.size w1 wr) (fun i wr => len - (intOf i).toNat)
  case atStart => exact ⟨0, Nat.zero_le _, rfl, i1, hsz1, hB1⟩
  case round =>
    obtain ⟨k, hk, rfl, hI, hsz, hbl⟩ := hrel
    have hbl0 : Below w.heap.size w wr := hb1.trans (hbl.mono hsz0)
    by_cases hlt : k < len
    · obtain ⟨c0, c1⟩ := hcell k hlt
      have c0' : wr.cell? ⟨b, off + k * 2, none⟩ = some (.string (labD ls k).1) := (hbl0.cell (p := ⟨b, off + k * 2, none⟩) hbw).trans c0
      have c1' : wr.cell? ⟨b, off + k * 2 + 1, none⟩ = some (.string (labD ls k).2) := (hbl0.cell (p := ⟨b, off + k * 2 + 1, none⟩) hbw).trans c1
      obtain ⟨z1, z2⟩ := can_sizes ls hc'.out k (by rw [hl.out]; exact hlt)
      have hln := textTo_len ls hc'.out k (by rw [hl.out]; omega)
      have hnext : Hid (textTo ls (k + 1) = textTo ls k ++ ((if k = 0 then [] else [44]) ++ (labD ls k).1.data.toList ++ [61] ++ quoted (labD ls k).2)) := hidn rfl
      clear c0 c1
      generalize hn0 : (labD ls k).1 = n0 at *
      generalize hv0 : (labD ls k).2 = v0 at *
      generalize ht0 : textTo ls k = t0 at *
      have hn0H := hidn hn0
      have hv0H := hidn hv0
      have ht0H := hidn ht0
      clear hn0 hv0 ht0
      have hI0 := hI.alloc (.cells #[.string n0, .string v0] 39)
      have hq0 := alloc_at wr (.cells #[.string n0, .string v0] 39)
      have hbl2 := hbl.alloc (by omega) (.cells #[.string n0, .string v0] 39)
      have hs2 : wr.heap.size < (wr.alloc (.cells #[.string n0, .string v0] 39)).heap.size := by rw [alloc_size]; omega
      have hne : wr.heap.size ≠ w1.heap.size := by omega
      by_cases hk0 : k = 0
      · have d0 : decide (0 < (k : Int)) = false := by simp; omega
        have d2 : ¬ 0 < k := by omega
        have HK0 := hidn hk0
        clear hk0
        obtain ⟨W, hW⟩ : ∃ W, W = wr.alloc (.cells #[.string n0, .string v0] 39) := ⟨_, rfl⟩
        rw [← hW] at hI0 hq0 hbl2 hs2
        obtain ⟨t1, ht1⟩ : ∃ t1, t1 = t0 ++ (if k = 0 then [] else [44]) := ⟨_, rfl⟩
        have hte : t1 = t0 := by rw [ht1, HK0.out]; simp
        rw [← hte] at hI0
        have hln1 : t1.length ≤ 1 + 110 * k + 1 := by rw [hte]; omega
        have HT1 := hidn ht1
        clear ht1 hte
        have c2 : (wr.alloc (.cells #[.string n0, .string v0] 39)).cell? ⟨wr.heap.size, 0, none⟩ = some (.string n0) := by rw [← hW]; exact cell_at hq0
        have hsW : w1.heap.size ≤ W.heap.size := by omega
        go_wp2_with fail
        rw [← hW]
        clear hW c2
        refine (wstrL w1.heap.size w1.heap.size t1 n0 W hI0 (by omega) hsW).mono ?_
        rintro e W2 ⟨rfl, i2, b2, k2⟩
        have hqW2 := kept_cell k2 hq0 hne (by decide)
        have e1 := Lib.size_eq n0
        have hs3 : w1.heap.size ≤ W2.heap.size := by have := b2.size; omega
        have hl2 : (t1 ++ n0.data.toList).length + 1 ≤ 140737488355328 := by simp; omega
        go_wp2_with fail
        refine (wbyteL w1.heap.size w1.heap.size _ 61 61 rfl _ i2 hl2 hs3).mono ?_
        rintro e W3 ⟨rfl, i3, b3, k3⟩
        have hqW3 := kept_cell k3 hqW2 hne (by decide)
        have c3 : W3.cell? ⟨wr.heap.size, 1, none⟩ = some (.string v0) := cell_at hqW3
        have hs4 : w1.heap.size ≤ W3.heap.size := by have := b3.size; omega
        go_wp2_with fail
        refine (quote_any v0 _ (by omega)).mono ?_
        rintro e W4 ⟨rfl, b4⟩
        have i4 := builder_below i3 b4
        have hs5 : w1.heap.size ≤ W4.heap.size := by have := b4.size; omega
        have hq1 : (ByteArray.mk (quoted v0).toArray).size = (quoted v0).length := by rw [Lib.size_eq]
        have hq2 : (ByteArray.mk (quoted v0).toArray).data.toList = quoted v0 := rfl
        have hq3 : (quoted v0).length ≤ 82 := by
          have := (quoteL_len v0.data.toList).2
          have e2 := Lib.size_eq v0
          unfold quoted; simp; omega
        have hl4 : (t1 ++ n0.data.toList ++ [61]).length + (ByteArray.mk (quoted v0).toArray).size ≤ 140737488355328 := by rw [hq1]; simp; omega
        have HQ2 := hidn hq2
        clear hq1 hq2
        generalize hqv : (ByteArray.mk (quoted v0).toArray) = qv at *
        go_wp2_with fail
        refine (wstrL w1.heap.size w1.heap.size _ qv _ i4 hl4 hs5).mono ?_
        rintro e W5 ⟨rfl, i5, b5, k5⟩
        have hs6 : w1.heap.size < W5.heap.size := by have := b5.size; have := b4.size; have := b3.size; have := b2.size; omega
        go_wp2
        refine ⟨⟨k + 1, by omega, by go_num, ?_, hs6, ((((hbl2.trans b2).trans b3).trans (b4.mono hs4)).trans b5)⟩, by simp [intOf]; omega⟩
        rw [hnext.out]
        rw [HQ2.out, HT1.out] at i5
        simpa [List.append_assoc] using i5
      · have d0 : decide (0 < (k : Int)) = true := by simp; omega
        have d1 : 0 < k := by omega
        have HK0 := hidn hk0
        clear hk0
        go_wp2_with fail
        refine (wbyteL w1.heap.size w1.heap.size t0 44 44 rfl _ hI0 (by omega) (by omega)).mono ?_
        rintro e W ⟨rfl, iC, bC, kC⟩
        have hqW := kept_cell kC hq0 hne (by decide)
        obtain ⟨t1, ht1⟩ : ∃ t1, t1 = t0 ++ (if k = 0 then [] else [44]) := ⟨_, rfl⟩
        have hte : t1 = t0 ++ [44] := by rw [ht1, if_neg HK0.out]
        rw [← hte] at iC
        have hln1 : t1.length ≤ 1 + 110 * k + 1 := by rw [hte]; simp; omega
        have HT1 := hidn ht1
        clear ht1 hte
        have hbl3 := hbl2.trans bC
        have hsW : w1.heap.size ≤ W.heap.size := by have := bC.size; omega
        have hsW' : w1.heap.size < W.heap.size := by have := bC.size; omega
        clear hq0 hbl2 kC hI0 bC
        have hq0 := hqW
        have hbl2 := hbl3
        clear hqW hbl3
        have c2 : W.cell? ⟨wr.heap.size, 0, none⟩ = some (.string n0) := cell_at hq0
        go_wp2_with fail
        refine (wstrL w1.heap.size w1.heap.size t1 n0 W iC (by omega) hsW).mono ?_
        rintro e W2 ⟨rfl, i2, b2, k2⟩
        have hqW2 := kept_cell k2 hq0 hne (by decide)
        have e1 := Lib.size_eq n0
        have hs3 : w1.heap.size ≤ W2.heap.size := by have := b2.size; omega
        have hl2 : (t1 ++ n0.data.toList).length + 1 ≤ 140737488355328 := by simp; omega
        go_wp2_with fail
        refine (wbyteL w1.heap.size w1.heap.size _ 61 61 rfl _ i2 hl2 hs3).mono ?_
        rintro e W3 ⟨rfl, i3, b3, k3⟩
        have hqW3 := kept_cell k3 hqW2 hne (by decide)
        have c3 : W3.cell? ⟨wr.heap.size, 1, none⟩ = some (.string v0) := cell_at hqW3
        have hs4 : w1.heap.size ≤ W3.heap.size := by have := b3.size; omega
        go_wp2_with fail
        refine (quote_any v0 _ (by omega)).mono ?_
        rintro e W4 ⟨rfl, b4⟩
        have i4 := builder_below i3 b4
        have hs5 : w1.heap.size ≤ W4.heap.size := by have := b4.size; omega
        have hq1 : (ByteArray.mk (quoted v0).toArray).size = (quoted v0).length := by rw [Lib.size_eq]
        have hq2 : (ByteArray.mk (quoted v0).toArray).data.toList = quoted v0 := rfl
        have hq3 : (quoted v0).length ≤ 82 := by
          have := (quoteL_len v0.data.toList).2
          have e2 := Lib.size_eq v0
          unfold quoted; simp; omega
        have hl4 : (t1 ++ n0.data.toList ++ [61]).length + (ByteArray.mk (quoted v0).toArray).size ≤ 140737488355328 := by rw [hq1]; simp; omega
        have HQ2 := hidn hq2
        clear hq1 hq2
        generalize hqv : (ByteArray.mk (quoted v0).toArray) = qv at *
        go_wp2_with fail
        refine (wstrL w1.heap.size w1.heap.size _ qv _ i4 hl4 hs5).mono ?_
        rintro e W5 ⟨rfl, i5, b5, k5⟩
        have hs6 : w1.heap.size < W5.heap.size := by have := b5.size; have := b4.size; have := b3.size; have := b2.size; omega
        go_wp2
        refine ⟨⟨k + 1, by omega, by go_num, ?_, hs6, ((((hbl2.trans b2).trans b3).trans (b4.mono hs4)).trans b5)⟩, by simp [intOf]; omega⟩
        rw [hnext.out]
        rw [HQ2.out, HT1.out] at i5
        simpa [List.append_assoc] using i5
    · obtain rfl : k = len := by omega
      have hln := textTo_len ls hc'.out k (by rw [hl.out]; omega)
      go_wp2_with fail
      refine (wbyteL w1.heap.size w1.heap.size _ 125 125 rfl _ hI (by omega) (by omega)).mono ?_
      rintro e W2 ⟨rfl, i2, b2, k2⟩
      have hs3 : w1.heap.size ≤ W2.heap.size := by have := b2.size; omega
      go_wp2_with fail
      refine (Try.Builder_String_any_k w1.heap.size w1.heap.size _ _ i2 hs3).mono ?_
      rintro e W3 ⟨rfl, _, b3, _⟩
      have hto : Hid (textTo ls k ++ [125] = textOf ls) := hidn (by unfold textOf; rw [hl.out])
      go_wp2
      go_ret2
      exact ⟨by rw [hto.out]; rfl, (hbl0.trans (b2.mono hsz0)).trans (b3.mono hsz0)⟩


end Go.Proofs.Ytkcmaneibfambaa
