/- dryrotref20's less and in. -/
import Derived.Test.YtidlogeeophogaaDoorSpA
import Derived.Deep.CutRange
namespace Go.Proofs.YtidlogeeophogaaDoor.Sp
open Go.RowKit Go.Joins
set_option linter.unusedVariables false
set_option linter.unusedSimpArgs false

theorem toL_inj {a b : ByteArray} (h : a.toList = b.toList) : a = b := by
  rw [ByteArray.toList_eq, ByteArray.toList_eq] at h
  cases a with
  | mk a => cases b with
    | mk b => exact congrArg ByteArray.mk (Array.toList_inj.1 h)

def lessS (x y : Spt) : Bool := Op.bytesLess x.nm.toList y.nm.toList || (decide (x.nm = y.nm) && decide (x.ix < y.ix))

def sameS (x y : Spt) : Bool := decide (x.nm = y.nm) && decide (x.ix = y.ix)

theorem sameS_iff {x y : Spt} : sameS x y = true ↔ x = y := by
  unfold sameS
  rw [Bool.and_eq_true, decide_eq_true_eq, decide_eq_true_eq]
  constructor
  · rintro ⟨h1, h2⟩
    cases x; cases y
    simp only at h1 h2
    rw [h1, h2]
  · rintro rfl
    exact ⟨rfl, rfl⟩

def inS (l : List Spt) (s : Spt) : Bool := l.any (fun x => sameS x s)

theorem eql_spt (w : World) (x y : Spt) : (binOp .eql 25 (.agg #[.string x.nm, .int .i64 x.ix]) (.agg #[.string y.nm, .int .i64 y.ix])).run Tryd.prog w = .ok (.bool (sameS x y)) w := by
  rw [run_eql_struct]
  by_cases h : x.nm = y.nm
  · by_cases h2 : x.ix = y.ix
    · simp [go_sem, Tryd.underlying25, sameS, h, h2]
    · simp [go_sem, Tryd.underlying25, sameS, h, h2]
  · have h3 : ¬ x.nm.toList = y.nm.toList := fun e => h (toL_inj e)
    simp [go_sem, Tryd.underlying25, sameS, h, h3]

set_option maxHeartbeats 1000000 in
theorem less_any (x y : Spt) (w : World) : Calls Tryd.prog 19 #[x.agg, y.agg] w fun e w' => e = .returned (.bool (lessS x y)) ∧ Below w.heap.size w w' := by
  obtain ⟨xn, xi⟩ := x
  obtain ⟨yn, yi⟩ := y
  simp only [Spt.agg, lessS]
  have hB : Below w.heap.size w ((w.alloc (.cells #[.string xn, .int .i64 xi] 25)).alloc (.cells #[.string yn, .int .i64 yi] 25)) := ((Below.refl _ w).alloc (Nat.le_refl _) _).alloc (by simp) _
  have HB := hidn hB
  clear hB
  cases hb : Op.bytesLess xn.toList yn.toList with
  | true =>
    go_enter Tryd.func19, Tryd.ntmps19
    go_wp2_with fail
    go_ret
    exact ⟨by simp, HB.out⟩
  | false =>
    by_cases he : xn = yn
    · subst he
      go_enter Tryd.func19, Tryd.ntmps19
      go_wp2_with fail
      go_ret
      exact ⟨by simp, HB.out⟩
    · have he3 : ¬ xn.toList = yn.toList := fun e => he (toL_inj e)
      have he2 : (xn.toList == yn.toList) = false := by simpa using he3
      go_enter Tryd.func19, Tryd.ntmps19
      go_wp2_with fail
      go_ret
      exact ⟨by simp [he], HB.out⟩

set_option maxHeartbeats 1000000 in
set_option maxRecDepth 100000 in
theorem in_any (a : Option Addr) (len cap : Nat) (l : List Spt) (s : Spt) (w : World) (h : Fls w a len l) (hm : len ≤ 1000) : Calls Tryd.prog 18 #[.slice a len cap, s.agg] w fun e w' => e = .returned (.bool (inS l s)) ∧ Below w.heap.size w w' := by
  have hlen := hidn h.1
  obtain ⟨wA, hwA⟩ : ∃ wA, wA = w.alloc (.cells #[.string s.nm, .int .i64 s.ix] 25) := ⟨_, rfl⟩
  have bA : Below w.heap.size w wA := by rw [hwA]; exact (Below.refl _ w).alloc (Nat.le_refl _) _
  have qA : wA.heap[w.heap.size]? = some (.cells #[.string s.nm, .int .i64 s.ix] 25 (0, 0)) := by rw [hwA]; exact heap_alloc_new w _
  have hAs : w.heap.size < wA.heap.size := (Array.getElem?_eq_some_iff.1 qA).1
  have HWA := hidn hwA
  have HQA := hidn qA
  have HEQ : Hid (∀ (wx : World) (x : Spt), (binOp .eql 25 (.agg #[.string x.nm, .int .i64 x.ix]) (.agg #[.string s.nm, .int .i64 s.ix])).run Tryd.prog wx = .ok (.bool (sameS x s)) wx) := hidn (fun wx x => eql_spt wx x s)
  clear hwA qA
  simp only [Spt.agg]
  go_enter Tryd.func18, Tryd.ntmps18
  go_wp2_with fail
  rw [← HWA.out]
  go_loopw [9] (fun iv wr => ∃ k : Nat, k ≤ len ∧ iv = .int .i64 (k : Int) ∧ Hid (inS (l.take k) s = false) ∧ Below wA.heap.size wA wr) (fun iv _ => len - (intOf iv).toNat)
  case atStart => exact ⟨0, Nat.zero_le _, rfl, hidn rfl, Below.refl _ _⟩
  case round =>
    obtain ⟨k, hk, rfl, HI, hb⟩ := hrel
    by_cases hlt : k < len
    · have hlt2 : (k : Int) < (len : Int) := by omega
      obtain ⟨x, hx⟩ : ∃ x, l[k]? = some x := ⟨_, List.getElem?_eq_getElem (by rw [hlen.out]; exact hlt)⟩
      obtain ⟨b, off, rfl, hbk, c0, c1, _⟩ := ((h.below bA).below hb).at hx
      have HX := hidn hx
      obtain ⟨wB, hwB⟩ : ∃ wB, wB = wr.alloc (.cells #[.string x.nm, .int .i64 x.ix] 25) := ⟨_, rfl⟩
      have bB : Below wr.heap.size wr wB := by rw [hwB]; exact (Below.refl _ wr).alloc (Nat.le_refl _) _
      have BB := hb.trans (bB.mono hb.size)
      have qB : wB.heap[wr.heap.size]? = some (.cells #[.string x.nm, .int .i64 x.ix] 25 (0, 0)) := by rw [hwB]; exact heap_alloc_new wr _
      have qC : wB.heap[w.heap.size]? = some (.cells #[.string s.nm, .int .i64 s.ix] 25 (0, 0)) := (BB.block _ hAs).trans HQA.out
      have x0 : wB.cell? ⟨wr.heap.size, 0, none⟩ = some (.string x.nm) := cell_of_row _ _ _ _ _ _ qB
      have x1 : wB.cell? ⟨wr.heap.size, 1, none⟩ = some (.int .i64 x.ix) := cell_of_row _ _ _ _ _ _ qB
      have z0 : wB.cell? ⟨w.heap.size, 0, none⟩ = some (.string s.nm) := cell_of_row _ _ _ _ _ _ qC
      have z1 : wB.cell? ⟨w.heap.size, 1, none⟩ = some (.int .i64 s.ix) := cell_of_row _ _ _ _ _ _ qC
      have HWB := hidn hwB
      have hE := fun wx => HEQ.out wx x
      have BBB := bA.trans (BB.mono bA.size)
      clear hwB hx qB qC
      cases hsm : sameS x s with
      | true =>
        have HT : Hid (inS l s = true) := hidn (by
          unfold inS
          exact List.any_eq_true.2 ⟨x, List.mem_of_getElem? HX.out, hsm⟩)
        rw [hsm] at hE
        clear hsm
        go_upto_region 4 with fail
        rw [← HWB.out]
        go_wp2_with fail
        go_ret
        exact ⟨by rw [HT.out]; rfl, BBB⟩
      | false =>
        have HF : Hid (inS (l.take (k + 1)) s = false) := hidn (by
          rw [List.take_add_one, HX.out]
          unfold inS at *
          have := HI.out
          simp [List.any_append, this, hsm])
        rw [hsm] at hE
        clear hsm
        go_upto_region 4 with fail
        rw [← HWB.out]
        go_wp2_with fail
        exact ⟨⟨k + 1, by omega, by simp, HF, BB⟩, by simp [intOf]; omega⟩
    · have hlt2 : ¬ (k : Int) < (len : Int) := by omega
      have HT : Hid (inS l s = false) := hidn (by
        have := HI.out
        rwa [show k = l.length from by rw [hlen.out]; omega, List.take_length] at this)
      go_wp2_with fail
      go_ret
      exact ⟨by rw [HT.out]; rfl, bA.trans (hb.mono bA.size)⟩

end Go.Proofs.YtidlogeeophogaaDoor.Sp
