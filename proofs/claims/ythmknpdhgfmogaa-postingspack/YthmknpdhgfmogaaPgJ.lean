/- postings.read. -/
import Derived.Test.YthmknpdhgfmogaaPgI
namespace Go.Proofs.Ythmknpdhgfmogaa
open Go.RowKit Go.Joins
set_option linter.unusedVariables false

/-- Numbers as cells. -/
def ivN (l : List Nat) : List Value := l.map fun n : Nat => .int .i64 (n : Int)

theorem ivN_len (l : List Nat) : (ivN l).length = l.length := by simp [ivN]

theorem ivN_get {l : List Nat} {j : Nat} (h : j < l.length) : (ivN l)[j]? = some (.int .i64 ((nD l j : Nat) : Int)) := by
  unfold ivN nD
  rw [List.getElem?_map, List.getD_eq_getElem?_getD, List.getElem?_eq_getElem h]
  rfl

theorem ivN_set (l : List Nat) (j x : Nat) : (ivN l).toArray.setIfInBounds j (.int .i64 (x : Int)) = (ivN (l.set j x)).toArray := by
  rw [List.setIfInBounds_toArray]
  unfold ivN
  rw [List.map_set]

theorem mkI (W : World) (L : Nat) (hL : L ≤ 1000) : (Instr.makeSlice 22 (.int .i64 (L : Int)) (.int .i64 (L : Int))).run Try.prog W = .ok (.slice (some ⟨W.heap.size, 0, none⟩) L L) (W.alloc (.cells (ivN (List.replicate L 0)).toArray 3)) := by
  have hI : (Try.prog.info? 3).map (fun i => (i.zero, i.size, i.bytes)) = some (some (.int .i64 0), 1, 8) := by kernel_rfl
  obtain ⟨i0, hi, hz0, hz1, hz2⟩ := info_parts hI
  have h := run_make (P := Try.prog) W 22 3 i0 (.int .i64 0) Try.underlying22 hi hz0 .i64 .i64 (L : Int) (L : Int) (by omega) (by omega) (by rw [hz2]; omega) (by omega)
  rw [hz1, Nat.mul_one, Int.toNat_natCast] at h
  have e : madeCells (Value.int .i64 0).cells L = (ivN (List.replicate L 0)).toArray := by
    have h1 := toList_madeCells_one (.int .i64 0) L
    have h2 : ivN (List.replicate L 0) = List.replicate L (.int .i64 0) := by simp [ivN]
    rw [h2, ← h1]
    show _ = (madeCells #[Value.int .i64 0] L).toList.toArray
    rw [Array.toArray_toList]
    rfl
  rw [e] at h
  exact h

/-- The reader, and the list that is filled. -/
structure RJ (w : World) (g : Nat) (l : List Nat) (zs : List Nat) (f : Bool) (W : World) : Prop where
  rd : RdI w.heap.size W w.heap.size zs f
  ls : W.heap[g]? = some (.cells (ivN l).toArray 3 (0, 0))
  bl : Below w.heap.size w W
  ng : w.heap.size < g

theorem Kr.below {r n : Nat} {w w' : World} (h : Kr r w w') (hn : n ≤ w.heap.size) (hr : n ≤ r) : Below n w w' :=
  ⟨h.1, h.2.1, h.2.2.1, h.2.2.2.1, fun i hi => h.2.2.2.2 i (by omega) (by omega)⟩

theorem rdI_stay {B : Nat} {w w' : World} {r : Nat} {zs : List Nat} {f : Bool} (h : RdI B w r zs f) (hr : w'.heap[r]? = w.heap[r]?) (hb : ∀ k, k < B → w'.heap[k]? = w.heap[k]?) : RdI B w' r zs f := by
  obtain ⟨a, len, cap, h1, h2, h3, h4, h5⟩ := h
  exact ⟨a, len, cap, hr.trans h1, bs_stay h2 (fun h0 x hx => hb _ (h5 x hx h0)), h3, h4, h5⟩

section
variable {w W W2 : World} {g : Nat} {l zs : List Nat} {f : Bool}

theorem RJ.call (h : RJ w g l zs f W) {zs' : List Nat} {f' : Bool} (hr : RdI w.heap.size W2 w.heap.size zs' f') (hk : Kr w.heap.size W W2) : RJ w g l zs' f' W2 :=
  ⟨hr, (hk.2.2.2.2 g (Array.getElem?_eq_some_iff.1 h.ls).1 (by have := h.ng; omega)).trans h.ls, h.bl.trans (hk.below h.bl.size (Nat.le_refl _)), h.ng⟩

theorem RJ.below (h : RJ w g l zs f W) (hb : Below W.heap.size W W2) : RJ w g l zs f W2 := by
  have hr : w.heap.size < W.heap.size := by
    obtain ⟨a, len, cap, h1, _⟩ := h.rd
    exact (Array.getElem?_eq_some_iff.1 h1).1
  exact ⟨rdI_stay h.rd (hb.block _ hr) (fun k hk => hb.block k (by omega)), (hb.block g (Array.getElem?_eq_some_iff.1 h.ls).1).trans h.ls, h.bl.trans (hb.mono h.bl.size), h.ng⟩

theorem RJ.set (h : RJ w g l zs f W) (j x : Nat) : RJ w g (l.set j x) zs f (W.setCell ⟨g, j, none⟩ (.int .i64 (x : Int))) := by
  have hg := h.ng
  refine ⟨rdI_stay h.rd (Below.heap_setCell W ⟨g, j, none⟩ _ _ (Nat.ne_of_lt hg)) (fun k hk => Below.heap_setCell W ⟨g, j, none⟩ _ _ (Nat.ne_of_lt (Nat.lt_trans hk hg))), ?_, h.bl.setCell (p := ⟨g, j, none⟩) (Nat.le_of_lt hg) _, h.ng⟩
  have := block_setCell (i := j) h.ls (.int .i64 (x : Int))
  rw [ivN_set] at this
  exact this

theorem RJ.cell (h : RJ w g l zs f W) {j : Nat} (hj : j < l.length) : W.cell? ⟨g, j, none⟩ = some (.int .i64 ((nD l j : Nat) : Int)) := by
  rw [cell_of_row _ _ _ _ _ _ h.ls, List.getElem?_toArray]
  exact ivN_get hj
end

theorem callJ1 {o : Oper} {a : Act} {w : World} {f : FuncId} {x : Nat} {vx : Value} {ts : Array TypeId} (ho : o.op = Op.call { callee := Callee.value (Operand.func f), args := #[.tmp x], argTypes := ts }) (hen : ∀ args w, (callFunc f args).run Try.prog w = .ok (.enter f args) w) (hx : a.eval (.tmp x) = vx) : (execOp a.eval o).run Try.prog w = .ok (.enter f #[vx]) w := call1_run ho hen hx

/-- What read leaves. -/
def ReadP (w : World) (zs : List Nat) (e : Ending) (w' : World) : Prop :=
  Below w.heap.size w w' ∧ ((readBig zs = true ∧ e = .returned (.tuple #[.slice none 0 0, .bool false])) ∨
    (readBig zs = false ∧ ∃ g, w.heap.size < g ∧ e = .returned (.tuple #[.slice (some ⟨g, 0, none⟩) (shortP zs false).1 (shortP zs false).1, .bool (!(bodyS zs (shortP zs false).1).2.2)]) ∧ w'.heap[g]? = some (.cells (ivN (bodyS zs (shortP zs false).1).1).toArray 3 (0, 0))))

set_option maxHeartbeats 8000000 in
set_option maxRecDepth 100000 in
theorem read_any (a : Option Addr) (len cap : Nat) (zs : List Nat) (w : World) (h : Bs w a len zs) (hl : len ≤ 1000) (hlc : len ≤ cap) (hcm : cap ≤ maxLen) :
    Calls Try.prog 40 #[.slice a len cap] w (ReadP w zs) := by
  obtain ⟨w0, hw0⟩ : ∃ w0, w0 = w.alloc (.cells #[.slice a len cap, .bool false] 85) := ⟨_, rfl⟩
  have b0 : Below w.heap.size w w0 := by rw [hw0]; exact (Below.refl _ w).alloc (Nat.le_refl _) _
  have r0 : RdI w.heap.size w0 w.heap.size zs false := ⟨a, len, cap, by rw [hw0]; exact heap_alloc_new w _, h.below b0, hlc, hcm, fun x hx h0 => by
    subst hx
    have := h.2.2.2.2 _ rfl 0 h0
    have hb := block_lt_of_cell this
    unfold Addr.add at hb
    simpa using hb⟩
  have HS := hidn (short_any w.heap.size w0 w.heap.size zs false r0 (Nat.le_refl _))
  have HW0 := hidn hw0
  have HB0 := hidn b0
  have hzl := h.1
  clear hw0 b0 r0 h
  go_enter Try.func40, Try.ntmps40
  go_wp2_with fail
  rw [← HW0.out]
  refine HS.out.mono ?_
  rintro e w1 ⟨rfl, hr1, hk1⟩
  have HB1 := hidn (HB0.out.trans (hk1.below HB0.out.size (Nat.le_refl _)))
  have hlt := shortP_lt zs false
  have hle := shortP_len zs false
  have hbig : readBig zs = decide (min 100000 (shortP zs false).2.1.length < (shortP zs false).1) := rfl
  have hhs : headS zs = runH (0, List.replicate (shortP zs false).1 0, (shortP zs false).2) (((shortP zs false).1 + 7) / 8) := rfl
  have HBS : Hid (∀ i, bodyS zs i = runB ((headS zs).2.1, (headS zs).2.2) i) := hidn (fun i => rfl)
  have HP : Hid (∀ (P : Nat → Prop), (∀ n, n = (shortP zs false).1 → P n) → P (shortP zs false).1) := hidn (fun P hP => hP _ rfl)
  obtain ⟨p, hp⟩ : ∃ p, p = shortP zs false := ⟨_, rfl⟩
  have HRP : Hid (∀ e w', Below w.heap.size w w' → ((readBig zs = true ∧ e = .returned (.tuple #[.slice none 0 0, .bool false])) ∨
    (readBig zs = false ∧ ∃ g, w.heap.size < g ∧ e = .returned (.tuple #[.slice (some ⟨g, 0, none⟩) p.1 p.1, .bool (!(bodyS zs p.1).2.2)]) ∧ w'.heap[g]? = some (.cells (ivN (bodyS zs p.1).1).toArray 3 (0, 0)))) → ReadP w zs e w') := hidn (by rw [hp]; exact fun e w' h1 h2 => ⟨h1, h2⟩)
  rw [← hp] at hr1 hlt hle hbig hhs ⊢
  obtain ⟨count, z1, f1⟩ := p
  simp only at hr1 hlt hle hbig hhs HRP ⊢
  clear hp HP hk1
  obtain ⟨a1, l1, c1, q1, hB1, hlc1, hcm1, hne1⟩ := hr1
  have hz1l : z1.length = l1 := hB1.1
  obtain ⟨cr0, cr1, fr0, fr1⟩ := rd_cell q1
  have HR1 : Hid (RdI w.heap.size w1 w.heap.size z1 f1) := hidn ⟨a1, l1, c1, q1, hB1, hlc1, hcm1, hne1⟩
  have m2 : (if 100000 < l1 then (100000 : Int) else (l1 : Int)) = (l1 : Int) := by split <;> omega
  have m3 : (if (l1 : Int) < 100000 then (l1 : Int) else (100000 : Int)) = (l1 : Int) := by split <;> omega
  have m1 : min (100000 : Int) (l1 : Int) = (l1 : Int) := by omega
  rw [hz1l] at hbig hle
  clear q1 hB1 hne1
  by_cases hb : l1 < count
  · have hb2 : (l1 : Int) < (count : Int) := by omega
    have HBIG : Hid (readBig zs = true) := hidn (by rw [hbig]; simp; omega)
    clear hbig hhs
    go_wp2_with fail
    go_ret2
    exact HRP.out _ _ HB1.out (.inl ⟨HBIG.out, rfl⟩)
  · have hb2 : ¬ (l1 : Int) < (count : Int) := by omega
    have HBIG : Hid (readBig zs = false) := hidn (by rw [hbig]; simp; omega)
    have hc1 : count ≤ 1000 := by omega
    have HMK := hidn (mkI w1 count hc1)
    obtain ⟨w2, hw2⟩ : ∃ w2, w2 = w1.alloc (.cells (ivN (List.replicate count 0)).toArray 3) := ⟨_, rfl⟩
    have b2 : Below w1.heap.size w1 w2 := by rw [hw2]; exact (Below.refl _ w1).alloc (Nat.le_refl _) _
    obtain ⟨g, hg⟩ : ∃ g, g = w1.heap.size := ⟨_, rfl⟩
    have hrg : w.heap.size < g := by
      obtain ⟨a, len, cap, h1, _⟩ := HR1.out
      rw [hg]
      exact (Array.getElem?_eq_some_iff.1 h1).1
    have HJ : Hid (RJ w g (List.replicate count 0) z1 f1 w2) := hidn ⟨rdI_stay HR1.out (b2.block _ (by rw [← hg]; exact hrg)) (fun k hk => b2.block k (by omega)), by rw [hw2, hg]; exact heap_alloc_new w1 _, HB1.out.trans (b2.mono HB1.out.size), hrg⟩
    rw [← hw2, ← hg] at HMK
    obtain ⟨s0, hs0⟩ : ∃ s0 : Nat × List Nat × List Nat × Bool, s0 = (0, List.replicate count 0, z1, f1) := ⟨_, rfl⟩
    have hbd : ∀ k, (runH s0 k).1 ≤ k * 34359738368 ∧ ∀ j, nD (runH s0 k).2.1 j ≤ k * 34359738368 := runH_bound s0 34359738368 rfl (by rw [hs0]) (by rw [hs0]; exact fun j => replicate_nD _ _)
    have hhl : ∀ k, (runH s0 k).2.1.length = count := fun k => by rw [runH_len, hs0]; simp
    have HJ0 : Hid (RJ w g (runH s0 0).2.1 (runH s0 0).2.2.1 (runH s0 0).2.2.2 w2) := hidn (by rw [hs0]; exact HJ.out)
    have HS0 : Hid ((runH s0 0).1 = 0) := hidn (by rw [hs0]; rfl)
    have HHS : Hid (headS zs = runH s0 ((count + 7) / 8)) := hidn (by rw [hhs, hs0])
    have hmk := HMK.out
    have hnb : (count + 7) / 8 ≤ 126 := by omega
    have HNB : Hid (∀ k, 8 * k < count + 8 → ¬ 8 * k < count → k = (count + 7) / 8) := hidn (fun k h1 h2 => by omega)
    clear hw2 b2 hg HJ hbig hhs hs0 HMK
    go_wp2_with fail
    clear hmk m1 m2 m3
    go_loopw [7, 8] (fun fv iv wr => ∃ k fr first : Nat, Hid (fr = 8 * k) ∧ fr < count + 8 ∧ iv = .int .i64 (fr : Int) ∧ fv = .int .i64 (first : Int) ∧ Hid (first = (runH s0 k).1) ∧ Hid (RJ w g (runH s0 k).2.1 (runH s0 k).2.2.1 (runH s0 k).2.2.2 wr)) (fun _ iv _ => count + 8 - (intOf iv).toNat)
    case atStart => exact ⟨0, 0, 0, hidn rfl, by omega, rfl, rfl, hidn HS0.out.symm, HJ0⟩
    case round =>
      obtain ⟨k, fr, first, HFR, hfr, rfl, rfl, HFI, HJ⟩ := hrel
      by_cases hlt : fr < count
      · have hlt2 : (fr : Int) < (count : Int) := by omega
        have hk125 : k ≤ 125 := by have := HFR.out; omega
        obtain ⟨s, hs⟩ : ∃ s, s = runH s0 k := ⟨_, rfl⟩
        have hb1 := (hbd k).1
        have hl1 := hhl k
        have HSU : Hid (runH s0 (k + 1) = stepH s k) := hidn (by rw [runH_succ, hs])
        rw [← hs] at HFI HJ hb1 hl1
        have hf1 : first ≤ 4300000000000 := by have := HFI.out; omega
        have HS1 := hidn (short_any w.heap.size wr w.heap.size s.2.2.1 s.2.2.2 HJ.out.rd (Nat.le_refl _))
        have hn1 := shortP_lt s.2.2.1 s.2.2.2
        obtain ⟨p, hp⟩ : ∃ p, p = shortP s.2.2.1 s.2.2.2 := ⟨_, rfl⟩
        have HPP := hidn hp
        rw [← hp] at HS1 hn1
        obtain ⟨n, hn⟩ : ∃ n, n = p.1 := ⟨_, rfl⟩
        have HN := hidn hn
        obtain ⟨x, hx⟩ : ∃ x, x = first + n := ⟨_, rfl⟩
        have hx2 : (first : Int) + (n : Int) = (x : Int) := by omega
        have HX := hidn hx
        rw [← hn] at hn1
        clear hs hb1 hp
        go_wp2_with fail
        refine HS1.out.mono ?_
        rintro e W1 ⟨rfl, hr1, hk1⟩
        rw [← hn]
        have HJ1 := hidn (HJ.out.call hr1 hk1)
        have ccg := HJ1.out.cell (j := fr) (by rw [hl1]; exact hlt)
        have fcg := unfrozen_of_block HJ1.out.ls fr
        have HJ2 := hidn (HJ1.out.set fr x)
        have HS2 := hidn (short_any w.heap.size _ w.heap.size _ _ HJ2.out.rd (Nat.le_refl _))
        clear hr1 hk1 hn hx
        go_wp2_with fail
        refine HS2.out.mono ?_
        rintro e W3 ⟨rfl, hr3, hk3⟩
        have HJ3 := hidn (HJ2.out.call hr3 hk3)
        clear hr3 hk3 ccg fcg
        go_wp2_with fail
        go_roundw
        case rel =>
          refine ⟨k + 1, fr + 8, x, hidn (by have := HFR.out; omega), by omega, by first | rfl | simp, by first | rfl | simp, hidn ?_, hidn ?_⟩
          · rw [HSU.out]
            show x = s.1 + (shortP s.2.2.1 s.2.2.2).1
            rw [← HPP.out, ← HN.out, ← HFI.out, HX.out]
          · rw [HSU.out]
            unfold stepH
            simp only [← HPP.out, ← HN.out, ← HFI.out, ← HFR.out, ← HX.out]
            exact HJ3.out
        case measure => simp [intOf]; omega
      · have hlt2 : ¬ (fr : Int) < (count : Int) := by omega
        have HKE : Hid (k = (count + 7) / 8) := hidn (HNB.out k (by have := HFR.out; omega) (by have := HFR.out; omega))
        have hl1 := hhl k
        have hb2' := (hbd k).2
        have hk126 : k ≤ 126 := by have := HKE.out; omega
        have HBI : Hid (∀ i, bodyS zs i = runB ((runH s0 k).2.1, (runH s0 k).2.2) i) := hidn (fun i => by rw [HBS.out, HHS.out, HKE.out])
        obtain ⟨t0, ht0⟩ : ∃ t0 : List Nat × List Nat × Bool, t0 = ((runH s0 k).2.1, (runH s0 k).2.2) := ⟨_, rfl⟩
        have HJB : Hid (RJ w g (runB t0 0).1 (runB t0 0).2.1 (runB t0 0).2.2 wr) := hidn (by rw [ht0]; exact HJ.out)
        have hbl : ∀ i, (runB t0 i).1.length = count := fun i => by rw [runB_len, ht0]; exact hl1
        have hbb : ∀ i j, nD (runB t0 i).1 j ≤ 126 * 34359738368 + i * (34359738368 + 1) := runB_bound t0 (126 * 34359738368) 34359738368 rfl (by rw [ht0]; exact fun j => Nat.le_trans (hb2' j) (Nat.mul_le_mul_right _ hk126))
        rw [← ht0] at HBI
        clear ht0 hb2' hl1 HFI HFR HJ
        go_wp2_with fail
        obtain ⟨wo, hwo⟩ : ∃ wo, wo = wr := ⟨_, rfl⟩
        subst hwo
        go_loopw [36] (fun iv wr => ∃ i : Nat, i ≤ count ∧ iv = .int .i64 (i : Int) ∧ Hid (RJ w g (runB t0 i).1 (runB t0 i).2.1 (runB t0 i).2.2 wr)) (fun iv _ => count - (intOf iv).toNat)
        case atStart => exact ⟨0, Nat.zero_le _, rfl, HJB⟩
        case round =>
          obtain ⟨i, hi, rfl, HJ⟩ := hrel
          by_cases hil : i < count
          · have hil2 : (i : Int) < (count : Int) := by omega
            obtain ⟨q, hq⟩ : ∃ q, q = i % 8 := ⟨_, rfl⟩
            have hq1 : (i : Int) % 8 = (q : Int) := by omega
            have hq2 : (i : Int).tmod 8 = (q : Int) := by rw [Int.tmod_eq_emod_of_nonneg (by omega)]; exact hq1
            have HQ := hidn hq
            by_cases hq0 : q = 0
            · have hq3 : ((q : Int) != 0) = false := by rw [hq0]; rfl
              have HN : Hid (runB t0 (i + 1) = runB t0 i) := hidn (by rw [runB_succ]; unfold stepB; rw [if_pos (by rw [← HQ.out]; exact hq0)])
              clear hq hq0
              go_wp2_with fail
              go_roundw
              case rel => exact ⟨i + 1, by omega, by first | rfl | simp, hidn (by rw [HN.out]; exact HJ.out)⟩
              case measure => simp [intOf]; omega
            · have hq3 : ((q : Int) != 0) = true := bne_iff_ne.2 (by omega)
              have hi1 : 0 < i := by omega
              obtain ⟨j, hj⟩ : ∃ j, i = j + 1 := ⟨i - 1, by omega⟩
              obtain ⟨s, hs⟩ : ∃ s, s = runB t0 i := ⟨_, rfl⟩
              have HN : Hid (runB t0 (i + 1) = (s.1.set i (nD s.1 j + 1 + (shortP s.2.1 s.2.2).1), (shortP s.2.1 s.2.2).2)) := hidn (by rw [runB_succ]; unfold stepB; rw [if_neg (by rw [← HQ.out]; exact hq0), ← hs, show i - 1 = j from by omega])
              have hsl := hbl i
              have hsb := hbb i j
              rw [← hs] at HJ hsl hsb
              have hjc : (i : Int) - 1 = (j : Int) := by omega
              have hjl : j < count := by omega
              have hj0 : (0 : Int) ≤ (j : Int) := by omega
              obtain ⟨p, hp⟩ : ∃ p, p = nD s.1 j := ⟨_, rfl⟩
              have hpb : p ≤ 50000000000000 := by rw [hp]; omega
              have HP := hidn hp
              have HS1 := hidn (fun wx (hx : Below wr.heap.size wr wx) => short_any w.heap.size wx w.heap.size s.2.1 s.2.2 (HJ.out.below hx).rd (Nat.le_refl _))
              have hn1 := shortP_lt s.2.1 s.2.2
              obtain ⟨r1, hr1⟩ : ∃ r1, r1 = shortP s.2.1 s.2.2 := ⟨_, rfl⟩
              rw [← hr1] at HS1 hn1 HN
              obtain ⟨n, hn⟩ : ∃ n, n = r1.1 := ⟨_, rfl⟩
              have HNN := hidn hn
              rw [← hn] at hn1
              obtain ⟨y, hy⟩ : ∃ y, y = p + 1 + n := ⟨_, rfl⟩
              have HY := hidn hy
              have n1 : IntKind.i64.wrap (j : Int) = (j : Int) := by rw [IntKind.wrap_i64]; omega
              have n2 : IntKind.i64.wrap ((p : Int) + 1) = (p : Int) + 1 := by rw [IntKind.wrap_i64]; omega
              have n3 : IntKind.i64.wrap ((p : Int) + 1 + (n : Int)) = (y : Int) := by rw [IntKind.wrap_i64]; omega
              have n4 : ¬ (j : Int) < 0 := by omega
              have n5 : ¬ (i : Int) < 0 := by omega
              have hcj := HJ.out.cell (j := j) (by rw [hsl]; exact hjl)
              rw [← HP.out] at hcj
              have hci : i ≠ j := by omega
              have hsj : j < s.1.length := by rw [hsl]; exact hjl
              have hji : ¬ (⟨g, i, none⟩ : Addr) = ⟨g, j, none⟩ := by intro e; cases e; exact hci rfl
              clear hq hq0 hp hn hy hs hsb hr1 hj
              go_wp2_with fail
              refine wp_region_noPanic ?_
              refine wp_region_held_drew (S := fun w' => w'.cell? ⟨g, j, none⟩ = some (.int .i64 (p : Int))) (by kernel_rfl) (hcj) (fun hHeld => ?_)
              refine drawn_take (i := 0) (v := .slice (some ⟨g, 0, none⟩) count count) (some 42) rfl rfl (by kernel_rfl) (by kernel_rfl) (by kernel_rfl) (fun _ _ _ h => h) (Or.inl ⟨by kernel_rfl, fun wq hw => by go_simp⟩) hHeld ?_
              simp only [Act.put, List.setIfInBounds_toArray, List.set_cons_succ, List.set_cons_zero]
              refine drawn_take (i := 1) (v := .int .i64 (i : Int)) (some 43) rfl rfl (by kernel_rfl) (by kernel_rfl) (by kernel_rfl) (fun _ _ _ h => h) (Or.inl ⟨by kernel_rfl, fun wq hw => by go_simp⟩) hHeld ?_
              simp only [Act.put, List.setIfInBounds_toArray, List.set_cons_succ, List.set_cons_zero]
              refine drawn_take (i := 2) (v := .slice (some ⟨g, 0, none⟩) count count) (some 44) rfl rfl (by kernel_rfl) (by kernel_rfl) (by kernel_rfl) (fun _ _ _ h => h) (Or.inl ⟨by kernel_rfl, fun wq hw => by go_simp⟩) hHeld ?_
              simp only [Act.put, List.setIfInBounds_toArray, List.set_cons_succ, List.set_cons_zero]
              refine drawn_take (i := 3) (v := .int .i64 (i : Int)) (some 45) rfl rfl (by kernel_rfl) (by kernel_rfl) (by kernel_rfl) (fun _ _ _ h => h) (Or.inl ⟨by kernel_rfl, fun wq hw => by go_simp⟩) hHeld ?_
              simp only [Act.put, List.setIfInBounds_toArray, List.set_cons_succ, List.set_cons_zero]
              refine drawn_take (i := 4) (v := .int .i64 (j : Int)) (some 46) rfl rfl (by kernel_rfl) (by kernel_rfl) (by kernel_rfl) (fun _ _ _ h => h) (Or.inl ⟨by kernel_rfl, fun wq hw => by go_simp⟩) hHeld ?_
              simp only [Act.put, List.setIfInBounds_toArray, List.set_cons_succ, List.set_cons_zero]
              refine drawn_take (i := 5) (v := .pointer (some ⟨g, j, none⟩)) (some 47) rfl rfl (by kernel_rfl) (by kernel_rfl) (by kernel_rfl) (fun _ _ _ h => h) (Or.inl ⟨by kernel_rfl, fun wq hw => by go_simp⟩) hHeld ?_
              simp only [Act.put, List.setIfInBounds_toArray, List.set_cons_succ, List.set_cons_zero]
              refine drawn_take (i := 6) (v := .int .i64 (p : Int)) (some 48) rfl rfl (by kernel_rfl) (by kernel_rfl) (by kernel_rfl) (fun _ _ _ h => h) (Or.inl ⟨by kernel_rfl, fun wq hw => by have q9 : wq.cell? ⟨g, j, none⟩ = some (.int .i64 (p : Int)) := hw; go_simp⟩) hHeld ?_
              simp only [Act.put, List.setIfInBounds_toArray, List.set_cons_succ, List.set_cons_zero]
              refine drawn_take (i := 7) (v := .int .i64 ((p : Int) + 1)) (some 49) rfl rfl (by kernel_rfl) (by kernel_rfl) (by kernel_rfl) (fun _ _ _ h => h) (Or.inl ⟨by kernel_rfl, fun wq hw => by go_simp⟩) hHeld ?_
              simp only [Act.put, List.setIfInBounds_toArray, List.set_cons_succ, List.set_cons_zero]
              refine wpAnyH_ready (rs := [8]) (by kernel_rfl) (by simp) ?_
              refine rdy_call (i := 8) rfl rfl (some 50) rfl 55 #[.pointer (some ⟨w.heap.size, 0, none⟩)] (callJ1 (x := 4) rfl (fun _ _ => rfl) (by kernel_rfl)) (fun r w9 => r = .int .i64 (n : Int) ∧ RJ w g s.1 r1.2.1 r1.2.2 w9) ((HS1.out wr.drew (Below.refl _ wr).drew).mono (by rintro e w9 ⟨rfl, h1, h2⟩; exact ⟨_, rfl, by rw [HNN.out], (HJ.out.below (Below.refl _ wr).drew).call h1 h2⟩)) (fun r w9 hR => ?_) rdy_nil
              obtain ⟨rfl, hJ9⟩ := hR
              have HJ9 := hidn hJ9
              have hcj9 := hJ9.cell (j := j) (by rw [hsl]; exact hjl)
              rw [← HP.out] at hcj9
              have hci9 := hJ9.cell (j := i) (by rw [hsl]; exact hil)
              have hfi9 := unfrozen_of_block hJ9.ls i
              clear hJ9
              refine ⟨hcj9, fun hHeld => ?_⟩
              simp only [Act.put, List.setIfInBounds_toArray, List.set_cons_succ, List.set_cons_zero]
              refine drawn_take (i := 9) (v := .int .i64 (y : Int)) (some 51) rfl rfl (by kernel_rfl) (by kernel_rfl) (by kernel_rfl) (fun _ _ _ h => h) (Or.inl ⟨by kernel_rfl, fun wq hw => by go_simp⟩) hHeld ?_
              simp only [Act.put, List.setIfInBounds_toArray, List.set_cons_succ, List.set_cons_zero]
              refine drawn_take (i := 10) (v := .pointer (some ⟨g, i, none⟩)) (some 52) rfl rfl (by kernel_rfl) (by kernel_rfl) (by kernel_rfl) (fun _ _ _ h => h) (Or.inl ⟨by kernel_rfl, fun wq hw => by go_simp⟩) hHeld ?_
              simp only [Act.put, List.setIfInBounds_toArray, List.set_cons_succ, List.set_cons_zero]
              refine wpAnyH_ready (rs := [11]) (by kernel_rfl) (by simp) ?_
              refine rdy_unit (i := 11) rfl rfl none rfl (w9.setCell ⟨g, i, none⟩ (.int .i64 (y : Int))) (by go_simp) ((World.cell?_setCell_other _ _ _ _ hji).trans hcj9) (fun hHeld => ?_) rdy_nil
              simp only [Act.put]
              refine wpAnyH_done (by kernel_rfl) ?_ _
              refine NoPanic.normal ?_
              clear hHeld
              have HJA := hidn (HJ9.out.set i y)
              clear hcj9 hci9 hfi9 hcj
              go_wp2_with fail
              go_roundw
              case rel => exact ⟨i + 1, by omega, by first | rfl | simp, hidn (by rw [HN.out, ← HP.out, ← HNN.out, ← HY.out]; exact HJA.out)⟩
              case measure => simp [intOf]; omega
          · have hil2 : ¬ (i : Int) < (count : Int) := by omega
            obtain ⟨o4, ho4⟩ : ∃ o4 : Bool, o4 = (runB t0 i).2.2 := ⟨_, rfl⟩
            have HIC : Hid (i = count) := hidn (by omega)
            obtain ⟨a4, l4, c4, q4, _⟩ := HJ.out.rd
            rw [← ho4] at q4
            obtain ⟨cr40, cr41, _, _⟩ := rd_cell q4
            have HO := hidn ho4
            clear ho4 q4
            go_wp2_with fail
            go_region
            go_wp2_with fail
            go_ret2
            refine HRP.out _ _ (HJ.out.bl.trans ⟨rfl, rfl, rfl, Nat.le_refl _, fun _ _ => rfl⟩) (.inr ⟨HBIG.out, g, HJ.out.ng, ?_, ?_⟩)
            · rw [← HIC.out, HBI.out, ← HO.out]
              rfl
            · rw [← HIC.out, HBI.out]
              exact HJ.out.ls
end Go.Proofs.Ythmknpdhgfmogaa
