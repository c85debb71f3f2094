/- plan.isReplaced. -/
import Derived.Test.YtpbicnpaldfamaaPlQ
import Derived.Laws.StructEq
namespace Go.Proofs.Ytpbicnpaldfamaa
open Go.RowKit Go.Joins Go.Maps
set_option linter.unusedVariables false

theorem neq_block (w : World) (a b c d : Int) : (binOp .neq 37 (.agg #[.int .i64 a, .int .i64 b]) (.agg #[.int .i64 c, .int .i64 d])).run Try.prog w = .ok (.bool (!(decide (a = c) && decide (b = d)))) w := by
  have hS : Try.prog.underlying 37 = some (.struct (Try.prog.fieldsOf 37)) := by kernel_rfl
  have hp : Try.prog.stoodInHeld 37 = false := by kernel_rfl
  have u3 := Try.underlying3
  have a3 := Try.isAgg3
  have z3 := Try.sizeOf3
  rw [run_neq_struct, show (10000 : Nat) = 9999 + 1 from rfl, run_equalIn_struct w 9999 37 _ _ hS hp]
  simp only [Program.fieldsOf, Try.underlying37]
  go_simp
  by_cases h1 : a = c <;> by_cases h2 : b = d <;> simp [h1, h2]

/-- Whether a block has another heir than itself. -/
def replG (G : List (Int × Int)) (nu i : Int) : Bool := G.any (fun b => !(decide (b.1 = nu) && decide (b.2 = i)))

theorem replG_take_false {G : List (Int × Int)} {nu i : Int} (h : (G.take G.length).any (fun b => !(decide (b.1 = nu) && decide (b.2 = i))) = false) : replG G nu i = false := by
  rw [List.take_length] at h
  exact h

theorem bvs_get {G : List (Int × Int)} {j : Nat} {b : Int × Int} (h : G[j]? = some b) : (bvs G)[j * 2]? = some (.int .i64 b.1) ∧ (bvs G)[j * 2 + 1]? = some (.int .i64 b.2) := by
  induction G generalizing j with
  | nil => simp at h
  | cons x t ih =>
    have e : bvs (x :: t) = .int .i64 x.1 :: .int .i64 x.2 :: bvs t := rfl
    rw [e]
    cases j with
    | zero => simp at h; subst h; exact ⟨rfl, rfl⟩
    | succ j =>
      have := ih (j := j) (by simpa using h)
      rw [show (j + 1) * 2 = j * 2 + 1 + 1 from by omega]
      exact this

set_option maxHeartbeats 300000 in
set_option maxRecDepth 100000 in
theorem isReplaced_any (w : World) (bm N base : Nat) (E : List (Int × Int × Int)) (nu i : Int) (h : HMp w bm N base E) (hw : (Lit.int .i64 nu).wf = true) (hE : E.length ≤ 100000000) :
    Calls Try.prog 12 #[.agg #[.int .i64 nu, .int .i64 i], .map (some bm)] w fun e w' => e = .returned (.bool (replG (getE E nu) nu i)) ∧ Below w.heap.size w w' := by
  obtain ⟨Z, hZ⟩ : ∃ Z, Z = replG (getE E nu) nu i := ⟨_, rfl⟩
  rw [← hZ]
  obtain ⟨wA, hwA⟩ : ∃ wA, wA = w.alloc (.cells #[.int .i64 nu, .int .i64 i] 37) := ⟨_, rfl⟩
  have bA : Below w.heap.size w wA := by rw [hwA]; exact (Below.refl _ w).alloc (Nat.le_refl _) _
  have qA : wA.heap[w.heap.size]? = some (.cells #[.int .i64 nu, .int .i64 i] 37 (0, 0)) := by rw [hwA]; exact heap_alloc_new w _
  have x0 : wA.cell? ⟨w.heap.size, 0, none⟩ = some (.int .i64 nu) := cell_of_row _ _ _ _ _ _ qA
  have x1 : wA.cell? ⟨w.heap.size, 1, none⟩ = some (.int .i64 i) := cell_of_row _ _ _ _ _ _ qA
  have hAs := (Array.getElem?_eq_some_iff.1 qA).1
  obtain ⟨v, hlk, hown⟩ := (h.below bA).look nu hw
  have hgl := getE_len E nu
  obtain ⟨G, hG⟩ : ∃ G, G = getE E nu := ⟨_, rfl⟩
  rw [← hG] at hown hZ hgl
  obtain ⟨m, hm⟩ : ∃ m, m = G.length := ⟨_, rfl⟩
  obtain ⟨va, vc, rfl⟩ := own_slice hown
  rw [← hm] at hown
  rw [← hm, hwA] at hlk
  have hm8 : m ≤ 100000000 := by omega
  have HM := hidn hm
  have HZ := hidn hZ
  have HWA := hidn hwA
  have HOW := hidn hown
  have hnq := fun (wx : World) (a b c d : Int) => neq_block wx a b c d
  clear hwA hZ hG hm hown qA
  go_enter Try.func12, Try.ntmps12
  go_wp2_with fail
  rw [← HWA.out]
  go_loopw [12] (fun iv wr => ∃ (k : Nat), k ≤ m ∧ iv = .int .i64 (k : Int) ∧ Hid ((G.take k).any (fun b => !(decide (b.1 = nu) && decide (b.2 = i))) = false) ∧ Hid (Below wA.heap.size wA wr)) (fun iv _ => m - (intOf iv).toNat)
  case atStart => exact ⟨0, Nat.zero_le _, rfl, hidn rfl, hidn (Below.refl _ _)⟩
  case round =>
    obtain ⟨k, hk, rfl, hO, hB⟩ := hrel
    have BX := bA.trans (hB.out.mono bA.size)
    by_cases hlt : k < m
    · have hlt2 : (k : Int) < (m : Int) := by omega
      obtain ⟨d, hd⟩ : ∃ d, G[k]? = some d := ⟨_, List.getElem?_eq_getElem (by rw [← HM.out]; exact hlt)⟩
      have hr := own_skip HOW.out hB.out
      obtain ⟨g, rfl, hcell⟩ : ∃ g, va = some ⟨g, 0, none⟩ ∧ ∀ j u, (bvs G)[j]? = some u → wr.cell? ⟨g, j, none⟩ = some u := by
        have hr' := hr
        rcases hr.2 with ⟨_, h0⟩ | ⟨g, cap, cur, e, _⟩
        · omega
        · injection e with e1 e2 e3
          refine ⟨g, e1, fun j u hj => ?_⟩
          subst e1
          have := hr'.cells (g := g) rfl j u hj
          rw [ladd_none, Nat.zero_add] at this
          exact this
      have y0 := hcell _ _ (bvs_get hd).1
      have y1 := hcell _ _ (bvs_get hd).2
      have z0 : wr.cell? ⟨w.heap.size, 0, none⟩ = some (.int .i64 nu) := (hB.out.cell hAs).trans x0
      have z1 : wr.cell? ⟨w.heap.size, 1, none⟩ = some (.int .i64 i) := (hB.out.cell hAs).trans x1
      have hsx : w.heap.size < wr.heap.size := block_lt_of_cell z0
      obtain ⟨wO, hwO⟩ : ∃ wO, wO = wr.alloc (.cells #[.int .i64 d.1, .int .i64 d.2] 37) := ⟨_, rfl⟩
      have bO : Below wr.heap.size wr wO := by rw [hwO]; exact (Below.refl _ wr).alloc (Nat.le_refl _) _
      have BO := BX.trans (bO.mono BX.size)
      have HBO : Hid (Below wA.heap.size wA wO) := hidn (hB.out.trans (bO.mono hB.out.size))
      have t0 : wO.cell? ⟨w.heap.size, 0, none⟩ = some (.int .i64 nu) := (bO.cell hsx).trans z0
      have t1 : wO.cell? ⟨w.heap.size, 1, none⟩ = some (.int .i64 i) := (bO.cell hsx).trans z1
      rw [hwO] at t0 t1
      have HWO := hidn hwO
      have HT : Hid (G.take (k + 1) = G.take k ++ [d]) := hidn (by rw [List.take_add_one, hd]; rfl)
      have HDM := hidn (List.mem_of_getElem? hd)
      clear hwO hd hr hcell
      obtain ⟨d1, d2⟩ := d
      simp only at y0 y1 HWO HT HDM
      cases hq : (!(decide (d1 = nu) && decide (d2 = i))) with
      | true =>
        have HZ2 : Hid (Z = true) := hidn (by rw [HZ.out]; exact List.any_eq_true.2 ⟨(d1, d2), HDM.out, hq⟩)
        go_wp2_with fail
        exact bodyPost_ret (v := .bool true) (by simp [results, Try.results12, go_sem]) rfl ⟨by rw [HZ2.out], by rw [← HWO.out]; exact BO⟩
      | false =>
        have HP2 : Hid ((G.take (k + 1)).any (fun b => !(decide (b.1 = nu) && decide (b.2 = i))) = false) := hidn (by rw [HT.out, List.any_append, hO.out]; simp only [List.any_cons, List.any_nil, hq]; rfl)
        go_wp2_with fail
        rw [← HWO.out]
        exact ⟨⟨k + 1, by omega, by simp, HP2, HBO⟩, by simp [intOf]; omega⟩
    · have hlt2 : ¬ (k : Int) < (m : Int) := by omega
      have HZ2 : Hid (Z = false) := hidn (by
        rw [HZ.out]
        have h9 := hO.out
        rw [List.take_of_length_le (by rw [← HM.out]; omega)] at h9
        exact h9)
      go_wp2_with fail
      exact bodyPost_ret (v := .bool false) (by simp [results, Try.results12, go_sem]) rfl ⟨by rw [HZ2.out], BX⟩

end Go.Proofs.Ytpbicnpaldfamaa
