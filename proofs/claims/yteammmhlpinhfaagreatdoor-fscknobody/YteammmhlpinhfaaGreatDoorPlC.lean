/- plan.numbers. -/
import Derived.Test.YteammmhlpinhfaaGreatDoorPlB
import Derived.Deep.OwnRows
namespace Go.Proofs.YteammmhlpinhfaaGreatDoor
open Go.RowKit Go.Joins
set_option linter.unusedVariables false

theorem blk_setCell {w : World} {k o : Nat} {t : TypeId} {cs : Array Value} {fz : Nat × Nat} (h : w.heap[k]? = some (.cells cs t fz)) (v : Value) : (w.setCell ⟨k, o, none⟩ v).heap[k]? = some (.cells (cs.setIfInBounds o v) t fz) := block_setCell h v

theorem unfro {w : World} {k o : Nat} {t : TypeId} {cs : Array Value} (h : w.heap[k]? = some (.cells cs t (0, 0))) : w.frozen? ⟨k, o, none⟩ = false := by simp [World.frozen?, h]

/-- A row that is full, out of its block. -/
theorem own_of_blk {w : World} {base g e n : Nat} {cur : Array Value} {xs : List Value} (h : w.heap[g]? = some (.cells cur e (0, 0))) (hb : base ≤ g) (hs : cur.toList = xs) (hn : xs.length = n) (hm : n ≤ maxLen) : w.ownsRow base e 1 (.slice (some ⟨g, 0, none⟩) n n) n xs := by
  have hc : cur.size = n := by rw [← hn, ← hs]; simp
  refine ⟨by omega, .inr ⟨g, n, cur, rfl, hb, h, Nat.le_refl _, hm, by omega, ?_⟩⟩
  rw [← hs, List.take_of_length_le (by simp; omega)]

set_option maxHeartbeats 2000000 in
set_option maxRecDepth 100000 in
theorem numbers_any (a : Option Addr) (len cap : Nat) (l : List Fo) (w : World) (h : Fls w a len l) (hm : len ≤ 1000000) :
    Calls Tryz.prog 82 #[.slice a len cap] w fun e w' => e = .returned (.slice (some ⟨w.heap.size, 0, none⟩) len len) ∧ w'.ownsRow w.heap.size 3 1 (.slice (some ⟨w.heap.size, 0, none⟩) len len) len (ivs (l.map Fo.nu)) ∧ Below w.heap.size w w' := by
  have hlen := hidn h.1
  have hmk : (Instr.makeSlice 35 (.int .i64 (len : Int)) (.int .i64 (len : Int))).run Tryz.prog w = .ok (.slice (some ⟨w.heap.size, 0, none⟩) len len) (w.alloc (.cells (madeCells #[.int .i64 0] len) 3)) := run_make_row' (P := Tryz.prog) 35 3 (.int .i64 0) 8 Tryz.underlying35 (by kernel_rfl) rfl .i64 .i64 len (by omega) (by omega) w
  obtain ⟨w1, hw1⟩ : ∃ w1, w1 = w.alloc (.cells (madeCells #[.int .i64 0] len) 3) := ⟨_, rfl⟩
  have b1 : Below w.heap.size w w1 := by rw [hw1]; exact (Below.refl _ w).alloc (Nat.le_refl _) _
  have q1 : w1.heap[w.heap.size]? = some (.cells (madeCells #[.int .i64 0] len) 3 (0, 0)) := by rw [hw1]; exact heap_alloc_new w _
  obtain ⟨g, hg⟩ : ∃ g, g = w.heap.size := ⟨_, rfl⟩
  rw [← hg] at q1 hmk ⊢
  rw [← hw1] at hmk
  have HG := hidn hg
  clear hw1 hg
  go_enter Tryz.func82, Tryz.ntmps82
  go_wp2_with fail
  go_loopw [11] (fun iv wr => ∃ (k : Nat) (cur : Array Value), k ≤ len ∧ iv = .int .i64 (k : Int) ∧ Hid (wr.heap[g]? = some (.cells cur 3 (0, 0)) ∧ cur.size = len ∧ ∀ j, j < k → cur[j]? = (ivs (l.map Fo.nu))[j]?) ∧ Below w.heap.size w wr) (fun iv _ => len - (intOf iv).toNat)
  case atStart => exact ⟨0, _, Nat.zero_le _, rfl, hidn ⟨q1, by simp [size_madeCells], fun j hj => by omega⟩, b1⟩
  case round =>
    obtain ⟨k, cur, hk, rfl, hO, hb⟩ := hrel
    by_cases hlt : k < len
    · have hlt2 : (k : Int) < (len : Int) := by omega
      obtain ⟨d, hd⟩ : ∃ d, l[k]? = some d := ⟨_, List.getElem?_eq_getElem (by rw [hlen.out]; exact hlt)⟩
      obtain ⟨b, off, rfl, hbk, c0, c1, c2, c3, c4, c5, c6, c7, hms⟩ := (h.below hb).at hd
      have HV : Hid ((ivs (l.map Fo.nu))[k]? = some (.int .i64 d.nu)) := hidn (by unfold ivs; rw [List.getElem?_map, List.getElem?_map, hd]; rfl)
      clear hd
      obtain ⟨nu, ge, lv, rk, mn, mx, bt, pa, pl, pc, ps⟩ := d
      simp only at c0 c1 c2 c3 c4 c5 c6 c7 hms HV
      obtain ⟨wA, hwA⟩ : ∃ wA, wA = wr.alloc (.cells #[.int .i64 nu, .int .i64 ge, .int .i64 lv, .int .i64 rk, .int .i64 mn, .int .i64 mx, .int .i64 bt, .slice pa pl pc] 40) := ⟨_, rfl⟩
      have bA : Below wr.heap.size wr wA := by rw [hwA]; exact (Below.refl _ wr).alloc (Nat.le_refl _) _
      have BA := hb.trans (bA.mono hb.size)
      have hgl : g < wr.heap.size := (Array.getElem?_eq_some_iff.1 hO.out.1).1
      have qA : wA.heap[g]? = some (.cells cur 3 (0, 0)) := (bA.block _ hgl).trans hO.out.1
      obtain ⟨y, hy⟩ : ∃ y, cur[k]? = some y := ⟨_, Array.getElem?_eq_getElem (by have := hO.out.2.1; omega)⟩
      have cK : wA.cell? ⟨g, k, none⟩ = some y := (cell_of_row _ _ _ _ _ _ qA).trans hy
      have fK : wA.frozen? ⟨g, k, none⟩ = false := unfro qA
      obtain ⟨wS, hwS⟩ : ∃ wS, wS = (wr.setCell ⟨g, k, none⟩ (.int .i64 nu)).alloc (.cells #[.int .i64 nu, .int .i64 ge, .int .i64 lv, .int .i64 rk, .int .i64 mn, .int .i64 mx, .int .i64 bt, .slice pa pl pc] 40) := ⟨_, rfl⟩
      have bS : Below w.heap.size w (wr.setCell ⟨g, k, none⟩ (.int .i64 nu)) := hb.setCell (p := ⟨g, k, none⟩) (by show w.heap.size ≤ g; rw [HG.out]; exact Nat.le_refl _) _
      have BP : Below w.heap.size w wS := by rw [hwS]; exact bS.alloc bS.size _
      have HP : Hid (wS.heap[g]? = some (.cells (cur.setIfInBounds k (.int .i64 nu)) 3 (0, 0)) ∧ (cur.setIfInBounds k (.int .i64 nu)).size = len ∧ ∀ j, j < k + 1 → (cur.setIfInBounds k (.int .i64 nu))[j]? = (ivs (l.map Fo.nu))[j]?) := hidn (by
        refine ⟨?_, by rw [Array.size_setIfInBounds]; exact hO.out.2.1, fun j hj => ?_⟩
        · rw [hwS, heap_alloc_old _ _ (by simpa using hgl)]
          exact blk_setCell hO.out.1 _
        · rw [Array.getElem?_setIfInBounds]
          by_cases hjk : k = j
          · subst hjk
            rw [if_pos rfl, HV.out, if_pos (by have := hO.out.2.1; omega)]
          · rw [if_neg hjk]
            exact hO.out.2.2 j (by omega))
      clear hy qA
      rw [hwA] at cK fK
      have HWS := hidn hwS
      clear hwA hwS
      go_wp2_with fail
      rw [← HWS.out]
      exact ⟨⟨k + 1, _, by omega, by simp, HP, BP⟩, by simp [intOf]; omega⟩
    · have hlt2 : ¬ (k : Int) < (len : Int) := by omega
      have HN : Hid (wr.ownsRow w.heap.size 3 1 (.slice (some ⟨g, 0, none⟩) len len) len (ivs (l.map Fo.nu))) := hidn (by
        refine own_of_blk hO.out.1 (by rw [HG.out]; exact Nat.le_refl _) ?_ (by simp [ivs, hlen.out]) (by unfold maxLen; omega)
        apply List.ext_getElem?
        intro j
        rw [Array.getElem?_toList]
        by_cases hj : j < k
        · exact hO.out.2.2 j hj
        · rw [Array.getElem?_eq_none (by have := hO.out.2.1; omega), List.getElem?_eq_none (by simp [ivs, hlen.out]; omega)])
      go_wp2_with fail
      obtain rfl := HG.out
      exact bodyPost_ret (v := .slice (some ⟨w.heap.size, 0, none⟩) len len) (by simp [results, Tryz.results82, go_sem]) rfl ⟨rfl, HN.out, hb⟩

end Go.Proofs.YteammmhlpinhfaaGreatDoor
