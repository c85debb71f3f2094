/- scrub: groups put behind others. -/
import Derived.Test.YtidlogeeophogaaDoorScA
import Derived.Deep.CutRange
namespace Go.Proofs.YtidlogeeophogaaDoor
open Go.RowKit Go.Maps
set_option linter.unusedVariables false

def grpV (k : Int) (s : ByteArray) (g : Int) (i : Nat) : List Value := [.int .i64 k, .string s, .int .i64 (i : Int), .int .i64 g]
def grps (k : Int) (s : ByteArray) (g : Int) (j : Nat) : List Value := (List.range j).flatMap (grpV k s g)

theorem grps_succ (k : Int) (s : ByteArray) (g : Int) (j : Nat) : grps k s g (j + 1) = grps k s g j ++ grpV k s g j := by
  unfold grps
  rw [List.range_succ, List.flatMap_append]
  simp

theorem own_otherG {w w' : World} {base e size n : Nat} {v : Value} {xs : List Value} (h : w.ownsRow base e size v n xs) (hb : ∀ g, v.ownBlock = some g → w'.heap[g]? = w.heap[g]?) : w'.ownsRow base e size v n xs := by
  obtain ⟨hl, h1⟩ := h
  refine ⟨hl, ?_⟩
  rcases h1 with h1 | ⟨g, cap, cur, hv, hg, hh, r⟩
  · exact .inl h1
  · exact .inr ⟨g, cap, cur, hv, hg, (hb g (by rw [hv]; rfl)).trans hh, r⟩

set_option maxHeartbeats 4000000 in
set_option maxRecDepth 100000 in
theorem withEach_any (w : World) (base : Nat) (v : Value) (n : Nat) (xs : List Value) (hown : w.ownsRow base 32 4 v n xs) (hle : base ≤ w.heap.size) (hn : n ≤ 500) (k : Int) (s : ByteArray) (i0 g : Int) (cnt : Nat) (hcnt : cnt ≤ 500) :
    Calls Tryd.prog 55 #[v, .agg #[.int .i64 k, .string s, .int .i64 i0, .int .i64 g], .int .i64 (cnt : Int)] w fun e w' => ∃ v', e = .returned v' ∧ w'.ownsRow base 32 4 v' (n + cnt) (xs ++ grps k s g cnt) ∧ Below base w w' := by
  obtain ⟨ti, tz, hi, hz0, hz1, hz2, hzc⟩ := grInfo
  obtain ⟨w1, hw1⟩ : ∃ w1, w1 = w.alloc (.cells #[.int .i64 k, .string s, .int .i64 i0, .int .i64 g] 32) := ⟨_, rfl⟩
  obtain ⟨b4, hb4⟩ : ∃ b4, b4 = w.heap.size := ⟨_, rfl⟩
  have hB1 : Below w.heap.size w w1 := by rw [hw1]; exact (Below.refl _ _).alloc (Nat.le_refl _) _
  have hs1 : w1.heap.size = b4 + 1 := by rw [hw1, World.size_alloc, hb4]
  have h4 : w1.heap[b4]? = some (.cells #[.int .i64 k, .string s, .int .i64 i0, .int .i64 g] 32 (0, 0)) := by rw [hw1, hb4]; exact heap_alloc_new _ _
  have ho1 := own_otherG hown (w' := w1) (fun b hb => hB1.block b (hown.lt b hb).2)
  have HG := hidn (growGr w1 base v n xs ho1 (by omega) (by omega) cnt (by omega))
  have HV : Hid (∀ b, v.ownBlock = some b → b < b4) := hidn (fun b hb => by rw [hb4]; exact (hown.lt b hb).2)
  have HW1 := hidn (And.intro hB1 (And.intro hs1 h4))
  have HLE : Hid (base ≤ b4) := hidn (by rw [hb4]; exact hle)
  have HBE := hidn hb4
  clear hB1 hs1 h4 ho1 hown hle
  go_enter Tryd.func55, Tryd.ntmps55
  go_wp2_with fail
  rw [← hw1]
  refine HG.out.mono ?_
  clear HG
  rintro e w2 ⟨v2, rfl, ho2, hb2, hpl2, hk2, hsz2⟩
  obtain ⟨hB1, hs1, h4⟩ := HW1.out
  have HO2 := hidn ho2
  have HN2 : Hid (∀ b, v2.ownBlock = some b → b ≠ b4) := hidn (fun b hb => by
    rcases hpl2 b hb with h | h
    · have := HV.out b h; omega
    · omega)
  have H42 : Hid (∃ q : Int, w2.heap[b4]? = some (.cells #[.int .i64 k, .string s, .int .i64 q, .int .i64 g] 32 (0, 0))) := hidn ⟨i0, (hk2 b4 (by omega)).trans h4⟩
  have HB2 : Hid (Below base w w2) := hidn ((hB1.mono (by rw [← HBE.out]; exact HLE.out)).trans hb2)
  rw [← hb4]
  clear ho2 hb2 hpl2 hk2 hsz2 hB1 hs1 h4 HW1 HV hw1 hb4
  go_wp2_with fail
  go_loopw [0, 12] (fun ov iv wr => ∃ j : Nat, j ≤ cnt ∧ iv = .int .i64 (j : Int) ∧ Hid (wr.ownsRow base 32 4 ov (n + j) (xs ++ grps k s g j)) ∧ Hid (∀ b, ov.ownBlock = some b → b ≠ b4) ∧ Hid (∃ q : Int, wr.heap[b4]? = some (.cells #[.int .i64 k, .string s, .int .i64 q, .int .i64 g] 32 (0, 0))) ∧ Hid (Below base w wr)) (fun _ iv _ => cnt - (intOf iv).toNat)
  case atStart => exact ⟨0, Nat.zero_le _, rfl, hidn (by rw [show grps k s g 0 = [] from rfl, List.append_nil, Nat.add_zero]; exact HO2.out), HN2, H42, HB2⟩
  case round =>
    clear HO2 HN2 H42 HB2
    obtain ⟨j, hj, rfl, HO, HN, H4, HB⟩ := hrel
    by_cases hlt : j < cnt
    · have hlt2 : (j : Int) < (cnt : Int) := by omega
      obtain ⟨q, h4⟩ := H4.out
      have c2 : wr.cell? ⟨b4, 2, none⟩ = some (.int .i64 q) := by rw [cell_of_row _ _ _ _ _ _ h4]; rfl
      have fz := frozen_of_row _ _ 2 _ _ h4
      obtain ⟨W1, hW1⟩ : ∃ W1, W1 = wr.setCell ⟨b4, 2, none⟩ (.int .i64 (j : Int)) := ⟨_, rfl⟩
      have h41 : W1.heap[b4]? = some (.cells #[.int .i64 k, .string s, .int .i64 (j : Int), .int .i64 g] 32 (0, 0)) := by
        rw [hW1, setCell_eq_setRow _ _ _ _ _ _ _ h4]
        exact setRow_heap _ _ _ _ _ _ h4
      have hoth : ∀ b, b ≠ b4 → W1.heap[b]? = wr.heap[b]? := fun b hb => by rw [hW1]; exact Below.heap_setCell wr ⟨b4, 2, none⟩ _ b hb
      have hsW : W1.heap.size = wr.heap.size := by rw [hW1]; simp [World.setCell]
      have ho1 := own_otherG HO.out (w' := W1) (fun b hb => hoth b (HN.out b hb))
      have hBW : Below base w W1 := by rw [hW1]; exact HB.out.setCell (p := ⟨b4, 2, none⟩) HLE.out _
      have l4 : b4 < W1.heap.size := (Array.getElem?_eq_some_iff.1 h41).1
      obtain ⟨va, vc, e9, _⟩ := own_slG HO.out
      have hB2 : Below W1.heap.size W1 (W1.alloc (.cells #[.int .i64 k, .string s, .int .i64 (j : Int), .int .i64 g] 32)) := (Below.refl _ _).alloc (Nat.le_refl _) _
      have ho2 := own_otherG ho1 (w' := W1.alloc (.cells #[.int .i64 k, .string s, .int .i64 (j : Int), .int .i64 g] 32)) (fun b hb => hB2.block b (ho1.lt b hb).2)
      obtain ⟨L, hL⟩ : ∃ L, L = n + j := ⟨_, rfl⟩
      rw [← hL] at ho2 e9
      have hbW := hBW.size
      have hbw := HB.out.size
      have hble := HLE.out
      obtain ⟨g4, c4, w4, hrun, hown4, hgr4, hpl4⟩ := appN (P := Tryd.prog) (W1.alloc (.cells #[.int .i64 k, .string s, .int .i64 (j : Int), .int .i64 g] 32)) 44 44 32 ti tz 4 40 Tryd.underlying44 hi hz0 hz1 hz2 hzc (by decide) _ L _ base ho2 (by rw [World.size_alloc]; omega) ⟨W1.heap.size, 0, none⟩ 1 1 (by omega) (grpV k s g j) rfl (fun jj u hu => by
        rw [add_none, Nat.zero_add, cell_of_row _ _ _ _ _ _ (heap_alloc_new W1 (.cells #[.int .i64 k, .string s, .int .i64 (j : Int), .int .i64 g] 32))]
        unfold grpV at hu
        simpa using hu) (fun u hu => by
        unfold grpV at hu
        simp only [List.mem_cons, List.not_mem_nil, or_false] at hu
        rcases hu with rfl | rfl | rfl | rfl <;> rfl) (by unfold maxLen; omega) (by omega)
      have hB4 : Below base w w4 := (hBW.trans (hB2.mono (by omega))).grown hgr4 (by rw [World.size_alloc]; omega) (fun b hb => (HO.out.lt b hb).1)
      have h44 : ∃ q : Int, w4.heap[b4]? = some (.cells #[.int .i64 k, .string s, .int .i64 q, .int .i64 g] 32 (0, 0)) := ⟨_, (hgr4.block b4 (by rw [World.size_alloc]; omega) (fun e => HN.out b4 e.symm rfl)).trans ((hB2.block b4 l4).trans h41)⟩
      have HN4 : Hid (w4.ownsRow base 32 4 (.slice (some ⟨g4, 0, none⟩) (L + 1) c4) (n + (j + 1)) (xs ++ grps k s g (j + 1))) := hidn (by
        rw [grps_succ, ← List.append_assoc, ← Nat.add_assoc, ← hL]
        exact hown4)
      have HNE4 : Hid (∀ b, (Value.slice (some ⟨g4, 0, none⟩) (L + 1) c4).ownBlock = some b → b ≠ b4) := hidn (fun b hb => by
        obtain rfl : g4 = b := by simpa [Value.ownBlock] using hb
        rcases hpl4 with h | h
        · exact HN.out _ h
        · rw [World.size_alloc] at h; omega)
      have HX := hidn (And.intro hB4 h44)
      have HRUN := hidn hrun
      have y0 : W1.cell? ⟨b4, 0, none⟩ = some (.int .i64 k) := by rw [cell_of_row _ _ _ _ _ _ h41]; rfl
      have y1 : W1.cell? ⟨b4, 1, none⟩ = some (.string s) := by rw [cell_of_row _ _ _ _ _ _ h41]; rfl
      have y2 : W1.cell? ⟨b4, 2, none⟩ = some (.int .i64 (j : Int)) := by rw [cell_of_row _ _ _ _ _ _ h41]; rfl
      have y3 : W1.cell? ⟨b4, 3, none⟩ = some (.int .i64 g) := by rw [cell_of_row _ _ _ _ _ _ h41]; rfl
      subst e9
      clear hrun hown4 hgr4 hpl4 hB4 h44 hB2 ho2 ho1 hBW l4 hoth hsW hL HO HN H4 h4 h41 hbW hbw hble
      go_upto_region 6 with fail
      rw [← hW1]
      clear hW1 c2 fz
      go_wp2_with (at_builtin; refine wpList_app_run2 rfl _ _ 44 44 rfl rfl (.slice va L vc) _ _ rfl rfl HRUN.out ?_; clear HRUN)
      go_roundw
      case rel => exact ⟨j + 1, hlt, by simp, HN4, HNE4, hidn HX.out.2, hidn HX.out.1⟩
      case measure => simp [intOf]; omega
    · have hlt2 : ¬ (j : Int) < (cnt : Int) := by omega
      have hjn : j = cnt := by omega
      have hO := HO.out
      rw [hjn] at hO
      have HO2 := hidn hO
      clear hO hjn HO
      go_wp2
      go_ret
      exact ⟨_, rfl, HO2.out, HB.out⟩
end Go.Proofs.YtidlogeeophogaaDoor
