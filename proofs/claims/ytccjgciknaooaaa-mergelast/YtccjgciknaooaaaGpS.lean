/- merge: slices.SortFunc of gaps by From. -/
import Derived.Test.YtccjgciknaooaaaGpM
import Derived.Test.YtccjgciknaooaaaMgD
import Derived.Test.YtccjgciknaooaaaGpShelf
import Derived.Shelf.SlSortCmp.WholeK
namespace Go.Proofs.Ytccjgciknaooaaa
open Go.RowKit Go.Joins Go.Shelf Go.Sort
set_option linter.unusedVariables false
set_option linter.unusedSimpArgs false

instance : Inhabited Gp := ⟨⟨0, 0⟩⟩

/-- A gap's cells. -/
def encG (x : Gp) : List Value := [.int .i64 x.f, .int .i64 x.t]

/-- By From. -/
def byF (x y : Gp) : Int := if x.f < y.f then -1 else if y.f < x.f then 1 else 0

theorem byF_lt (x y : Gp) : ltOf byF x y = decide (x.f < y.f) := by
  unfold ltOf byF
  by_cases h1 : x.f < y.f
  · simp [h1]
  · by_cases h2 : y.f < x.f <;> simp [h1, h2]

theorem byF_swo : SWO (ltOf byF) where
  irrefl x := by rw [byF_lt]; simp
  trans x y z h1 h2 := by rw [byF_lt] at *; simp at *; omega
  ntrans x y z h1 h2 := by rw [byF_lt] at *; simp at *; omega

set_option maxHeartbeats 1000000 in
theorem nanI_any (a : Int) (w : World) : Calls Try.prog 43 #[.int .i64 a] w fun e w' => e = .returned (.bool false) ∧ w' = w := by
  go_enter Try.func43, Try.ntmps43
  go_wp2
  go_ret
  exact ⟨rfl, rfl⟩

set_option maxHeartbeats 1000000 in
theorem cmpI_any (x y : Int) (w : World) : Calls Try.prog 36 #[.int .i64 x, .int .i64 y] w fun e w' => e = .returned (.int .i64 (if x < y then -1 else if y < x then 1 else 0)) ∧ w' = w := by
  by_cases h1 : x < y
  · rw [if_pos h1]
    go_enter Try.func36, Try.ntmps36
    go_wp2_with (go_at_call 43; refine (nanI_any _ _).mono ?_; rintro e w' ⟨rfl, rfl⟩)
    go_ret
    exact ⟨rfl, rfl⟩
  · rw [if_neg h1]
    by_cases h2 : y < x
    · rw [if_pos h2]
      go_enter Try.func36, Try.ntmps36
      go_wp2_with (go_at_call 43; refine (nanI_any _ _).mono ?_; rintro e w' ⟨rfl, rfl⟩)
      go_ret
      exact ⟨rfl, rfl⟩
    · rw [if_neg h2]
      go_enter Try.func36, Try.ntmps36
      go_wp2_with (go_at_call 43; refine (nanI_any _ _).mono ?_; rintro e w' ⟨rfl, rfl⟩)
      go_ret
      exact ⟨rfl, rfl⟩

set_option maxHeartbeats 1000000 in
theorem closF_any (x y : Gp) (W : World) : Calls Try.prog 35 #[.agg #[.int .i64 x.f, .int .i64 x.t], .agg #[.int .i64 y.f, .int .i64 y.t]] W fun e w' => e = .returned (.int .i64 (byF x y)) ∧ ∃ q os', w' = grow (W.drewN q) os' := by
  have hcon := fun W' => cmpI_any x.f y.f W'
  change ∀ W', Calls _ _ _ W' fun e w' => e = .returned (.int .i64 (byF x y)) ∧ w' = W' at hcon
  generalize byF x y = r at hcon ⊢
  go_enter Try.func35, Try.ntmps35
  go_wp2_with (go_at_call 36; refine (hcon _).mono ?_; rintro e w' ⟨rfl, rfl⟩)
  go_ret
  exact ⟨rfl, 0, _, by rw [alloc_eq_grow, alloc_eq_grow, grow_grow]; rfl⟩

theorem flat_get (l : List Gp) (i : Nat) (h : i < l.length * 2) : (vgp l)[i]? = some (flatK encG 2 l.toArray)[i]! := by
  rw [get_flatK _ _ _ _ (by simpa using h)]
  have hj : i / 2 < l.length := by omega
  obtain ⟨g1, g2⟩ := vgp_get l (i / 2) hj
  have e : l.toArray[i / 2]! = gpD l (i / 2) := by
    unfold gpD
    simp [List.getD_eq_getElem?_getD, hj]
  rw [e]
  rcases Nat.mod_two_eq_zero_or_one i with h0 | h0
  · have ei : i / 2 * 2 = i := by omega
    rw [h0]
    rw [ei] at g1
    rw [g1]; rfl
  · have ei : i / 2 * 2 + 1 = i := by omega
    rw [h0]
    rw [ei] at g2
    rw [g2]; rfl

theorem holds_gaps {w : World} {B g n cap : Nat} {l : List Gp} (ho : w.ownsRow B 62 2 (.slice (some ⟨g, 0, none⟩) n cap) n (vgp l)) : HoldsK encG 2 w g 0 l.toArray := by
  have hn := ho.1
  rw [vgp_len] at hn
  obtain ⟨_, _, cur, hcur⟩ := own_blk ho
  intro j hj
  rw [size_flatK] at hj
  simp at hj
  refine ⟨?_, unfrozen_of_block hcur _⟩
  have := ho.cells (g := g) rfl j _ (flat_get l j hj)
  rw [add_none] at this
  exact this

set_option maxHeartbeats 2000000 in
theorem sort_any (B g n cap : Nat) (l : List Gp) (w : World) (hn : n ≤ 1000000) (ho : w.ownsRow B 62 2 (.slice (some ⟨g, 0, none⟩) n cap) n (vgp l)) :
    Calls Try.prog 34 #[.slice (some ⟨g, 0, none⟩) n cap, .func (.func 35) #[] #[]] w fun e w' => e = .returned (.tuple #[]) ∧ ∃ l' : List Gp, l'.Perm l ∧ SrtG l' ∧ w'.ownsRow B 62 2 (.slice (some ⟨g, 0, none⟩) n cap) n (vgp l') ∧ Kr g w w' := by
  have hl := ho.1
  rw [vgp_len] at hl
  obtain rfl : l.length = n := by omega
  have hH := holds_gaps ho
  have eg : ∀ args w, (callFunc 35 args).run Try.prog w = .ok (.enter 35 args) w := enters_of Try.func35 (by kernel_rfl) rfl
  obtain ⟨g', cap', cur, hv, hBg, hcur, hnc, hcm, hcs, htk⟩ := ho.2.resolve_left (fun h => by cases h.1)
  cases hv
  have hblk : g < w.heap.size := (Array.getElem?_eq_some_iff.1 hcur).1
  have hsz : l.toArray.size = l.length := by simp
  have hcon := AnyQ.slices_SortFunc Try.sortGap 2 Try.isAgg62 Try.sizeOf62 encG (fun _ => rfl) (fun x v hv => by simp [encG] at hv; rcases hv with rfl | rfl <;> rfl) byF byF_swo 35 #[] g 0 cap l.toArray w eg (fun _ _ _ _ x y => closF_any x y _) hH hblk (by rw [hsz]; omega)
  rw [hsz] at hcon
  refine hcon.mono ?_
  rintro e w' ⟨rfl, d', m, os, hp, hs, rfl⟩
  obtain ⟨hps, _, hpp⟩ := hp
  rw [hsz] at hps
  have hdl : d'.toList.length = l.length := by simpa using hps
  refine ⟨rfl, d'.toList, ?_, ?_, ?_, ?_⟩
  · have e1 : (d'.extract 0 l.length).toList = d'.toList := by
      have : d'.extract 0 l.length = d' := by rw [← hps]; simp
      rw [this]
    have e2 : (l.toArray.extract 0 l.length).toList = l := by simp
    rw [e1, e2] at hpp
    exact hpp
  · unfold SrtG
    rw [List.pairwise_iff_getElem]
    intro i j hi hj hij
    have := hs i j (Nat.zero_le _) hij (by omega)
    rw [byF_lt] at this
    have hi2 : i < d'.size := by omega
    have hj2 : j < d'.size := by omega
    rw [getElem!_pos d' j hj2, getElem!_pos d' i hi2] at this
    have := of_decide_eq_false this
    simp only [Array.getElem_toList]
    omega
  · refine ⟨by rw [vgp_len, hdl], .inr ⟨g, cap, putCells id 0 (flatK encG 2 d') cur, rfl, hBg, ?_, hnc, hcm, by simpa [putCells] using hcs, ?_⟩⟩
    · unfold sortWorldK putRowK putRow
      rw [heap_grow_old _ _ (by simp [mapBlock, ahead]; exact hblk)]
      simp [mapBlock, ahead, Array.getElem?_modify, hcur, onCells]
    · apply List.ext_getElem?
      intro i
      rw [List.getElem?_take]
      by_cases hi : i < l.length * 2
      · rw [if_pos hi]
        have hi2 : i < d'.toList.length * 2 := by omega
        have hc : i < cur.size := by
          rw [hcs]
          have : l.length * 2 ≤ cap * 2 := Nat.mul_le_mul_right _ hnc
          omega
        have h3 := flat_get d'.toList i hi2
        rw [h3]
        have hf : i < (flatK encG 2 d').size := by rw [size_flatK]; omega
        simp only [putCells, Array.getElem?_toList, Array.getElem?_mapIdx, Array.getElem?_eq_getElem hc, Option.map_some]
        rw [if_pos ⟨Nat.zero_le _, by omega⟩]
        simp
      · rw [if_neg hi]
        exact (List.getElem?_eq_none (by rw [vgp_len]; omega)).symm
  · refine ⟨rfl, rfl, rfl, ?_, fun k hk hkg => ?_⟩
    · unfold sortWorldK putRowK putRow
      simp [mapBlock, ahead, grow]
    · unfold sortWorldK putRowK putRow
      rw [heap_grow_old _ _ (by simp [mapBlock, ahead]; exact hk)]
      simp [mapBlock, ahead, Array.getElem?_modify, Ne.symm hkg]
end Go.Proofs.Ytccjgciknaooaaa
