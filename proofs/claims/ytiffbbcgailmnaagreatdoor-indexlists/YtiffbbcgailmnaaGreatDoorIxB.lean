/- index: rising, least, behind. -/
import Derived.Test.YtiffbbcgailmnaaGreatDoorIxA
import Derived.Test.YtiffbbcgailmnaaGreatDoorPlA
import Derived.Test.YtiffbbcgailmnaaGreatDoorAppA
import Derived.Test.YtiffbbcgailmnaaGreatDoorIxShelf
import Derived.Lib.OwnBridge
import Derived.Lib.SlicesCompact
import Derived.Shelf.Slices.In.SortNone
namespace Go.Proofs.YtiffbbcgailmnaaGreatDoor
open Go.RowKit Go.Joins
set_option linter.unusedVariables false

theorem ivs_length' (l : List Int) : (ivs l).length = l.length := by simp [ivs]

set_option maxHeartbeats 300000 in
theorem ixClone_any (a : Option Addr) (len cap : Nat) (l : List Int) (w : World) (h : Ils w a len l) (hm : len * 8 ≤ 140737488355328) :
    Calls Tryz.prog 4 #[.slice a len cap] w fun e w' => ∃ v, e = .returned v ∧ w'.ownsRow w.heap.size 3 1 v len (ivs l) ∧ Below w.heap.size w w' := by
  obtain ⟨i0, z, hi, hz0, hz1, hz2, hzc⟩ := iInfo
  have heq := fun (wx : World) (aa : Option Addr) (n c : Nat) => Lib.run_eql_slice_nil (P := Tryz.prog) wx 22 3 aa n c 0 0 Tryz.underlying22
  cases a with
  | none =>
    have h0 := h.2.2.1 rfl
    subst h0
    obtain rfl : l = [] := List.length_eq_zero_iff.1 h.1
    go_enter Tryz.func4, Tryz.ntmps4
    go_wp2_with fail
    exact bodyPost_ret (v := .slice none 0 0) (by simp [results, Tryz.results4, go_sem]) rfl ⟨_, rfl, World.ownsRow_nil _ _ _ _, Below.refl _ _⟩
  | some x =>
    have hown := World.ownsRow_lit (base := w.heap.size) (e := 3) (size := 1) w #[] 0 (Nat.le_refl _) (Nat.zero_le _) rfl
    have HC : Hid (∀ (j : Nat) (u : Value), (ivs l)[j]? = some u → (w.alloc (.cells #[] 3)).cell? (x.add j) = some u) := hidn (fun j u hj => by
      unfold ivs at hj
      rw [List.getElem?_map] at hj
      cases hq : l[j]? with
      | none => rw [hq] at hj; cases hj
      | some y =>
        rw [hq] at hj
        cases hj
        exact Lib.cell?_alloc_some _ (h.2.2.2 x rfl j y hq))
    have H1 : Hid (∀ u ∈ ivs l, u.oneCell' = true) := hidn (fun u hu => by
      unfold ivs at hu
      obtain ⟨y, _, rfl⟩ := List.mem_map.1 hu
      rfl)
    have HL : Hid ((ivs l).length = len * 1) := hidn (by rw [ivs_length', h.1, Nat.mul_one])
    have hmx : 0 + len ≤ maxLen := by unfold maxLen; omega
    have hmb : (0 + len) * 8 ≤ 140737488355328 := by omega
    clear h hm
    go_enter Tryz.func4, Tryz.ntmps4
    go_wp2_with (at_builtin; refine wpList_append_own _ rfl _ _ 22 rfl w.heap.size 3 i0 z 1 8 Tryz.underlying22 hi hz0 hz1 hz2 hzc (by decide) _ 0 [] rfl hown x len cap (ivs l) rfl HL.out HC.out H1.out hmx hmb (by simp) ?_)
    intro v' w1 hown1 hgrow1 _
    clear hown
    go_wp2
    go_ret
    refine ⟨_, rfl, by simpa using hown1, ?_⟩
    refine ((Below.refl _ _).alloc (Nat.le_refl _) _).grown hgrow1 (by simp) ?_
    intro k hk
    simp [Value.ownBlock] at hk
    omega

theorem ixSort_none (p : Option Addr) (cap : Nat) (w : World) : Calls Tryz.prog 31 #[.slice p 0 cap] w fun e w' => e = .returned (.tuple #[]) ∧ w' = w :=
  Go.Proofs.Any.slices_Sort_int_none Tryz.lays189 p cap w

theorem ixBelow_grow {B : Nat} {w0 w : World} (h : Below B w0 w) (hB : B ≤ w.heap.size) (os : Array Obj) : Below B w0 (Sort.grow w os) :=
  ⟨h.os, h.tape, h.output, by have := h.size; simp only [Sort.grow, Array.size_append]; omega, fun k hk => by
    rw [← h.block k hk]
    simp only [Sort.grow]
    exact Array.getElem?_append_left (by omega)⟩

theorem riseS_nil : riseS [] = [] := List.eq_nil_iff_forall_not_mem.2 (fun x h => by have := (riseS_mem [] x).1 h; cases this)

theorem riseS_len (l : List Int) : (riseS l).length ≤ l.length := by
  unfold riseS Lib.compact Lib.compactUpTo
  rw [List.length_map]
  refine Nat.le_trans (List.length_filter_le _ _) ?_
  rw [List.length_range, List.length_mergeSort]
  exact Nat.le_refl _

set_option maxHeartbeats 1000000 in
theorem ixRising_any (a : Option Addr) (len cap : Nat) (l : List Int) (w : World) (h : Ils w a len l) (hm : len ≤ 1000) :
    Calls Tryz.prog 20 #[.slice a len cap] w fun e w' => ∃ a' c', e = .returned (.slice a' (riseS l).length c') ∧ Ils w' a' (riseS l).length (riseS l) ∧ (riseS l).length ≤ c' ∧ Below w.heap.size w w' := by
  have HC := hidn (ixClone_any a len cap l w h (by omega))
  have hlen := h.1
  by_cases h0 : len = 0
  · subst h0
    obtain rfl : l = [] := List.length_eq_zero_iff.1 hlen
    rw [riseS_nil]
    clear h hlen
    go_enter Tryz.func20, Tryz.ntmps20
    go_wp2_with fail
    refine HC.out.mono ?_
    rintro e w1 ⟨v, rfl, o1, b1⟩
    obtain ⟨va, vc, rfl⟩ : ∃ va vc, v = Value.slice va 0 vc := by
      rcases o1.2 with ⟨h1, h2⟩ | ⟨g, cp, cur, h1, _⟩
      · exact ⟨none, 0, h1⟩
      · exact ⟨_, _, h1⟩
    have HB1 := hidn b1
    clear o1 b1
    go_wp2_with fail
    refine (ixSort_none va vc w1).mono ?_
    rintro e w2 ⟨rfl, rfl⟩
    go_wp2_with fail
    refine (Tryz.slices_Compact_int_empty va vc w2).mono ?_
    rintro e w3 ⟨rfl, rfl⟩
    go_wp2_with fail
    go_ret
    exact ⟨_, _, rfl, ⟨rfl, Nat.zero_le _, fun _ => rfl, fun x hx j c hj => by cases hj⟩, Nat.zero_le _, HB1.out⟩
  · have hl0 : 0 < len := by omega
    have HLN := hidn hlen
    clear h hlen
    go_enter Tryz.func20, Tryz.ntmps20
    go_wp2_with fail
    refine HC.out.mono ?_
    rintro e w1 ⟨v, rfl, o1, b1⟩
    obtain ⟨g, cp, rfl, hgw, hg1, hg2, hg3⟩ : ∃ g cp, v = Value.slice (some ⟨g, 0, none⟩) len cp ∧ w.heap.size ≤ g ∧ g < w1.heap.size ∧ len ≤ cp ∧ True := by
      rcases o1.2 with ⟨h1, h2⟩ | ⟨g, cp, cur, h1, h2, h3, h4, h5, h6, h7⟩
      · omega
      · exact ⟨g, cp, h1, h2, (Array.getElem?_eq_some_iff.1 h3).1, h4, trivial⟩
    have o1' : w1.ownsRow w.heap.size 3 1 (.slice (some ⟨g, 0, none⟩) l.length cp) l.length (l.map (Value.int .i64)) := by rw [HLN.out]; exact o1
    obtain ⟨g', cp', e9, hg1', hg2', -, -, -, hH⟩ := Lib.holds_of_ownsRow (enc := Value.int .i64) (zs := l) o1' (by simp)
    have hgg : g' = g := by
      injection e9 with e1 _ e3
      injection e1 with e1
      injection e1 with e1
      exact e1.symm
    subst hgg
    clear e9 o1 o1'
    have HS := hidn (Tryz.slices_Sort_int g' 0 cp l w1 hH hg2' (by rw [HLN.out]; omega))
    rw [HLN.out] at HS
    have HB1 := hidn b1
    clear b1
    go_wp2_with fail
    refine HS.out.mono ?_
    clear HS
    rintro e w2 ⟨rfl, n2, os2, hw2⟩
    obtain ⟨ys, hys⟩ : ∃ ys, ys = l.mergeSort fun x y => decide (x ≤ y) := ⟨_, rfl⟩
    have hyl : ys.length = len := by rw [hys, List.length_mergeSort, HLN.out]
    rw [← hys] at hw2
    have hH1 : Sort.Holds (Value.int .i64) (Sort.ahead w1 n2) g' 0 l.toArray := hH
    have hH2 : Sort.Holds (Value.int .i64) w2 g' 0 ys.toArray := by
      rw [hw2]
      refine Sort.holds_grow _ _ _ _ _ _ (by simpa using hg2') ?_
      exact Sort.holds_putRow _ _ _ _ l.toArray ys.toArray hH1 (by simp [hyl, HLN.out])
    have b2 : Below g' w1 w2 := by
      rw [hw2]
      refine ixBelow_grow (Lib.below_putRow (Below.refl _ _) (Nat.le_refl _)) ?_ _
      simpa using Nat.le_of_lt hg2'
    have HB2 : Hid (Below w.heap.size w w2) := hidn (HB1.out.trans (b2.mono hgw))
    have HCC := hidn (Tryz.slices_Compact_int g' 0 cp ys w2 hH2 (by omega) (by omega))
    rw [hyl] at HCC
    have HRS : Hid (riseS l = Lib.compact ys) := hidn (by unfold riseS; rw [← hys])
    have hcl : (Lib.compact ys).length ≤ len := by rw [← HRS.out, ← HLN.out]; exact riseS_len l
    have HHY := hidn hH2
    have HYL := hidn hyl
    obtain ⟨R, hR⟩ : ∃ R, R = Lib.compact ys := ⟨_, rfl⟩
    rw [← hR] at HCC hcl HRS
    obtain ⟨m, hm9⟩ : ∃ m, m = R.length := ⟨_, rfl⟩
    rw [← hm9] at HCC hcl
    have HM := hidn hm9
    clear hys hw2 hyl hR hm9 b2 hH1 hH2 hH
    go_wp2_with fail
    refine HCC.out.mono ?_
    rintro e w3 ⟨rfl, q3, hw3⟩
    have b3 : Below g' w2 w3 := by rw [hw3]; exact Lib.below_putRow (Below.refl _ _) (Nat.le_refl _)
    have HB3 := hidn (HB2.out.trans (b3.mono hgw))
    have hH3 : Sort.Holds (Value.int .i64) w3 g' 0 (R ++ List.replicate (len - m) 0).toArray := by
      rw [hw3]
      refine Sort.holds_putRow _ _ _ _ ys.toArray _ HHY.out ?_
      have := HYL.out
      have := HM.out
      simp
      omega
    have HI3 : Hid (Ils w3 (some ⟨g', 0, none⟩) m R) := hidn (by
      refine ⟨HM.out.symm, by unfold maxLen; omega, (fun e => by cases e), fun x hx j c hj => ?_⟩
      cases hx
      have hjr : j < R.length := (List.getElem?_eq_some_iff.1 hj).1
      have h8 := (hH3 j (by simp; omega)).1
      rw [add_none, h8]
      congr 2
      rw [getElem!_pos _ _ (by simp; omega)]
      have h7 := (List.getElem?_eq_some_iff.1 hj).2
      rw [← h7]
      simp [hjr])
    clear hw3 b3 hH3 HHY
    go_wp2_with fail
    go_ret
    exact ⟨some ⟨g', 0, none⟩, cp, (by rw [HRS.out, ← HM.out]; rfl), by rw [HRS.out, ← HM.out]; exact HI3.out, by rw [HRS.out, ← HM.out]; omega, HB3.out⟩

end Go.Proofs.YtiffbbcgailmnaaGreatDoor
