/- head at one row: clones, rises, rising. -/
import Derived.Test.YtbobhekbfaghpaaGreatLabDrawn
import Derived.Laws.AppendOwn
import Derived.Lib.SmallJoins
namespace Go.Proofs.YtbobhekbfaghpaaGreat
open Go.RowKit Go.Joins
set_option linter.unusedVariables false

theorem own_slice {w : World} {base e size n : Nat} {v : Value} {xs : List Value} (h : w.ownsRow base e size v n xs) : ∃ a c, v = .slice a n c := by
  rcases h.2 with ⟨h1, h2⟩ | ⟨g, cap, cur, h1, _⟩
  · exact ⟨none, 0, by rw [h1, h2]⟩
  · exact ⟨_, _, h1⟩

theorem own_skip {w w' : World} {base e size n : Nat} {v : Value} {xs : List Value} (h : w.ownsRow base e size v n xs) (hb : Below w.heap.size w w') : w'.ownsRow base e size v n xs := by
  refine ⟨h.1, ?_⟩
  rcases h.2 with hn | ⟨g, cap, cur, rfl, hbb, hgg, rest⟩
  · exact .inl hn
  · exact .inr ⟨g, cap, cur, rfl, hbb, by rw [hb.block g (Array.getElem?_eq_some_iff.1 hgg).1]; exact hgg, rest⟩

/-- One thing of so many cells, in a slice. -/
def One (w : World) (v : Value) (cs : List Value) : Prop := ∃ b off c, v = .slice (some ⟨b, off, none⟩) 1 c ∧ 1 ≤ c ∧ ∀ i u, cs[i]? = some u → w.cell? ⟨b, off + i, none⟩ = some u

theorem One.below {w w' : World} {v : Value} {cs : List Value} (h : One w v cs) (hb : Below w.heap.size w w') : One w' v cs := by
  obtain ⟨b, off, c, rfl, hc, h1⟩ := h
  exact ⟨b, off, c, rfl, hc, fun i u hu => (hb.cell (block_lt_of_cell (h1 i u hu))).trans (h1 i u hu)⟩

theorem one_of_own {w : World} {base e size : Nat} {v : Value} {cs : List Value} (h : w.ownsRow base e size v 1 cs) : One w v cs := by
  have h' := h
  rcases h.2 with ⟨_, h0⟩ | ⟨g, cap, cur, rfl, hg, hh, hnc, hcm, hcs, htk⟩
  · cases h0
  · refine ⟨g, 0, cap, rfl, hnc, fun i u hu => ?_⟩
    have := h'.cells (g := g) rfl i u hu
    rw [ladd_none] at this
    exact this

theorem laInfo1 : ∃ i0 z, Tryz.prog.info? 60 = some i0 ∧ i0.zero = some z ∧ i0.size = 2 ∧ i0.bytes = 32 ∧ z.cells.size = 2 := by
  have h : (Tryz.prog.info? 60).map (fun i => (i.zero, i.size, i.bytes)) = some (some (.agg #[.string ⟨#[]⟩, .string ⟨#[]⟩]), 2, 32) := by kernel_rfl
  cases hi : Tryz.prog.info? 60 with
  | none => rw [hi] at h; cases h
  | some i0 =>
    rw [hi] at h
    simp only [Option.map_some, Option.some.injEq, Prod.mk.injEq] at h
    exact ⟨i0, _, rfl, h.1, h.2.1, h.2.2, rfl⟩

set_option maxHeartbeats 600000 in
theorem laClone1 (w : World) (v : Value) (cs : List Value) (h : One w v cs) (hl : cs.length = 2) (h1 : ∀ u ∈ cs, u.oneCell' = true) :
    Calls Tryz.prog 20 #[v] w fun e w' => ∃ v, e = .returned v ∧ w'.ownsRow w.heap.size 60 2 v 1 cs ∧ Below w.heap.size w w' := by
  obtain ⟨i0, z, hi, hz0, hz1, hz2, hzc⟩ := laInfo1
  obtain ⟨b, off, c, rfl, hc1, hcc⟩ := h
  have heq := fun (wx : World) (aa : Option Addr) (n c : Nat) => Lib.run_eql_slice_nil (P := Tryz.prog) wx 41 60 aa n c 0 0 Tryz.underlying41
  have hown := World.ownsRow_lit (base := w.heap.size) (e := 60) (size := 2) w #[] 0 (Nat.le_refl _) (Nat.zero_le _) rfl
  have HC : Hid (∀ (j : Nat) (u : Value), cs[j]? = some u → (w.alloc (.cells #[] 60)).cell? ((⟨b, off, none⟩ : Addr).add j) = some u) := hidn (fun j u hj => by
    rw [ladd_none]
    exact Lib.cell?_alloc_some _ (hcc j u hj))
  have H1 := hidn h1
  have HL : Hid (cs.length = 1 * 2) := hidn (by rw [hl])
  clear hcc h1 hl
  go_enter Tryz.func20, Tryz.ntmps20
  go_wp2_with (at_builtin; refine wpList_append_own _ rfl _ _ 41 rfl w.heap.size 60 i0 z 2 32 Tryz.underlying41 hi hz0 hz1 hz2 hzc (by decide) _ 0 [] rfl hown ⟨b, off, none⟩ 1 c cs rfl HL.out HC.out H1.out (by decide) (by decide) (by simp) ?_)
  intro v' w1 hown1 hgrow1 _
  clear hown
  go_wp2
  go_ret
  refine ⟨_, rfl, by simpa using hown1, ?_⟩
  refine ((Below.refl _ _).alloc (Nat.le_refl _) _).grown hgrow1 (by simp) ?_
  intro k hk
  simp [Value.ownBlock] at hk
  omega

theorem saInfo1 : ∃ i0 z, Tryz.prog.info? 63 = some i0 ∧ i0.zero = some z ∧ i0.size = 2 ∧ i0.bytes = 16 ∧ z.cells.size = 2 := by
  have h : (Tryz.prog.info? 63).map (fun i => (i.zero, i.size, i.bytes)) = some (some (.agg #[.int .i64 0, .int .u64 0]), 2, 16) := by kernel_rfl
  cases hi : Tryz.prog.info? 63 with
  | none => rw [hi] at h; cases h
  | some i0 =>
    rw [hi] at h
    simp only [Option.map_some, Option.some.injEq, Prod.mk.injEq] at h
    exact ⟨i0, _, rfl, h.1, h.2.1, h.2.2, rfl⟩

set_option maxHeartbeats 600000 in
theorem saClone1 (w : World) (v : Value) (cs : List Value) (h : One w v cs) (hl : cs.length = 2) (h1 : ∀ u ∈ cs, u.oneCell' = true) :
    Calls Tryz.prog 21 #[v] w fun e w' => ∃ v, e = .returned v ∧ w'.ownsRow w.heap.size 63 2 v 1 cs ∧ Below w.heap.size w w' := by
  obtain ⟨i0, z, hi, hz0, hz1, hz2, hzc⟩ := saInfo1
  obtain ⟨b, off, c, rfl, hc1, hcc⟩ := h
  have heq := fun (wx : World) (aa : Option Addr) (n c : Nat) => Lib.run_eql_slice_nil (P := Tryz.prog) wx 48 63 aa n c 0 0 Tryz.underlying48
  have hown := World.ownsRow_lit (base := w.heap.size) (e := 63) (size := 2) w #[] 0 (Nat.le_refl _) (Nat.zero_le _) rfl
  have HC : Hid (∀ (j : Nat) (u : Value), cs[j]? = some u → (w.alloc (.cells #[] 63)).cell? ((⟨b, off, none⟩ : Addr).add j) = some u) := hidn (fun j u hj => by
    rw [ladd_none]
    exact Lib.cell?_alloc_some _ (hcc j u hj))
  have H1 := hidn h1
  have HL : Hid (cs.length = 1 * 2) := hidn (by rw [hl])
  clear hcc h1 hl
  go_enter Tryz.func21, Tryz.ntmps21
  go_wp2_with (at_builtin; refine wpList_append_own _ rfl _ _ 48 rfl w.heap.size 63 i0 z 2 16 Tryz.underlying48 hi hz0 hz1 hz2 hzc (by decide) _ 0 [] rfl hown ⟨b, off, none⟩ 1 c cs rfl HL.out HC.out H1.out (by decide) (by decide) (by simp) ?_)
  intro v' w1 hown1 hgrow1 _
  clear hown
  go_wp2
  go_ret
  refine ⟨_, rfl, by simpa using hown1, ?_⟩
  refine ((Below.refl _ _).alloc (Nat.le_refl _) _).grown hgrow1 (by simp) ?_
  intro k hk
  simp [Value.ownBlock] at hk
  omega

theorem seInfo1 : ∃ i0 z, Tryz.prog.info? 50 = some i0 ∧ i0.zero = some z ∧ i0.size = 2 ∧ i0.bytes = 48 ∧ z.cells.size = 2 := by
  have h : (Tryz.prog.info? 50).map (fun i => (i.zero, i.size, i.bytes)) = some (some (.agg #[.slice none 0 0, .slice none 0 0]), 2, 48) := by kernel_rfl
  cases hi : Tryz.prog.info? 50 with
  | none => rw [hi] at h; cases h
  | some i0 =>
    rw [hi] at h
    simp only [Option.map_some, Option.some.injEq, Prod.mk.injEq] at h
    exact ⟨i0, _, rfl, h.1, h.2.1, h.2.2, rfl⟩

set_option maxHeartbeats 600000 in
theorem seClone1 (w : World) (v : Value) (cs : List Value) (h : One w v cs) (hl : cs.length = 2) (h1 : ∀ u ∈ cs, u.oneCell' = true) :
    Calls Tryz.prog 47 #[v] w fun e w' => ∃ v, e = .returned v ∧ w'.ownsRow w.heap.size 50 2 v 1 cs ∧ Below w.heap.size w w' := by
  obtain ⟨i0, z, hi, hz0, hz1, hz2, hzc⟩ := seInfo1
  obtain ⟨b, off, c, rfl, hc1, hcc⟩ := h
  have heq := fun (wx : World) (aa : Option Addr) (n c : Nat) => Lib.run_eql_slice_nil (P := Tryz.prog) wx 35 50 aa n c 0 0 Tryz.underlying35
  have hown := World.ownsRow_lit (base := w.heap.size) (e := 50) (size := 2) w #[] 0 (Nat.le_refl _) (Nat.zero_le _) rfl
  have HC : Hid (∀ (j : Nat) (u : Value), cs[j]? = some u → (w.alloc (.cells #[] 50)).cell? ((⟨b, off, none⟩ : Addr).add j) = some u) := hidn (fun j u hj => by
    rw [ladd_none]
    exact Lib.cell?_alloc_some _ (hcc j u hj))
  have H1 := hidn h1
  have HL : Hid (cs.length = 1 * 2) := hidn (by rw [hl])
  clear hcc h1 hl
  go_enter Tryz.func47, Tryz.ntmps47
  go_wp2_with (at_builtin; refine wpList_append_own _ rfl _ _ 35 rfl w.heap.size 50 i0 z 2 48 Tryz.underlying35 hi hz0 hz1 hz2 hzc (by decide) _ 0 [] rfl hown ⟨b, off, none⟩ 1 c cs rfl HL.out HC.out H1.out (by decide) (by decide) (by simp) ?_)
  intro v' w1 hown1 hgrow1 _
  clear hown
  go_wp2
  go_ret
  refine ⟨_, rfl, by simpa using hown1, ?_⟩
  refine ((Below.refl _ _).alloc (Nat.le_refl _) _).grown hgrow1 (by simp) ?_
  intro k hk
  simp [Value.ownBlock] at hk
  omega

set_option maxHeartbeats 600000 in
theorem saRises1 (a : Option Addr) (c : Nat) (vf : Value) (w : World) :
    Calls Tryz.prog 72 #[.slice a 1 c, vf] w fun e w' => e = .returned (.bool true) ∧ w' = w := by
  go_enter Tryz.func72, Tryz.ntmps72
  go_wp2_with fail
  go_loopw [5] (fun iv wr => iv = .int .i64 1 ∧ Hid (w = wr)) (fun _ _ => 0)
  case atStart => exact ⟨rfl, hidn rfl⟩
  case round =>
    obtain ⟨rfl, hw⟩ := hrel
    obtain rfl := hw.out
    clear hw
    go_wp2_with fail
    exact bodyPost_ret (v := .bool true) (by simp [results, Tryz.results72, go_sem]) rfl ⟨rfl, rfl⟩

set_option maxHeartbeats 600000 in
theorem saRising1 (w : World) (v vf vj : Value) (cs : List Value) (h : One w v cs) (hl : cs.length = 2) (h1 : ∀ u ∈ cs, u.oneCell' = true) :
    Calls Tryz.prog 49 #[v, vf, vj] w fun e w' => ∃ v, e = .returned v ∧ w'.ownsRow w.heap.size 63 2 v 1 cs ∧ Below w.heap.size w w' := by
  have HC := hidn (saClone1 w v cs h hl h1)
  obtain ⟨b, off, c, rfl, -, -⟩ := h
  clear h1 hl
  go_enter Tryz.func49, Tryz.ntmps49
  go_wp2_with fail
  refine (saRises1 _ _ _ _).mono ?_
  rintro e w1 ⟨rfl, rfl⟩
  go_wp2_with fail
  refine HC.out.mono ?_
  rintro e w2 ⟨v2, rfl, o2, b2⟩
  go_wp2_with fail
  exact bodyPost_ret (v := v2) (by simp [results, Tryz.results49, go_sem]) rfl ⟨_, rfl, o2, b2⟩

set_option maxHeartbeats 600000 in
theorem seRises1 (a : Option Addr) (c : Nat) (vf : Value) (w : World) :
    Calls Tryz.prog 46 #[.slice a 1 c, vf] w fun e w' => e = .returned (.bool true) ∧ w' = w := by
  go_enter Tryz.func46, Tryz.ntmps46
  go_wp2_with fail
  go_loopw [5] (fun iv wr => iv = .int .i64 1 ∧ Hid (w = wr)) (fun _ _ => 0)
  case atStart => exact ⟨rfl, hidn rfl⟩
  case round =>
    obtain ⟨rfl, hw⟩ := hrel
    obtain rfl := hw.out
    clear hw
    go_wp2_with fail
    exact bodyPost_ret (v := .bool true) (by simp [results, Tryz.results46, go_sem]) rfl ⟨rfl, rfl⟩

set_option maxHeartbeats 600000 in
theorem seRising1 (w : World) (v vf vj : Value) (cs : List Value) (h : One w v cs) (hl : cs.length = 2) (h1 : ∀ u ∈ cs, u.oneCell' = true) :
    Calls Tryz.prog 27 #[v, vf, vj] w fun e w' => ∃ v, e = .returned v ∧ w'.ownsRow w.heap.size 50 2 v 1 cs ∧ Below w.heap.size w w' := by
  have HC := hidn (seClone1 w v cs h hl h1)
  obtain ⟨b, off, c, rfl, -, -⟩ := h
  clear h1 hl
  go_enter Tryz.func27, Tryz.ntmps27
  go_wp2_with fail
  refine (seRises1 _ _ _ _).mono ?_
  rintro e w1 ⟨rfl, rfl⟩
  go_wp2_with fail
  refine HC.out.mono ?_
  rintro e w2 ⟨v2, rfl, o2, b2⟩
  go_wp2_with fail
  exact bodyPost_ret (v := v2) (by simp [results, Tryz.results27, go_sem]) rfl ⟨_, rfl, o2, b2⟩

end Go.Proofs.YtbobhekbfaghpaaGreat
