/- dryrotref16.Copy; append onto a row of one's own, whatever is appended. -/
import Derived.Test.YtpbicnpaldfamaaPlW
import Derived.Test.YtpbicnpaldfamaaPlY
import Derived.Laws.OwnMore
import Derived.Laws.AppendOwnNone
namespace Go.Proofs.Ytpbicnpaldfamaa
open Go.RowKit Go.Joins
set_option linter.unusedVariables false

theorem app_none {P : Program} {w : World} (base : Nat) (t ty e : TypeId) (i : TypeInfo) (size : Nat) (ht : P.underlying t = some (.slice e)) (hi : P.info? e = some i)
    (v : Value) (n c : Nat) (xs : List Value) (hown : w.ownsRow base e size v n xs) : (Builtin.append_ #[t, t] ty #[v, .slice none 0 c]).run P w = .ok v w := by
  rcases hown.2 with ⟨rfl, rfl⟩ | ⟨g, cap, cur, rfl, _, _, hnc, _⟩
  · simp [Builtin.append_, run_underlying ht, sizeOf, typeInfo, hi, Builtin.lenOf, Builtin.firstCells]
  · simp [Builtin.append_, run_underlying ht, sizeOf, typeInfo, hi, Builtin.lenOf, Builtin.firstCells, hnc, storeCells]

theorem appA {P : Program} (w : World) (base : Nat) (t ty e : TypeId) (i : TypeInfo) (z : Value) (size bytes : Nat) (ht : P.underlying t = some (.slice e)) (hi : P.info? e = some i) (hz : i.zero = some z)
    (hsize : i.size = size) (hby : i.bytes = bytes) (hzs : z.cells.size = size) (hsz : 0 < size)
    (v : Value) (n : Nat) (xs : List Value) (hown : w.ownsRow base e size v n xs) (hbase : base ≤ w.heap.size)
    (aa : Option Addr) (m c : Nat) (news : List Value) (hl : news.length = m * size) (h0 : aa = none → m = 0) (hnews : ∀ x, aa = some x → ∀ j u, news[j]? = some u → w.cell? (x.add j) = some u) (h1 : ∀ u ∈ news, u.oneCell' = true)
    (h63 : n + m ≤ maxLen) (hbytes : (n + m) * bytes ≤ 140737488355328) :
    ∃ v' w', (Builtin.append_ #[t, t] ty #[v, .slice aa m c]).run P w = .ok v' w' ∧ w'.ownsRow base e size v' (n + m) (xs ++ news) ∧ w.grownBy w' v.ownBlock := by
  cases aa with
  | none =>
    obtain rfl := h0 rfl
    have hn : news = [] := by
      cases news with
      | nil => rfl
      | cons _ _ => simp at hl
    subst hn
    exact ⟨v, w, app_none base t ty e i size ht hi v n c xs hown, by simpa using hown, ⟨rfl, rfl, rfl, Nat.le_refl _, fun _ _ _ => rfl⟩⟩
  | some x =>
    obtain ⟨v', w', r1, r2, r3, _⟩ := run_append_own (P := P) w base t ty e i z size bytes ht hi hz hsize hby hzs hsz v n xs hown x m c news hl (hnews x rfl) h1 h63 hbytes hbase
    exact ⟨v', w', r1, r2, r3⟩

theorem results_foot1 {fn : Func} {p : Tmp} (h : fn.results = #[.cell p 31]) (tmps : Array Value) (w : World) (g : Nat) (cs : Array Value)
    (hp : tmps.getD p undef = .pointer (some ⟨g, 0, none⟩)) (hg : w.heap[g]? = some (.cells cs 31 (0, 0))) (hs : cs.size = 8) :
    (results fn tmps).run Try.prog w = .ok (.agg cs) w := by
  have hp' : tmps[p]?.getD undef = .pointer (some ⟨g, 0, none⟩) := by simpa using hp
  have hi : (Try.prog.info? 31).map (·.size) = some cs.size := by rw [hs]; kernel_rfl
  simp [results, h, hp', asAddr, run_loadVar_row w g 31 31 cs (0, 0) _ hg Try.underlying31 rfl hi]

def CopyP (w : World) (d : Fo) (e : Ending) (w' : World) : Prop := ∃ f : Fo, e = .returned f.agg ∧ f.pv = d.pv ∧ OwnP w' w.heap.size f ∧ Below w.heap.size w w'

set_option maxHeartbeats 1000000 in
set_option maxRecDepth 100000 in
theorem refCopy_any (d : Fo) (w : World) (h : Ils w d.pa d.pl d.ps) (hm : d.pl ≤ 1048576) : Calls Try.prog 16 #[d.agg] w (CopyP w d) := by
  obtain ⟨i0, z, hi, hz0, hz1, hz2, hzc⟩ := iInfo
  obtain ⟨nu, ge, lv, rk, mn, mx, bt, pa, pl, pc, ps⟩ := d
  simp only at h hm
  simp only [Fo.agg]
  obtain ⟨wA, hwA⟩ : ∃ wA, wA = w.alloc (.cells #[.int .i64 nu, .int .i64 ge, .int .i64 lv, .int .i64 rk, .int .i64 mn, .int .i64 mx, .int .i64 bt, .slice pa pl pc] 31) := ⟨_, rfl⟩
  have bA : Below w.heap.size w wA := by rw [hwA]; exact (Below.refl _ w).alloc (Nat.le_refl _) _
  have sA : wA.heap.size = w.heap.size + 1 := by rw [hwA]; simp
  have qA : wA.heap[w.heap.size]? = some (.cells #[.int .i64 nu, .int .i64 ge, .int .i64 lv, .int .i64 rk, .int .i64 mn, .int .i64 mx, .int .i64 bt, .slice pa pl pc] 31 (0, 0)) := by rw [hwA]; exact heap_alloc_new w _
  obtain ⟨wB, hwB⟩ : ∃ wB, wB = wA.alloc (.cells #[.int .i64 0, .int .i64 0, .int .i64 0, .int .i64 0, .int .i64 0, .int .i64 0, .int .i64 0, .slice none 0 0] 31) := ⟨_, rfl⟩
  have bB : Below wA.heap.size wA wB := by rw [hwB]; exact (Below.refl _ wA).alloc (Nat.le_refl _) _
  have sB : wB.heap.size = w.heap.size + 2 := by rw [hwB]; simp [sA]
  have qB : wB.heap[w.heap.size + 1]? = some (.cells #[.int .i64 0, .int .i64 0, .int .i64 0, .int .i64 0, .int .i64 0, .int .i64 0, .int .i64 0, .slice none 0 0] 31 (0, 0)) := by rw [hwB, ← sA]; exact heap_alloc_new wA _
  have qA2 := (bB.block _ (by omega)).trans qA
  obtain ⟨wC, hwC⟩ : ∃ wC, wC = wB.alloc (.cells #[] 3) := ⟨_, rfl⟩
  have bC : Below wB.heap.size wB wC := by rw [hwC]; exact (Below.refl _ wB).alloc (Nat.le_refl _) _
  have qA3 := (bC.block _ (by omega)).trans qA2
  have qB3 := (bC.block _ (by omega)).trans qB
  have hown : wC.ownsRow w.heap.size 3 1 (.slice (some ⟨w.heap.size + 2, 0, none⟩) 0 0) 0 [] := by
    have := World.ownsRow_lit (base := w.heap.size) (e := 3) (size := 1) wB #[] 0 (by omega) (Nat.zero_le _) rfl
    rw [← hwC, sB] at this
    exact this
  have BC : Below w.heap.size w wC := (bA.trans (bB.mono (by omega))).trans (bC.mono (by omega))
  have hIC := h.below BC
  have hsC : w.heap.size ≤ wC.heap.size := BC.size
  obtain ⟨v', w1, hrun, hown1, hgr⟩ := appA wC w.heap.size 29 29 3 i0 z 1 8 Try.underlying29 hi hz0 hz1 hz2 hzc (by decide) _ 0 [] hown hsC pa pl pc (ivs ps) (by rw [ivs_length, hIC.1, Nat.mul_one]) hIC.2.2.1 (fun x hx j u hj => by
      unfold ivs at hj
      rw [List.getElem?_map] at hj
      cases hq : ps[j]? with
      | none => rw [hq] at hj; cases hj
      | some y =>
        rw [hq] at hj
        cases hj
        exact hIC.2.2.2 x hx j y hq) (fun u hu => by
      unfold ivs at hu
      obtain ⟨y, _, rfl⟩ := List.mem_map.1 hu
      rfl) (by unfold maxLen; omega) (by omega)
  rw [Nat.zero_add, List.nil_append] at hown1
  obtain ⟨a3, c3, rfl⟩ := own_slice hown1
  have hlc := (Array.getElem?_eq_some_iff.1 qB3).1
  have hlA := (Array.getElem?_eq_some_iff.1 qA3).1
  have q1 : w1.heap[w.heap.size]? = some (.cells #[.int .i64 nu, .int .i64 ge, .int .i64 lv, .int .i64 rk, .int .i64 mn, .int .i64 mx, .int .i64 bt, .slice pa pl pc] 31 (0, 0)) := (hgr.block _ hlA (by intro e; simp [Value.ownBlock] at e)).trans qA3
  have q2 : w1.heap[w.heap.size + 1]? = some (.cells #[.int .i64 0, .int .i64 0, .int .i64 0, .int .i64 0, .int .i64 0, .int .i64 0, .int .i64 0, .slice none 0 0] 31 (0, 0)) := (hgr.block _ hlc (by intro e; simp [Value.ownBlock] at e)).trans qB3
  have B1 : Below w.heap.size w w1 := BC.grown hgr hsC (fun k hk => by simp [Value.ownBlock] at hk; omega)
  obtain ⟨w2, hw2⟩ : ∃ w2, w2 = w1.setCell ⟨w.heap.size, 7, none⟩ (.slice a3 pl c3) := ⟨_, rfl⟩
  have q3 : w2.heap[w.heap.size + 1]? = some (.cells #[.int .i64 0, .int .i64 0, .int .i64 0, .int .i64 0, .int .i64 0, .int .i64 0, .int .i64 0, .slice none 0 0] 31 (0, 0)) := by rw [hw2, Below.heap_setCell _ _ _ _ (by simp)]; exact q2
  have q4 : w2.heap[w.heap.size]? = some (.cells #[.int .i64 nu, .int .i64 ge, .int .i64 lv, .int .i64 rk, .int .i64 mn, .int .i64 mx, .int .i64 bt, .slice a3 pl c3] 31 (0, 0)) := by
    rw [hw2]
    simpa using block_setCell (i := 7) q1 (.slice a3 pl c3)
  have B2 : Below w.heap.size w w2 := by rw [hw2]; exact B1.setCell (p := ⟨w.heap.size, 7, none⟩) (Nat.le_refl _) _
  have own2 : w2.ownsRow w.heap.size 3 1 (.slice a3 pl c3) pl (ivs ps) := by
    rw [hw2]
    refine own_setCell hown1 (fun e => ?_) _
    rcases hown1.2 with ⟨h1, h2⟩ | ⟨g, cap, cur, h1, hb1, hg1, _⟩
    · rw [h1] at e; cases e
    · rw [h1] at e
      injection e with e
      have e' : g = w.heap.size := e
      rw [e', q1] at hg1
      injection hg1 with hg1
      injection hg1 with _ e2 _
      exact absurd e2 (by decide)
  have hst : ∀ o, w1.frozen? ⟨w.heap.size, o, none⟩ = false := fun o => unfro q1
  have hsz : ∀ o, w1.frozen? ⟨w.heap.size + 1, o, none⟩ = false := fun o => unfro q2
  have e0 : w1.cell? ⟨w.heap.size, 0, none⟩ = some (.int .i64 nu) := cell_of_row _ _ _ _ _ _ q1
  have e1 : w1.cell? ⟨w.heap.size, 1, none⟩ = some (.int .i64 ge) := cell_of_row _ _ _ _ _ _ q1
  have e2 : w1.cell? ⟨w.heap.size, 2, none⟩ = some (.int .i64 lv) := cell_of_row _ _ _ _ _ _ q1
  have e3 : w1.cell? ⟨w.heap.size, 3, none⟩ = some (.int .i64 rk) := cell_of_row _ _ _ _ _ _ q1
  have e4 : w1.cell? ⟨w.heap.size, 4, none⟩ = some (.int .i64 mn) := cell_of_row _ _ _ _ _ _ q1
  have e5 : w1.cell? ⟨w.heap.size, 5, none⟩ = some (.int .i64 mx) := cell_of_row _ _ _ _ _ _ q1
  have e6 : w1.cell? ⟨w.heap.size, 6, none⟩ = some (.int .i64 bt) := cell_of_row _ _ _ _ _ _ q1
  have e7 : w1.cell? ⟨w.heap.size, 7, none⟩ = some (.slice pa pl pc) := cell_of_row _ _ _ _ _ _ q1
  have z0 : w1.cell? ⟨w.heap.size + 1, 0, none⟩ = some (.int .i64 0) := cell_of_row _ _ _ _ _ _ q2
  have z1 : w1.cell? ⟨w.heap.size + 1, 1, none⟩ = some (.int .i64 0) := cell_of_row _ _ _ _ _ _ q2
  have z2 : w1.cell? ⟨w.heap.size + 1, 2, none⟩ = some (.int .i64 0) := cell_of_row _ _ _ _ _ _ q2
  have z3 : w1.cell? ⟨w.heap.size + 1, 3, none⟩ = some (.int .i64 0) := cell_of_row _ _ _ _ _ _ q2
  have z4 : w1.cell? ⟨w.heap.size + 1, 4, none⟩ = some (.int .i64 0) := cell_of_row _ _ _ _ _ _ q2
  have z5 : w1.cell? ⟨w.heap.size + 1, 5, none⟩ = some (.int .i64 0) := cell_of_row _ _ _ _ _ _ q2
  have z6 : w1.cell? ⟨w.heap.size + 1, 6, none⟩ = some (.int .i64 0) := cell_of_row _ _ _ _ _ _ q2
  have z7 : w1.cell? ⟨w.heap.size + 1, 7, none⟩ = some (.slice none 0 0) := cell_of_row _ _ _ _ _ _ q2
  obtain ⟨⟨k0, k1, k2, k3, k4, k5, k6, k7⟩, kf, kh, kb⟩ := fin8 q3 (.int .i64 nu) (.int .i64 ge) (.int .i64 lv) (.int .i64 rk) (.int .i64 mn) (.int .i64 mx) (.int .i64 bt) (.slice a3 pl c3)
  rw [hw2] at kh kb
  have KH := hidn kh
  have KB := hidn (kb w.heap.size w (by rw [← hw2]; exact B2) (by omega))
  have KO : Hid (((((((((w1.setCell ⟨w.heap.size, 7, none⟩ (.slice a3 pl c3)).setCell ⟨w.heap.size + 1, 0, none⟩ (.int .i64 nu)).setCell ⟨w.heap.size + 1, 1, none⟩ (.int .i64 ge)).setCell ⟨w.heap.size + 1, 2, none⟩ (.int .i64 lv)).setCell ⟨w.heap.size + 1, 3, none⟩ (.int .i64 rk)).setCell ⟨w.heap.size + 1, 4, none⟩ (.int .i64 mn)).setCell ⟨w.heap.size + 1, 5, none⟩ (.int .i64 mx)).setCell ⟨w.heap.size + 1, 6, none⟩ (.int .i64 bt)).setCell ⟨w.heap.size + 1, 7, none⟩ (.slice a3 pl c3) |>.ownsRow w.heap.size 3 1 (.slice a3 pl c3) pl (ivs ps)) := hidn (by
    have hne : ∀ o, (Value.slice a3 pl c3).ownBlock ≠ some (⟨w.heap.size + 1, o, none⟩ : Addr).block := fun o e => by
      rcases own2.2 with ⟨h1, h2⟩ | ⟨g, cap, cur, h1, hb1, hg1, _⟩
      · rw [h1] at e; cases e
      · rw [h1] at e
        injection e with e
        have e' : g = w.heap.size + 1 := e
        rw [e', q3] at hg1
        injection hg1 with hg1
        injection hg1 with _ e2 _
        exact absurd e2 (by decide)
    rw [← hw2]
    exact own_setCell (own_setCell (own_setCell (own_setCell (own_setCell (own_setCell (own_setCell (own_setCell own2 (hne 0) _) (hne 1) _) (hne 2) _) (hne 3) _) (hne 4) _) (hne 5) _) (hne 6) _) (hne 7) _)
  have HRUN := hidn hrun
  have HWC : Hid (((w.alloc (.cells #[.int .i64 nu, .int .i64 ge, .int .i64 lv, .int .i64 rk, .int .i64 mn, .int .i64 mx, .int .i64 bt, .slice pa pl pc] 31)).alloc (.cells #[.int .i64 0, .int .i64 0, .int .i64 0, .int .i64 0, .int .i64 0, .int .i64 0, .int .i64 0, .slice none 0 0] 31)).alloc (.cells #[] 3) = wC) := hidn (by rw [hwC, hwB, hwA])
  have hpl := hidn h.1
  clear hw2 kh kb k0 k1 k2 k3 k4 k5 k6 k7 kf q1 q2 q3 q4 own2 hown1 hgr hown hIC hrun qA qA2 qA3 qB qB3 hwA hwB hwC B1 B2 BC bA bB bC sA sB hsC hlc hlA
  go_enter Try.func16, Try.ntmps16
  go_wp2_with (at_builtin; rw [HWC.out]; refine wpList_app_run2 rfl _ _ 29 29 rfl rfl (.slice (some ⟨w.heap.size + 2, 0, none⟩) 0 0) _ _ rfl rfl HRUN.out ?_; clear HRUN)
  exact bodyPost_ret (v := (⟨nu, ge, lv, rk, mn, mx, bt, a3, pl, c3, ps⟩ : Fo).agg) (results_foot1 rfl _ _ (w.heap.size + 1) #[.int .i64 nu, .int .i64 ge, .int .i64 lv, .int .i64 rk, .int .i64 mn, .int .i64 mx, .int .i64 bt, .slice a3 pl c3] (by kernel_rfl) KH.out rfl) rfl ⟨⟨nu, ge, lv, rk, mn, mx, bt, a3, pl, c3, ps⟩, rfl, rfl, ⟨KO.out, hpl.out⟩, KB.out⟩

end Go.Proofs.Ytpbicnpaldfamaa
