/- The fields of footers that came in are numbers of 64 bits; slices.Clone of footers. -/
import Derived.Test.YteammmhlpinhfaaFkH
import Derived.Test.YteammmhlpinhfaaPlOpen
namespace Go.Proofs.Yteammmhlpinhfaa
open Go.ChangeShapes Go.WideShapes Go.ChangeAt Go.RowKit
set_option linter.unusedVariables false

theorem fk_range {n : Int} (h : (Lit.int .i64 n).wf = true) : -9223372036854775808 ≤ n ∧ n ≤ 9223372036854775807 := by
  have h8 : (decide (IntKind.i64.min ≤ n) && decide (n ≤ IntKind.i64.max)) = true := h
  rw [show IntKind.i64.max = 9223372036854775807 from rfl, show IntKind.i64.min = -9223372036854775808 from rfl] at h8
  simp at h8
  exact h8

theorem opens_wf {H : Type} {enc : TypeId × Value → H} {W : World} {fuel : Nat} {d : DataW H} {p : List MemPlace} {a : Option Addr} {len cap : Nat} {l : List Fo}
    (hf : DataW.trod enc Try.prog W 0 (fun _ => true) true fuel 22 [.slice a len cap] = some (d, p)) (h : Fls W a len l) : ∀ f ∈ l, wfF f := by
  rcases Deep.open_slice Try.underlying22 hf with ⟨hcs, hx⟩ | ⟨x, l', c, m, n, D, Pl, hcs, _, hl, hm, hmm, hx, hcell⟩
  · simp at hcs
    obtain ⟨rfl, rfl, rfl⟩ := hcs
    intro f hf2
    have := h.1
    have : l = [] := List.length_eq_zero_iff.1 this
    subst this
    cases hf2
  · simp at hcs
    obtain ⟨rfl, rfl, rfl⟩ := hcs
    rw [show Try.prog.cellsOf 37 = 8 from by kernel_rfl] at hcell
    intro f hf2
    obtain ⟨i, hi, hfi⟩ := List.getElem_of_mem hf2
    have hi2 : l[i]? = some f := by rw [List.getElem?_eq_getElem hi, hfi]
    obtain ⟨cs', h1, h2⟩ := hcell i (by have := h.1; have hm9 : m = cap := (by simpa using hmm); omega)
    obtain ⟨_, hlen, hc⟩ := World.cells?_some h1
    have hfc := h.2.2.2.2 x rfl i f hi2
    match cs', hlen, h2, hc with
    | [y0, y1, y2, y3, y4, y5, y6, y7], _, h2, hc =>
      have hy : ∀ k, k < 8 → ([y0, y1, y2, y3, y4, y5, y6, y7] : List Value)[k]? = f.cells[k]? := by
        intro k hk
        obtain ⟨v, hv⟩ : ∃ v, f.cells[k]? = some v := ⟨_, List.getElem?_eq_getElem (by show k < 8; exact hk)⟩
        have e1 := hfc k v hv
        have e2 := hc k hk
        rw [Deep.add_add, e1] at e2
        rw [hv]
        exact e2.symm
      obtain ⟨n0, n1, n2, n3, n4, n5, n6, a7, l7, c7, f7, d7, p7, ⟨rfl, w0⟩, ⟨rfl, w1⟩, ⟨rfl, w2⟩, ⟨rfl, w3⟩, ⟨rfl, w4⟩, ⟨rfl, w5⟩, ⟨rfl, w6⟩, ⟨rfl, ht, _⟩⟩ := cells_foot h2
      have z0 : n0 = f.nu := by have := hy 0 (by omega); simpa [Fo.cells] using this
      have z1 : n1 = f.ge := by have := hy 1 (by omega); simpa [Fo.cells] using this
      have z2 : n2 = f.lv := by have := hy 2 (by omega); simpa [Fo.cells] using this
      have z3 : n3 = f.rk := by have := hy 3 (by omega); simpa [Fo.cells] using this
      have z4 : n4 = f.mn := by have := hy 4 (by omega); simpa [Fo.cells] using this
      have z5 : n5 = f.mx := by have := hy 5 (by omega); simpa [Fo.cells] using this
      have z6 : n6 = f.bt := by have := hy 6 (by omega); simpa [Fo.cells] using this
      intro q hq
      simp only [Fo.seven, List.mem_cons, List.not_mem_nil, or_false] at hq
      rcases hq with rfl | rfl | rfl | rfl | rfl | rfl | rfl
      · rw [← z0]; exact fk_range w0
      · rw [← z3]; exact fk_range w3
      · rw [← z1]; exact fk_range w1
      · rw [← z2]; exact fk_range w2
      · rw [← z6]; exact fk_range w6
      · rw [← z4]; exact fk_range w4
      · rw [← z5]; exact fk_range w5

theorem fk_fcells {w : World} {x : Addr} {n : Nat} {l : List Fo} (h : Fls w (some x) n l) : ∀ (j : Nat) (u : Value), (fvs l)[j]? = some u → w.cell? (x.add j) = some u := by
  intro j u hj
  have hjl : j < l.length * 8 := by rw [← fvs_length]; exact (List.getElem?_eq_some_iff.1 hj).1
  have hq : j / 8 < l.length := by omega
  have hr : j % 8 < 8 := Nat.mod_lt _ (by decide)
  obtain ⟨d, hd⟩ : ∃ d, l[j / 8]? = some d := ⟨_, List.getElem?_eq_getElem hq⟩
  obtain ⟨v, hv⟩ : ∃ v, d.cells[j % 8]? = some v := ⟨_, List.getElem?_eq_getElem (by show j % 8 < 8; exact hr)⟩
  have e : j = j / 8 * 8 + j % 8 := by omega
  have h6 := fvs_get l (j / 8) d hd (j % 8) v hv
  rw [← e, hj] at h6
  injection h6 with h6
  have h7 := h.2.2.2.2 x rfl (j / 8) d hd (j % 8) v hv
  rw [← e] at h7
  rw [h6]
  exact h7

theorem fk_fone (l : List Fo) : ∀ u ∈ fvs l, u.oneCell' = true := by
  intro u hu
  simp only [fvs, List.mem_flatten, List.mem_map] at hu
  obtain ⟨q, ⟨d, _, rfl⟩, hq⟩ := hu
  simp [Fo.cells] at hq
  rcases hq with rfl | rfl | rfl | rfl | rfl | rfl | rfl | rfl <;> rfl

theorem fk_set7 : ∀ (L : List Fo) (i : Nat) (d : Fo), L[i]? = some d → (fvs L).set (i * 8 + 7) (.slice none 0 0) = fvs (L.set i d.bare)
  | [], i, d, h => by simp at h
  | x :: r, 0, d, h => by
    simp at h
    subst h
    rw [List.set_cons_zero, fvs_cons, fvs_cons]
    rfl
  | x :: r, i + 1, d, h => by
    rw [List.set_cons_succ, fvs_cons, fvs_cons, show (i + 1) * 8 + 7 = 8 + (i * 8 + 7) from by omega, ← fk_set7 r i d (by simpa using h)]
    exact List.set_append_right _ _ (by show 8 ≤ _; omega) |>.trans (by rw [show x.cells.length = 8 from rfl, Nat.add_sub_cancel_left])

theorem fk_split (l : List Fo) (k : Nat) (d : Fo) (h : l[k]? = some d) : ((l.take k).map Fo.bare ++ l.drop k).set k d.bare = (l.take (k + 1)).map Fo.bare ++ l.drop (k + 1) := by
  have hk : k < l.length := (List.getElem?_eq_some_iff.1 h).1
  have hd : l.drop k = d :: l.drop (k + 1) := by
    rw [List.drop_eq_getElem_cons hk]
    congr 1
    have := List.getElem?_eq_getElem hk
    rw [h] at this
    exact (Option.some.inj this).symm
  rw [hd, List.set_append_right _ _ (by simp; omega), List.take_add_one, h]
  simp [Nat.min_eq_left (Nat.le_of_lt hk)]

theorem fk_at (l : List Fo) (k : Nat) : ((l.take k).map Fo.bare ++ l.drop k)[k]? = l[k]? := by
  by_cases hk : k < l.length
  · rw [List.getElem?_append_right (by simp; omega)]
    simp [Nat.min_eq_left (Nat.le_of_lt hk)]
  · rw [List.getElem?_eq_none (by simp; omega), List.getElem?_eq_none (by omega)]

set_option maxHeartbeats 1000000 in
theorem fclone_any (a : Option Addr) (len cap : Nat) (l : List Fo) (w : World) (h : Fls w a len l) (hm : len ≤ 1000000) :
    Calls Try.prog 13 #[.slice a len cap] w fun e w' => ∃ v, e = .returned v ∧ w'.ownsRow w.heap.size 37 8 v len (fvs l) ∧ Below w.heap.size w w' := by
  obtain ⟨i0, z0, hi, hz0, hz1, hz2, hzc⟩ := foInfo
  have heq := fun (wx : World) (aa : Option Addr) (n c : Nat) => Lib.run_eql_slice_nil (P := Try.prog) wx 22 37 aa n c 0 0 Try.underlying22
  cases a with
  | none =>
    obtain rfl := h.2.2.1 rfl
    obtain rfl : l = [] := List.length_eq_zero_iff.1 h.1
    go_enter Try.func13, Try.ntmps13
    go_wp2
    go_ret
    exact ⟨_, rfl, World.ownsRow_nil _ _ _ _, Below.refl _ _⟩
  | some x =>
    have HC := hidn (fk_fcells h)
    have hl : (fvs l).length = len * 8 := by rw [fvs_length, h.1]
    have hown := World.ownsRow_lit (base := w.heap.size) (e := 37) (size := 8) w #[] 0 (Nat.le_refl _) (Nat.zero_le _) rfl
    have H1 := hidn (fk_fone l)
    clear h
    go_enter Try.func13, Try.ntmps13
    go_wp2_with (at_builtin; refine wpList_append_own _ rfl _ _ 22 rfl w.heap.size 37 i0 z0 8 80 Try.underlying22 hi hz0 hz1 hz2 hzc (by decide) _ 0 [] rfl hown x len cap (fvs l) rfl hl ?c1 H1.out (by unfold maxLen; omega) (by omega) (by simp) ?_)
    case c1 =>
      intro j u hj
      exact Lib.cell?_alloc_some _ (HC.out j u hj)
    intro v' w1 hown1 hgrow1 _
    clear hown
    go_wp2
    go_ret
    refine ⟨_, rfl, by simpa using hown1, ?_⟩
    refine ((Below.refl _ _).alloc (Nat.le_refl _) _).grown hgrow1 (by simp) ?_
    intro k hk
    simp [Value.ownBlock] at hk
    omega

end Go.Proofs.Yteammmhlpinhfaa
