/- slices.Clone of numbers; footers of one's own. -/
import Derived.Test.YtpbicnpaldfamaaPlR
import Derived.Lib.SmallJoins
namespace Go.Proofs.Ytpbicnpaldfamaa
open Go.RowKit Go.Joins Go.Maps
set_option linter.unusedVariables false

set_option maxHeartbeats 300000 in
theorem intClone_any (a : Option Addr) (len cap : Nat) (l : List Int) (w : World) (h : Ils w a len l) (hm : len * 8 ≤ 140737488355328) :
    Calls Try.prog 13 #[.slice a len cap] w fun e w' => ∃ v, e = .returned v ∧ w'.ownsRow w.heap.size 3 1 v len (ivs l) ∧ Below w.heap.size w w' := by
  obtain ⟨i0, z, hi, hz0, hz1, hz2, hzc⟩ := iInfo
  have heq := fun (wx : World) (aa : Option Addr) (n c : Nat) => Lib.run_eql_slice_nil (P := Try.prog) wx 29 3 aa n c 0 0 Try.underlying29
  cases a with
  | none =>
    have h0 := h.2.2.1 rfl
    subst h0
    obtain rfl : l = [] := List.length_eq_zero_iff.1 h.1
    go_enter Try.func13, Try.ntmps13
    go_wp2_with fail
    exact bodyPost_ret (v := .slice none 0 0) (by simp [results, Try.results13, go_sem]) rfl ⟨_, rfl, World.ownsRow_nil _ _ _ _, Below.refl _ _⟩
  | some x =>
    have hown := World.ownsRow_lit (base := w.heap.size) (e := 3) (size := 1) w #[] 0 (Nat.le_refl _) (Nat.zero_le _) rfl
    have HC : Hid (∀ (j : Nat) (u : Value), (ivs l)[j]? = some u → (w.alloc (.cells #[] 3)).cell? (x.add j) = some u) := hidn (fun j u hj => by
      unfold ivs at hj
      rw [List.getElem?_map] at hj
      cases hq : l[j]? with
      | none => rw [hq] at hj; cases hj
      | some y =>
        rw [hq] at hj
        cases hj
        exact Lib.cell?_alloc_some _ (h.2.2.2 x rfl j y hq))
    have H1 : Hid (∀ u ∈ ivs l, u.oneCell' = true) := hidn (fun u hu => by
      unfold ivs at hu
      obtain ⟨y, _, rfl⟩ := List.mem_map.1 hu
      rfl)
    have HL : Hid ((ivs l).length = len * 1) := hidn (by rw [ivs_length, h.1, Nat.mul_one])
    have hmx : 0 + len ≤ maxLen := by unfold maxLen; omega
    have hmb : (0 + len) * 8 ≤ 140737488355328 := by omega
    clear h hm
    go_enter Try.func13, Try.ntmps13
    go_wp2_with (at_builtin; refine wpList_append_own _ rfl _ _ 29 rfl w.heap.size 3 i0 z 1 8 Try.underlying29 hi hz0 hz1 hz2 hzc (by decide) _ 0 [] rfl hown x len cap (ivs l) rfl HL.out HC.out H1.out hmx hmb (by simp) ?_)
    intro v' w1 hown1 hgrow1 _
    clear hown
    go_wp2
    go_ret
    refine ⟨_, rfl, by simpa using hown1, ?_⟩
    refine ((Below.refl _ _).alloc (Nat.le_refl _) _).grown hgrow1 (by simp) ?_
    intro k hk
    simp [Value.ownBlock] at hk
    omega

theorem own_apart {w : World} {base e size n base' e' size' n' : Nat} {v v' : Value} {xs xs' : List Value} (h : w.ownsRow base e size v n xs) (h' : w.ownsRow base' e' size' v' n' xs') (he : e ≠ e') : v.ownBlock = none ∨ v.ownBlock ≠ v'.ownBlock := by
  rcases h.2 with ⟨rfl, _⟩ | ⟨g, cap, cur, rfl, _, hg, _⟩
  · exact .inl rfl
  · refine .inr ?_
    rcases h'.2 with ⟨rfl, _⟩ | ⟨g', cap', cur', rfl, _, hg', _⟩
    · simp [Value.ownBlock]
    · intro hh
      simp [Value.ownBlock] at hh
      subst hh
      rw [hg] at hg'
      simp at hg'
      exact he hg'.2

theorem own_setCell {w : World} {base e size n : Nat} {v : Value} {xs : List Value} (h : w.ownsRow base e size v n xs) {a : Addr} (ha : v.ownBlock ≠ some a.block) (u : Value) : (w.setCell a u).ownsRow base e size v n xs := by
  refine ⟨h.1, ?_⟩
  rcases h.2 with hn | ⟨g, cap, cur, rfl, hbb, hgg, rest⟩
  · exact .inl hn
  · refine .inr ⟨g, cap, cur, rfl, hbb, ?_, rest⟩
    rw [Below.heap_setCell w a u g (fun e => ha (by rw [← e]; rfl))]
    exact hgg

/-- Parents in a row of their own. -/
def OwnP (w : World) (base : Nat) (d : Fo) : Prop := w.ownsRow base 3 1 (.slice d.pa d.pl d.pc) d.pl (ivs d.ps) ∧ d.ps.length = d.pl

/-- Footers in a row of their own, with parents of their own. -/
def OwnF (w : World) (base : Nat) (v : Value) (l : List Fo) : Prop := w.ownsRow base 31 8 v l.length (fvs l) ∧ ∀ d ∈ l, OwnP w base d

theorem OwnP.below {w w' : World} {base : Nat} {d : Fo} (h : OwnP w base d) (hb : Below w.heap.size w w') : OwnP w' base d := ⟨own_skip h.1 hb, h.2⟩

theorem OwnF.below {w w' : World} {base : Nat} {v : Value} {l : List Fo} (h : OwnF w base v l) (hb : Below w.heap.size w w') : OwnF w' base v l := ⟨own_skip h.1 hb, fun d hd => (h.2 d hd).below hb⟩

theorem OwnP.ils {w : World} {base : Nat} {d : Fo} (h : OwnP w base d) : Ils w d.pa d.pl d.ps ∧ d.pl ≤ d.pc := by
  have h1 := h.1
  rw [← h.2] at h1
  obtain ⟨a, c, e, hi, hc⟩ := ils_of_own h1
  have h2 := h.2
  injection e with e1 e2 e3
  rw [e1, ← h2, e3]
  exact ⟨hi, hc⟩

theorem OwnF.fls {w : World} {base : Nat} {v : Value} {l : List Fo} (h : OwnF w base v l) : ∃ a c, v = .slice a l.length c ∧ Fls w a l.length l ∧ l.length ≤ c := fls_of_own h.1 (fun d hd => (h.2 d hd).ils)

theorem OwnF.setCell {w w' : World} {base : Nat} {v : Value} {l : List Fo} (h : OwnF w base v l) (hb : Below w.heap.size w w') {a : Addr} (ha : w.heap.size ≤ a.block) (u : Value) : OwnF (w'.setCell a u) base v l := by
  have hne : ∀ {e size n : Nat} {v : Value} {xs : List Value}, w.ownsRow base e size v n xs → v.ownBlock ≠ some a.block := fun h e => by
    have := (h.lt _ e).2
    omega
  exact ⟨own_setCell (own_skip h.1 hb) (hne h.1) u, fun d hd => ⟨own_setCell (own_skip (h.2 d hd).1 hb) (hne (h.2 d hd).1) u, (h.2 d hd).2⟩⟩

theorem OwnF.push {w w' : World} {base : Nat} {v v' : Value} {l : List Fo} {d : Fo} (h : OwnF w base v l) (hd : OwnP w base d)
    (ho : w'.ownsRow base 31 8 v' (l.length + 1) (fvs l ++ d.cells)) (hg : w.grownBy w' v.ownBlock) : OwnF w' base v' (l ++ [d]) := by
  have hk : ∀ x, OwnP w base x → OwnP w' base x := fun x hx => ⟨hx.1.kept hg (own_apart hx.1 h.1 (by decide)), hx.2⟩
  refine ⟨?_, fun x hx => ?_⟩
  · rw [fvs_append, List.length_append]
    simpa [fvs] using ho
  · rcases List.mem_append.1 hx with hx | hx
    · exact hk x (h.2 x hx)
    · rw [List.mem_singleton.1 hx]
      exact hk d hd

theorem cmpInt (x y : Int) (w : World) : Calls Try.prog 20 #[.int .i64 x, .int .i64 y] w fun e w' => e = .returned (.int .i64 (if x < y then -1 else if y < x then 1 else 0)) ∧ w' = w := by
  by_cases h1 : x < y
  · rw [if_pos h1]
    go_enter Try.func20, Try.ntmps20
    go_wp2
    go_ret
    exact ⟨rfl, rfl⟩
  · rw [if_neg h1]
    by_cases h2 : y < x
    · rw [if_pos h2]
      go_enter Try.func20, Try.ntmps20
      go_wp2
      go_ret
      exact ⟨rfl, rfl⟩
    · rw [if_neg h2]
      go_enter Try.func20, Try.ntmps20
      go_wp2
      go_ret
      exact ⟨rfl, rfl⟩

def cmpZ (x y : Int) : Int := if x < y then -1 else if y < x then 1 else 0

set_option maxHeartbeats 300000 in
theorem compareRanks_any (f g : Fo) (w : World) : Calls Try.prog 15 #[f.agg, g.agg] w fun e w' => e = .returned (.int .i64 (cmpZ f.rk g.rk)) ∧ Below w.heap.size w w' := by
  obtain ⟨nu, ge, lv, rk, mn, mx, bt, pa, pl, pc, ps⟩ := f
  obtain ⟨nu', ge', lv', rk', mn', mx', bt', pa', pl', pc', ps'⟩ := g
  simp only [Fo.agg]
  obtain ⟨wA, hwA⟩ : ∃ wA, wA = (w.alloc (.cells #[.int .i64 nu, .int .i64 ge, .int .i64 lv, .int .i64 rk, .int .i64 mn, .int .i64 mx, .int .i64 bt, .slice pa pl pc] 31)).alloc (.cells #[.int .i64 nu', .int .i64 ge', .int .i64 lv', .int .i64 rk', .int .i64 mn', .int .i64 mx', .int .i64 bt', .slice pa' pl' pc'] 31) := ⟨_, rfl⟩
  have bA : Below w.heap.size w wA := by rw [hwA]; exact ((Below.refl _ w).alloc (Nat.le_refl _) _).alloc (by simp) _
  have HC := hidn (cmpInt rk rk' wA)
  have e9 : (if rk < rk' then (-1 : Int) else if rk' < rk then 1 else 0) = cmpZ rk rk' := rfl
  rw [e9] at HC
  clear e9
  generalize cmpZ rk rk' = cz at *
  have HWA := hidn hwA
  clear hwA
  go_enter Try.func15, Try.ntmps15
  go_wp2_with fail
  rw [← HWA.out]
  refine HC.out.mono ?_
  rintro e w1 ⟨rfl, rfl⟩
  go_wp2_with fail
  exact bodyPost_ret (v := .int .i64 cz) (by simp [results, Try.results15, go_sem]) rfl ⟨rfl, bA⟩

end Go.Proofs.Ytpbicnpaldfamaa
