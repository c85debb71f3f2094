/- plan.Merged, and the document's; dryrotplain.SameFooter. -/
import Derived.Test.YtjckfcholnkleaaPlE
import Derived.Test.YtjckfcholnkleaaPlF
import Derived.Test.YtjckfcholnkleaaPlI
import Derived.Laws.Tables
import Derived.Laws.CopyOwn
namespace Go.Proofs.Ytjckfcholnkleaa
open Go.RowKit Go.Joins
set_option linter.unusedVariables false

abbrev Fpv := Int × Int × Int × Int × Int × Int × Int × List Int

def okMg (l : List Fo) (nu ge : Int) : Bool := decide (l.length = 3) && pcL l && canMergeL l && numB nu && numB ge

def mgV (l : List Fo) (nu ge : Int) : Fpv × Int := match l with
  | [f, g, h] => if okMg l nu ge then ((nu, ge, f.lv + 1, h.rk, 0, 0, 0, [f.nu, g.nu, h.nu]), 0) else ((0, 0, 0, 0, 0, 0, 0, []), 1)
  | _ => ((0, 0, 0, 0, 0, 0, 0, []), 1)

theorem mgV_no {l : List Fo} {nu ge : Int} (h : okMg l nu ge = false) : mgV l nu ge = ((0, 0, 0, 0, 0, 0, 0, []), 1) := by
  unfold mgV
  split
  · rw [h]; rfl
  · rfl

theorem mgV_yes {f g x : Fo} {nu ge : Int} (h : okMg [f, g, x] nu ge = true) : mgV [f, g, x] nu ge = ((nu, ge, f.lv + 1, x.rk, 0, 0, 0, [f.nu, g.nu, x.nu]), 0) := by
  simp [mgV, h]

/-- A footer that is answered, with an error's number. -/
def MgP (w : World) (V : Fpv × Int) (e : Ending) (w' : World) : Prop := ∃ f : Fo, e = .returned (.tuple #[f.agg, .int .i64 V.2]) ∧ f.pv = V.1 ∧ (Ils w' f.pa f.pl f.ps ∧ f.pl ≤ f.pc) ∧ Below w.heap.size w w'

theorem results_foot {fn : Func} {p u : Tmp} {v : Value} (h : fn.results = #[.cell p 32, .tmp u]) (tmps : Array Value) (w : World) (g : Nat) (cs : Array Value)
    (hp : tmps.getD p undef = .pointer (some ⟨g, 0, none⟩)) (hv : tmps.getD u undef = v) (hg : w.heap[g]? = some (.cells cs 32 (0, 0))) (hs : cs.size = 8) :
    (results fn tmps).run Try.prog w = .ok (.tuple #[.agg cs, v]) w := by
  have hp' : tmps[p]?.getD undef = .pointer (some ⟨g, 0, none⟩) := by simpa using hp
  have hv' : tmps[u]?.getD undef = v := by simpa using hv
  have hi : (Try.prog.info? 32).map (·.size) = some cs.size := by rw [hs]; kernel_rfl
  simp [results, h, hp', hv', asAddr, run_loadVar_row w g 32 32 cs (0, 0) _ hg Try.underlying32 rfl hi]

theorem rdy_unit {P : Program} {md : Region.Mode} {ops : Array Oper} {Q : Exit → Act → World → Prop} {S : World → Prop} {fuel : Nat} {listed : Array Bool} {a : Act} {w : World} {i : Nat} {o : Oper} {rs : List Nat} (ho : ops[i]? = some o) (hgd : o.guard = none) (dst : Option Nat) (hd : o.dst = dst) (w' : World) (hrun : (execOp a.eval o).run P w = .ok .skip w') (hS : S w')
    (h : S w' → wpAnyH P md ops Q S fuel (listed.setIfInBounds i true) (a.put dst undef) w') (hs : AllReadyH P md ops Q S fuel listed a w rs) : AllReadyH P md ops Q S fuel listed a w (i :: rs) := by
  subst hd
  refine AllReadyH.cons ho (fun K hK => ?_) hs
  have hw : Region.wanted o (yielded ops a.tmps) = true := by simp [Region.wanted, hgd]
  rw [if_pos hw]
  unfold Oper.wp
  rw [hrun]
  exact hK _ _ hS h

theorem builtFoot (n g v r : Int) (pa : Option Addr) (pl pc : Nat) : Try.prog.built 32 [(0, .int .i64 n), (1, .int .i64 g), (2, .int .i64 v), (3, .int .i64 r), (7, .slice pa pl pc)] = some #[.int .i64 n, .int .i64 g, .int .i64 v, .int .i64 r, .int .i64 0, .int .i64 0, .int .i64 0, .slice pa pl pc] := by kernel_rfl

theorem bld_foot {o : Oper} {a : Act} {w : World} {x0 x1 x2 x3 x7 : Operand} {n g v r : Int} {pa : Option Addr} {pl pc : Nat} (ho : o.op = Op.build 32 #[(0, x0), (1, x1), (2, x2), (3, x3), (7, x7)]) (h0 : a.eval x0 = .int .i64 n) (h1 : a.eval x1 = .int .i64 g) (h2 : a.eval x2 = .int .i64 v) (h3 : a.eval x3 = .int .i64 r) (h7 : a.eval x7 = .slice pa pl pc) :
    (execOp a.eval o).run Try.prog w = .ok (.value (.agg #[.int .i64 n, .int .i64 g, .int .i64 v, .int .i64 r, .int .i64 0, .int .i64 0, .int .i64 0, .slice pa pl pc])) w := by
  have hr := run_build (P := Try.prog) w 32 #[(0, .int .i64 n), (1, .int .i64 g), (2, .int .i64 v), (3, .int .i64 r), (7, .slice pa pl pc)] _ (builtFoot n g v r pa pl pc)
  simp [execOp, ho, h0, h1, h2, h3, h7, hr, Result.andThen]

theorem st_foot {o : Oper} {a : Act} {w : World} {x y : Operand} {g : Nat} {old cs : Array Value} (ho : o.op = Op.store 32 x y) (hx : a.eval x = .pointer (some ⟨g, 0, none⟩)) (hy : a.eval y = .agg cs) (hg : w.heap[g]? = some (.cells old 32 (0, 0))) (h8 : cs.size = 8) (ho8 : old.size = 8) (h1 : cs.all (·.oneCell') = true) :
    (execOp a.eval o).run Try.prog w = .ok .skip (w.setRow g cs) := by
  have hi : (Try.prog.info? 32).map (·.size) = some cs.size := by rw [h8]; kernel_rfl
  have hr := run_storeVar_row (P := Try.prog) w g 32 32 old cs hg hi (by omega) h1
  unfold execOp
  simp only [ho, hx, hy, Instr.storeAt, Instr.sureAddr, Sem.run_bind, Sem.run_pure, Result.andThen_ok, hr]

theorem setRow_other (w : World) (g k : Nat) (cs : Array Value) (h : k ≠ g) : (w.setRow g cs).heap[k]? = w.heap[k]? := by
  simp [World.setRow, Array.getElem?_modify, Ne.symm h]

theorem own_setRow {w : World} {g base e size n : Nat} {v : Value} {xs : List Value} (h : w.ownsRow base e size v n xs) (hg : g < base) (cs : Array Value) : (w.setRow g cs).ownsRow base e size v n xs := by
  refine ⟨h.1, ?_⟩
  rcases h.2 with hn | ⟨k, cap, cur, rfl, hbb, hgg, rest⟩
  · exact .inl hn
  · exact .inr ⟨k, cap, cur, rfl, hbb, by rw [setRow_other _ _ _ _ (by omega)]; exact hgg, rest⟩

theorem fin8 {w : World} {A : Nat} {T : TypeId} {c0 c1 c2 c3 c4 c5 c6 c7 : Value} (q : w.heap[A]? = some (.cells #[c0, c1, c2, c3, c4, c5, c6, c7] T (0, 0))) (a0 a1 a2 a3 a4 a5 a6 a7 : Value) :
    (w.cell? ⟨A, 0, none⟩ = some c0 ∧ w.cell? ⟨A, 1, none⟩ = some c1 ∧ w.cell? ⟨A, 2, none⟩ = some c2 ∧ w.cell? ⟨A, 3, none⟩ = some c3 ∧ w.cell? ⟨A, 4, none⟩ = some c4 ∧ w.cell? ⟨A, 5, none⟩ = some c5 ∧ w.cell? ⟨A, 6, none⟩ = some c6 ∧ w.cell? ⟨A, 7, none⟩ = some c7) ∧ (∀ o, w.frozen? ⟨A, o, none⟩ = false) ∧ ((((((((w.setCell ⟨A, 0, none⟩ a0).setCell ⟨A, 1, none⟩ a1).setCell ⟨A, 2, none⟩ a2).setCell ⟨A, 3, none⟩ a3).setCell ⟨A, 4, none⟩ a4).setCell ⟨A, 5, none⟩ a5).setCell ⟨A, 6, none⟩ a6).setCell ⟨A, 7, none⟩ a7).heap[A]? = some (.cells #[a0, a1, a2, a3, a4, a5, a6, a7] T (0, 0)) ∧
    (∀ (n : Nat) (w0 : World), Below n w0 w → n ≤ A → Below n w0 ((((((((w.setCell ⟨A, 0, none⟩ a0).setCell ⟨A, 1, none⟩ a1).setCell ⟨A, 2, none⟩ a2).setCell ⟨A, 3, none⟩ a3).setCell ⟨A, 4, none⟩ a4).setCell ⟨A, 5, none⟩ a5).setCell ⟨A, 6, none⟩ a6).setCell ⟨A, 7, none⟩ a7)) := by
  have q8 := (block_setCell (i := 7) (block_setCell (i := 6) (block_setCell (i := 5) (block_setCell (i := 4) (block_setCell (i := 3) (block_setCell (i := 2) (block_setCell (i := 1) (block_setCell (i := 0) q a0) a1) a2) a3) a4) a5) a6) a7)
  refine ⟨⟨cell_of_row _ _ _ _ _ _ q, cell_of_row _ _ _ _ _ _ q, cell_of_row _ _ _ _ _ _ q, cell_of_row _ _ _ _ _ _ q, cell_of_row _ _ _ _ _ _ q, cell_of_row _ _ _ _ _ _ q, cell_of_row _ _ _ _ _ _ q, cell_of_row _ _ _ _ _ _ q⟩, fun o => unfro q, by simpa using q8, fun n w0 hb hA => ((((((((hb.setCell (p := ⟨A, 0, none⟩) hA _).setCell (p := ⟨A, 1, none⟩) hA _).setCell (p := ⟨A, 2, none⟩) hA _).setCell (p := ⟨A, 3, none⟩) hA _).setCell (p := ⟨A, 4, none⟩) hA _).setCell (p := ⟨A, 5, none⟩) hA _).setCell (p := ⟨A, 6, none⟩) hA _).setCell (p := ⟨A, 7, none⟩) hA _)⟩

set_option maxHeartbeats 600000 in
set_option maxRecDepth 100000 in
theorem merged_any (a : Option Addr) (len cap : Nat) (l : List Fo) (nu ge : Int) (w : World) (h : Fls w a len l) (hm : len ≤ 1000000) (hc : len ≤ cap) :
    Calls Try.prog 18 #[.slice a len cap, .int .i64 nu, .int .i64 ge] w (MgP w (mgV l nu ge)) := by
  have hlen := hidn h.1
  obtain ⟨V, hV⟩ : ∃ V, V = mgV l nu ge := ⟨_, rfl⟩
  rw [← hV]
  have HV := hidn hV
  clear hV
  obtain ⟨wZ, hwZ⟩ : ∃ wZ, wZ = w.alloc (.cells #[.int .i64 0, .int .i64 0, .int .i64 0, .int .i64 0, .int .i64 0, .int .i64 0, .int .i64 0, .slice none 0 0] 32) := ⟨_, rfl⟩
  have bZ : Below w.heap.size w wZ := by rw [hwZ]; exact (Below.refl _ w).alloc (Nat.le_refl _) _
  have qZ : wZ.heap[w.heap.size]? = some (.cells #[.int .i64 0, .int .i64 0, .int .i64 0, .int .i64 0, .int .i64 0, .int .i64 0, .int .i64 0, .slice none 0 0] 32 (0, 0)) := by rw [hwZ]; exact heap_alloc_new w _
  have hZs : w.heap.size < wZ.heap.size := (Array.getElem?_eq_some_iff.1 qZ).1
  have QZ := hidn qZ
  have HWZ := hidn hwZ
  clear hwZ qZ
  by_cases hl3 : len = 3
  · subst hl3
    have H1 := hidn (can_any a 3 cap l wZ (h.below bZ) hm hc)
    go_enter Try.func18, Try.ntmps18
    go_wp2_with fail
    rw [← HWZ.out]
    refine H1.out.mono ?_
    rintro e w1 ⟨rfl, b1⟩
    have Q1 : Hid (w1.heap[w.heap.size]? = some (.cells #[.int .i64 0, .int .i64 0, .int .i64 0, .int .i64 0, .int .i64 0, .int .i64 0, .int .i64 0, .slice none 0 0] 32 (0, 0))) := hidn ((b1.block _ hZs).trans QZ.out)
    have B1 := bZ.trans (b1.mono bZ.size)
    cases hp : pcL l with
    | false =>
      have HFAIL := hidn hp
      clear hp
      have HNO : Hid (V = ((0, 0, 0, 0, 0, 0, 0, []), 1)) := hidn (by rw [HV.out]; exact mgV_no (by simp [okMg, HFAIL.out]))
      obtain ⟨⟨k0, k1, k2, k3, k4, k5, k6, k7⟩, kf, kh, kb⟩ := fin8 Q1.out (.int .i64 0) (.int .i64 0) (.int .i64 0) (.int .i64 0) (.int .i64 0) (.int .i64 0) (.int .i64 0) (.slice none 0 0)
      have KH := hidn kh
      have KB := hidn (kb w.heap.size w B1 (Nat.le_refl _))
      clear kh kb
      go_wp2_with fail
      exact bodyPost_ret (v := .tuple #[(⟨0, 0, 0, 0, 0, 0, 0, none, 0, 0, []⟩ : Fo).agg, .int .i64 1]) (results_foot rfl _ _ w.heap.size #[.int .i64 0, .int .i64 0, .int .i64 0, .int .i64 0, .int .i64 0, .int .i64 0, .int .i64 0, .slice none 0 0] (by kernel_rfl) (by kernel_rfl) KH.out rfl) rfl ⟨⟨0, 0, 0, 0, 0, 0, 0, none, 0, 0, []⟩, by rw [HNO.out], by rw [HNO.out]; rfl, ⟨⟨rfl, Nat.zero_le _, fun _ => rfl, (fun x hx => by cases hx)⟩, Nat.le_refl _⟩, KB.out⟩
    | true =>
      have H2 := hidn (canMerge_any a 3 cap l w1 ((h.below bZ).below b1) hm)
      go_wp2_with fail
      refine H2.out.mono ?_
      rintro e w2 ⟨rfl, b2⟩
      have Q2 : Hid (w2.heap[w.heap.size]? = some (.cells #[.int .i64 0, .int .i64 0, .int .i64 0, .int .i64 0, .int .i64 0, .int .i64 0, .int .i64 0, .slice none 0 0] 32 (0, 0))) := hidn ((b2.block _ (Nat.lt_of_lt_of_le hZs b1.size)).trans Q1.out)
      have B2 := B1.trans (b2.mono B1.size)
      cases hq : canMergeL l with
      | false =>
        have HFAIL := hidn hq
        clear hq
        have HNO : Hid (V = ((0, 0, 0, 0, 0, 0, 0, []), 1)) := hidn (by rw [HV.out]; exact mgV_no (by simp [okMg, HFAIL.out]))
        obtain ⟨⟨k0, k1, k2, k3, k4, k5, k6, k7⟩, kf, kh, kb⟩ := fin8 Q2.out (.int .i64 0) (.int .i64 0) (.int .i64 0) (.int .i64 0) (.int .i64 0) (.int .i64 0) (.int .i64 0) (.slice none 0 0)
        have KH := hidn kh
        have KB := hidn (kb w.heap.size w B2 (Nat.le_refl _))
        clear kh kb
        go_wp2_with fail
        exact bodyPost_ret (v := .tuple #[(⟨0, 0, 0, 0, 0, 0, 0, none, 0, 0, []⟩ : Fo).agg, .int .i64 1]) (results_foot rfl _ _ w.heap.size #[.int .i64 0, .int .i64 0, .int .i64 0, .int .i64 0, .int .i64 0, .int .i64 0, .int .i64 0, .slice none 0 0] (by kernel_rfl) (by kernel_rfl) KH.out rfl) rfl ⟨⟨0, 0, 0, 0, 0, 0, 0, none, 0, 0, []⟩, by rw [HNO.out], by rw [HNO.out]; rfl, ⟨⟨rfl, Nat.zero_le _, fun _ => rfl, (fun x hx => by cases hx)⟩, Nat.le_refl _⟩, KB.out⟩
      | true =>
        have H3 := hidn (isNumber_any nu w2)
        go_wp2_with fail
        refine H3.out.mono ?_
        rintro e w3 ⟨rfl, rfl⟩
        cases hn : numB nu with
        | false =>
          have HFAIL := hidn hn
          clear hn
          have HNO : Hid (V = ((0, 0, 0, 0, 0, 0, 0, []), 1)) := hidn (by rw [HV.out]; exact mgV_no (by simp [okMg, HFAIL.out]))
          obtain ⟨⟨k0, k1, k2, k3, k4, k5, k6, k7⟩, kf, kh, kb⟩ := fin8 Q2.out (.int .i64 0) (.int .i64 0) (.int .i64 0) (.int .i64 0) (.int .i64 0) (.int .i64 0) (.int .i64 0) (.slice none 0 0)
          have KH := hidn kh
          have KB := hidn (kb w.heap.size w B2 (Nat.le_refl _))
          clear kh kb
          go_wp2_with fail
          exact bodyPost_ret (v := .tuple #[(⟨0, 0, 0, 0, 0, 0, 0, none, 0, 0, []⟩ : Fo).agg, .int .i64 1]) (results_foot rfl _ _ w.heap.size #[.int .i64 0, .int .i64 0, .int .i64 0, .int .i64 0, .int .i64 0, .int .i64 0, .int .i64 0, .slice none 0 0] (by kernel_rfl) (by kernel_rfl) KH.out rfl) rfl ⟨⟨0, 0, 0, 0, 0, 0, 0, none, 0, 0, []⟩, by rw [HNO.out], by rw [HNO.out]; rfl, ⟨⟨rfl, Nat.zero_le _, fun _ => rfl, (fun x hx => by cases hx)⟩, Nat.le_refl _⟩, KB.out⟩
        | true =>
          have H4 := hidn (isNumber_any ge w3)
          go_wp2_with fail
          refine H4.out.mono ?_
          rintro e w4 ⟨rfl, rfl⟩
          cases hge : numB ge with
          | false =>
            have HFAIL := hidn hge
            clear hge
            have HNO : Hid (V = ((0, 0, 0, 0, 0, 0, 0, []), 1)) := hidn (by rw [HV.out]; exact mgV_no (by simp [okMg, HFAIL.out]))
            obtain ⟨⟨k0, k1, k2, k3, k4, k5, k6, k7⟩, kf, kh, kb⟩ := fin8 Q2.out (.int .i64 0) (.int .i64 0) (.int .i64 0) (.int .i64 0) (.int .i64 0) (.int .i64 0) (.int .i64 0) (.slice none 0 0)
            have KH := hidn kh
            have KB := hidn (kb w.heap.size w B2 (Nat.le_refl _))
            clear kh kb
            go_wp2_with fail
            exact bodyPost_ret (v := .tuple #[(⟨0, 0, 0, 0, 0, 0, 0, none, 0, 0, []⟩ : Fo).agg, .int .i64 1]) (results_foot rfl _ _ w.heap.size #[.int .i64 0, .int .i64 0, .int .i64 0, .int .i64 0, .int .i64 0, .int .i64 0, .int .i64 0, .slice none 0 0] (by kernel_rfl) (by kernel_rfl) KH.out rfl) rfl ⟨⟨0, 0, 0, 0, 0, 0, 0, none, 0, 0, []⟩, by rw [HNO.out], by rw [HNO.out]; rfl, ⟨⟨rfl, Nat.zero_le _, fun _ => rfl, (fun x hx => by cases hx)⟩, Nat.le_refl _⟩, KB.out⟩
          | true =>
            obtain ⟨f, g, x, t, e1, -, e3, e4, e5, -⟩ := three (l := l) (k := 0) (by rw [hlen.out]; omega)
            rw [List.drop_zero] at e1
            have ht : t = [] := by
              have := hlen.out
              rw [e1] at this
              simpa using this
            subst ht
            have h4 := ((h.below bZ).below b1).below b2
            obtain ⟨b, off, rfl, hbk, -, -, f2, -⟩ := h4.at e3
            obtain ⟨_, _, e, -, -, -, -, x3, -⟩ := h4.at e5
            cases e
            simp only [Nat.zero_mul, Nat.add_zero] at f2
            have x3 : w4.cell? ⟨b, off + 19, none⟩ = some (.int .i64 x.rk) := x3
            have HY : Hid (V = ((nu, ge, f.lv + 1, x.rk, 0, 0, 0, [f.nu, g.nu, x.nu]), 0)) := hidn (by rw [HV.out, e1]; exact mgV_yes (by rw [e1] at hp hq; simp [okMg, hp, hq, hn, hge]))
            have hlv : 1 ≤ f.lv ∧ f.lv ≤ 3 := by
              have hs : standF f = true := by
                have h5 := hp
                unfold pcL at h5
                rw [Bool.and_eq_true] at h5
                have h6 := List.all_eq_true.1 h5.1 0 (List.mem_range.2 (by rw [hlen.out]; omega))
                rw [pcAt_of e3, Bool.and_eq_true] at h6
                exact h6.1
              have := standF_true hs
              exact ⟨this.2.2.2.1, this.2.2.2.2.1⟩
            have hEL : Hid (l = [f, g, x]) := hidn e1
            clear e1 e3 e4 e5 hp hq
            have bd : Below w4.heap.size w4 w4.drew := (Below.refl _ w4).drew
            have h5 := h4.below bd
            have Q5 : Hid (w4.drew.heap[w.heap.size]? = some (.cells #[.int .i64 0, .int .i64 0, .int .i64 0, .int .i64 0, .int .i64 0, .int .i64 0, .int .i64 0, .slice none 0 0] 32 (0, 0))) := Q2
            have hQs : w.heap.size < w4.drew.heap.size := (Array.getElem?_eq_some_iff.1 Q5.out).1
            have B5 := B2.trans (bd.mono B2.size)
            have HNU : Calls Try.prog 31 #[.slice (some ⟨b, off, none⟩) 3 cap] w4.drew (fun e w' => ∃ v, e = .returned v ∧ w'.ownsRow w4.drew.heap.size 3 1 v 3 (ivs [f.nu, g.nu, x.nu]) ∧ Below w4.drew.heap.size w4.drew w') := (numbers_any (some ⟨b, off, none⟩) 3 cap l w4.drew h5 (by omega)).mono fun e w' hh => by
              obtain ⟨rfl, oo, bb⟩ := hh
              have e3 : (l.map Fo.nu) = [f.nu, g.nu, x.nu] := by rw [hEL.out]; rfl
              rw [e3] at oo
              exact ⟨_, rfl, oo, bb⟩
            go_wp2_with fail
            refine wp_region_noPanic ?_
            refine wp_region_held_drew (S := fun w' => w'.cell? ⟨b, off + 2, none⟩ = some (.int .i64 f.lv) ∧ w'.cell? ⟨b, off + 19, none⟩ = some (.int .i64 x.rk)) (by kernel_rfl) (⟨f2, x3⟩) (fun hHeld => ?_)
            refine drawn_take (i := 0) (v := .int .i64 nu) (some 32) rfl rfl (by kernel_rfl) (by kernel_rfl) (by kernel_rfl) (fun _ _ _ h => h) (Or.inl ⟨by kernel_rfl, fun wq hw => by go_simp⟩) hHeld ?_
            simp only [Act.put, List.setIfInBounds_toArray, List.set_cons_succ, List.set_cons_zero]
            refine drawn_take (i := 1) (v := .int .i64 ge) (some 33) rfl rfl (by kernel_rfl) (by kernel_rfl) (by kernel_rfl) (fun _ _ _ h => h) (Or.inl ⟨by kernel_rfl, fun wq hw => by go_simp⟩) hHeld ?_
            simp only [Act.put, List.setIfInBounds_toArray, List.set_cons_succ, List.set_cons_zero]
            refine drawn_take (i := 2) (v := .slice (some ⟨b, off, none⟩) 3 cap) (some 34) rfl rfl (by kernel_rfl) (by kernel_rfl) (by kernel_rfl) (fun _ _ _ h => h) (Or.inl ⟨by kernel_rfl, fun wq hw => by go_simp⟩) hHeld ?_
            simp only [Act.put, List.setIfInBounds_toArray, List.set_cons_succ, List.set_cons_zero]
            refine drawn_take (i := 3) (v := .pointer (some ⟨b, off, none⟩)) (some 35) rfl rfl (by kernel_rfl) (by kernel_rfl) (by kernel_rfl) (fun _ _ _ h => h) (Or.inl ⟨by kernel_rfl, fun wq hw => by go_simp⟩) hHeld ?_
            simp only [Act.put, List.setIfInBounds_toArray, List.set_cons_succ, List.set_cons_zero]
            refine drawn_take (i := 4) (v := .pointer (some ⟨b, off + 2, none⟩)) (some 36) rfl rfl (by kernel_rfl) (by kernel_rfl) (by kernel_rfl) (fun _ _ _ h => h) (Or.inl ⟨by kernel_rfl, fun wq hw => by go_simp⟩) hHeld ?_
            simp only [Act.put, List.setIfInBounds_toArray, List.set_cons_succ, List.set_cons_zero]
            refine drawn_take (i := 5) (v := .int .i64 f.lv) (some 37) rfl rfl (by kernel_rfl) (by kernel_rfl) (by kernel_rfl) (fun _ _ _ h => h) (Or.inl ⟨by kernel_rfl, fun wq hw => by have q9 := hw.1; go_simp⟩) hHeld ?_
            simp only [Act.put, List.setIfInBounds_toArray, List.set_cons_succ, List.set_cons_zero]
            refine drawn_take (i := 6) (v := .int .i64 (f.lv + 1)) (some 38) rfl rfl (by kernel_rfl) (by kernel_rfl) (by kernel_rfl) (fun _ _ _ h => h) (Or.inl ⟨by kernel_rfl, fun wq hw => by go_simp; rw [IntKind.wrap_i64]; omega⟩) hHeld ?_
            simp only [Act.put, List.setIfInBounds_toArray, List.set_cons_succ, List.set_cons_zero]
            refine drawn_take (i := 7) (v := .slice (some ⟨b, off, none⟩) 3 cap) (some 39) rfl rfl (by kernel_rfl) (by kernel_rfl) (by kernel_rfl) (fun _ _ _ h => h) (Or.inl ⟨by kernel_rfl, fun wq hw => by go_simp⟩) hHeld ?_
            simp only [Act.put, List.setIfInBounds_toArray, List.set_cons_succ, List.set_cons_zero]
            refine drawn_take (i := 8) (v := .pointer (some ⟨b, off + 16, none⟩)) (some 40) rfl rfl (by kernel_rfl) (by kernel_rfl) (by kernel_rfl) (fun _ _ _ h => h) (Or.inl ⟨by kernel_rfl, fun wq hw => by go_simp⟩) hHeld ?_
            simp only [Act.put, List.setIfInBounds_toArray, List.set_cons_succ, List.set_cons_zero]
            refine drawn_take (i := 9) (v := .pointer (some ⟨b, off + 19, none⟩)) (some 41) rfl rfl (by kernel_rfl) (by kernel_rfl) (by kernel_rfl) (fun _ _ _ h => h) (Or.inl ⟨by kernel_rfl, fun wq hw => by go_simp⟩) hHeld ?_
            simp only [Act.put, List.setIfInBounds_toArray, List.set_cons_succ, List.set_cons_zero]
            refine drawn_take (i := 10) (v := .int .i64 x.rk) (some 42) rfl rfl (by kernel_rfl) (by kernel_rfl) (by kernel_rfl) (fun _ _ _ h => h) (Or.inl ⟨by kernel_rfl, fun wq hw => by have q9 := hw.2; go_simp⟩) hHeld ?_
            simp only [Act.put, List.setIfInBounds_toArray, List.set_cons_succ, List.set_cons_zero]
            refine drawn_take (i := 11) (v := .slice (some ⟨b, off, none⟩) 3 cap) (some 43) rfl rfl (by kernel_rfl) (by kernel_rfl) (by kernel_rfl) (fun _ _ _ h => h) (Or.inl ⟨by kernel_rfl, fun wq hw => by go_simp⟩) hHeld ?_
            simp only [Act.put, List.setIfInBounds_toArray, List.set_cons_succ, List.set_cons_zero]
            refine wpAnyH_ready (rs := [12]) (by kernel_rfl) (by simp) ?_
            refine rdy_call (i := 12) rfl rfl (some 44) rfl 31 #[.slice (some ⟨b, off, none⟩) 3 cap] (call1_run (x := 43) (ts := #[22]) (by kernel_rfl) (fun _ _ => rfl) (by kernel_rfl)) (fun v w' => w'.ownsRow w4.drew.heap.size 3 1 v 3 (ivs [f.nu, g.nu, x.nu]) ∧ Below w4.drew.heap.size w4.drew w') (HNU) (fun r w9 hR => ?_) rdy_nil
            obtain ⟨op, b9⟩ := hR
            obtain ⟨pa, pc, rfl⟩ := own_slice op
            have Q9 : Hid (w9.heap[w.heap.size]? = some (.cells #[.int .i64 0, .int .i64 0, .int .i64 0, .int .i64 0, .int .i64 0, .int .i64 0, .int .i64 0, .slice none 0 0] 32 (0, 0))) := hidn ((b9.block _ hQs).trans Q5.out)
            have B9 := B5.trans (b9.mono B5.size)
            refine ⟨⟨(b9.cell hbk).trans f2, (b9.cell hbk).trans x3⟩, fun hHeld => ?_⟩
            simp only [Act.put, List.setIfInBounds_toArray, List.set_cons_succ, List.set_cons_zero]
            refine drawn_take (i := 13) (v := .agg #[.int .i64 nu, .int .i64 ge, .int .i64 (f.lv + 1), .int .i64 x.rk, .int .i64 0, .int .i64 0, .int .i64 0, .slice pa 3 pc]) (some 45) rfl rfl (by kernel_rfl) (by kernel_rfl) (by kernel_rfl) (fun _ _ _ h => h) (Or.inl ⟨by kernel_rfl, fun wq hw => bld_foot (x0 := .tmp 32) (x1 := .tmp 33) (x2 := .tmp 38) (x3 := .tmp 42) (x7 := .tmp 44) (by kernel_rfl) (by kernel_rfl) (by kernel_rfl) (by kernel_rfl) (by kernel_rfl) (by kernel_rfl)⟩) hHeld ?_
            simp only [Act.put, List.setIfInBounds_toArray, List.set_cons_succ, List.set_cons_zero]
            have hne : b ≠ w.heap.size := fun e => by
              have := h.at (j := 0) (d := f) (by rw [hEL.out]; rfl)
              obtain ⟨_, _, e9, hb9, -⟩ := this
              cases e9
              omega
            have HS : Hid ((w9.setRow w.heap.size #[.int .i64 nu, .int .i64 ge, .int .i64 (f.lv + 1), .int .i64 x.rk, .int .i64 0, .int .i64 0, .int .i64 0, .slice pa 3 pc]).heap[w.heap.size]? = some (.cells #[.int .i64 nu, .int .i64 ge, .int .i64 (f.lv + 1), .int .i64 x.rk, .int .i64 0, .int .i64 0, .int .i64 0, .slice pa 3 pc] 32 (0, 0))) := hidn (setRow_heap _ _ _ _ _ _ Q9.out)
            have BS := below_setRow B9 (Nat.le_refl _) #[.int .i64 nu, .int .i64 ge, .int .i64 (f.lv + 1), .int .i64 x.rk, .int .i64 0, .int .i64 0, .int .i64 0, .slice pa 3 pc]
            have hcell : ∀ o, (w9.setRow w.heap.size #[.int .i64 nu, .int .i64 ge, .int .i64 (f.lv + 1), .int .i64 x.rk, .int .i64 0, .int .i64 0, .int .i64 0, .slice pa 3 pc]).cell? ⟨b, o, none⟩ = w9.cell? ⟨b, o, none⟩ := fun o => by
              simp only [World.cell?]
              rw [setRow_other _ _ _ _ hne]
            have HIP : Hid (Ils (w9.setRow w.heap.size #[.int .i64 nu, .int .i64 ge, .int .i64 (f.lv + 1), .int .i64 x.rk, .int .i64 0, .int .i64 0, .int .i64 0, .slice pa 3 pc]) pa 3 [f.nu, g.nu, x.nu] ∧ 3 ≤ pc) := hidn (by
              obtain ⟨_, _, ee, ii, hh⟩ := ils_of_own (l := [f.nu, g.nu, x.nu]) (own_setRow op hQs #[.int .i64 nu, .int .i64 ge, .int .i64 (f.lv + 1), .int .i64 x.rk, .int .i64 0, .int .i64 0, .int .i64 0, .slice pa 3 pc])
              cases ee
              exact ⟨ii, hh⟩)
            refine wpAnyH_ready (rs := [14]) (by kernel_rfl) (by simp) ?_
            refine rdy_unit (i := 14) rfl rfl none rfl (w9.setRow w.heap.size #[.int .i64 nu, .int .i64 ge, .int .i64 (f.lv + 1), .int .i64 x.rk, .int .i64 0, .int .i64 0, .int .i64 0, .slice pa 3 pc]) (st_foot (x := .tmp 6) (y := .tmp 45) (by kernel_rfl) (by kernel_rfl) (by kernel_rfl) Q9.out rfl rfl (by kernel_rfl)) (⟨(hcell _).trans hHeld.1, (hcell _).trans hHeld.2⟩) (fun hHeld => ?_) rdy_nil
            simp only [Act.put]
            refine drawn_take (i := 15) (v := .int .i64 0) (some 7) rfl rfl (by kernel_rfl) (by kernel_rfl) (by kernel_rfl) (fun _ _ _ h => h) (Or.inl ⟨by kernel_rfl, fun wq hw => by go_simp⟩) hHeld ?_
            simp only [Act.put, List.setIfInBounds_toArray, List.set_cons_succ, List.set_cons_zero]
            refine wpAnyH_done (by kernel_rfl) ?_ _
            refine NoPanic.normal ?_
            clear hHeld
            go_wp2_with fail
            exact bodyPost_ret (v := .tuple #[(⟨nu, ge, f.lv + 1, x.rk, 0, 0, 0, pa, 3, pc, [f.nu, g.nu, x.nu]⟩ : Fo).agg, .int .i64 0]) (results_foot rfl _ _ w.heap.size #[.int .i64 nu, .int .i64 ge, .int .i64 (f.lv + 1), .int .i64 x.rk, .int .i64 0, .int .i64 0, .int .i64 0, .slice pa 3 pc] (by kernel_rfl) (by kernel_rfl) HS.out rfl) rfl ⟨_, by rw [HY.out], by rw [HY.out]; rfl, HIP.out, BS⟩
  · have hl3' : ((len : Int) != 3) = true := by simp; omega
    have HFAIL : Hid (¬ l.length = 3) := hidn (by rw [hlen.out]; exact hl3)
    go_enter Try.func18, Try.ntmps18
    have HNO : Hid (V = ((0, 0, 0, 0, 0, 0, 0, []), 1)) := hidn (by rw [HV.out]; exact mgV_no (by simp [okMg, HFAIL.out]))
    go_wp2_with fail
    exact bodyPost_ret (v := .tuple #[(⟨0, 0, 0, 0, 0, 0, 0, none, 0, 0, []⟩ : Fo).agg, .int .i64 1]) (results_foot rfl _ _ w.heap.size #[.int .i64 0, .int .i64 0, .int .i64 0, .int .i64 0, .int .i64 0, .int .i64 0, .int .i64 0, .slice none 0 0] (by kernel_rfl) (by kernel_rfl) (by rw [← HWZ.out]; exact QZ.out) rfl) rfl ⟨⟨0, 0, 0, 0, 0, 0, 0, none, 0, 0, []⟩, by rw [HNO.out], by rw [HNO.out]; rfl, ⟨⟨rfl, Nat.zero_le _, fun _ => rfl, (fun x hx => by cases hx)⟩, Nat.le_refl _⟩, (by rw [← HWZ.out]; exact bZ)⟩

set_option maxHeartbeats 600000 in
set_option maxRecDepth 100000 in
theorem refMerged_any (a : Option Addr) (len cap : Nat) (l : List Fo) (nu ge : Int) (w : World) (h : Fls w a len l) (hm : len ≤ 1000000) (hc : len ≤ cap) :
    Calls Try.prog 19 #[.slice a len cap, .int .i64 nu, .int .i64 ge] w (MgP w (mgV l nu ge)) := by
  have hlen := hidn h.1
  obtain ⟨V, hV⟩ : ∃ V, V = mgV l nu ge := ⟨_, rfl⟩
  rw [← hV]
  have HV := hidn hV
  clear hV
  obtain ⟨wZ, hwZ⟩ : ∃ wZ, wZ = w.alloc (.cells #[.int .i64 0, .int .i64 0, .int .i64 0, .int .i64 0, .int .i64 0, .int .i64 0, .int .i64 0, .slice none 0 0] 32) := ⟨_, rfl⟩
  have bZ : Below w.heap.size w wZ := by rw [hwZ]; exact (Below.refl _ w).alloc (Nat.le_refl _) _
  have qZ : wZ.heap[w.heap.size]? = some (.cells #[.int .i64 0, .int .i64 0, .int .i64 0, .int .i64 0, .int .i64 0, .int .i64 0, .int .i64 0, .slice none 0 0] 32 (0, 0)) := by rw [hwZ]; exact heap_alloc_new w _
  have hZs : w.heap.size < wZ.heap.size := (Array.getElem?_eq_some_iff.1 qZ).1
  have QZ := hidn qZ
  have HWZ := hidn hwZ
  clear hwZ qZ
  by_cases hl3 : len = 3
  · subst hl3
    have H1 := hidn (refCan_any a 3 cap l wZ (h.below bZ) hm hc)
    go_enter Try.func19, Try.ntmps19
    go_wp2_with fail
    rw [← HWZ.out]
    refine H1.out.mono ?_
    rintro e w1 ⟨rfl, b1⟩
    have Q1 : Hid (w1.heap[w.heap.size]? = some (.cells #[.int .i64 0, .int .i64 0, .int .i64 0, .int .i64 0, .int .i64 0, .int .i64 0, .int .i64 0, .slice none 0 0] 32 (0, 0))) := hidn ((b1.block _ hZs).trans QZ.out)
    have B1 := bZ.trans (b1.mono bZ.size)
    cases hp : pcL l with
    | false =>
      have HFAIL := hidn hp
      clear hp
      have HNO : Hid (V = ((0, 0, 0, 0, 0, 0, 0, []), 1)) := hidn (by rw [HV.out]; exact mgV_no (by simp [okMg, HFAIL.out]))
      obtain ⟨⟨k0, k1, k2, k3, k4, k5, k6, k7⟩, kf, kh, kb⟩ := fin8 Q1.out (.int .i64 0) (.int .i64 0) (.int .i64 0) (.int .i64 0) (.int .i64 0) (.int .i64 0) (.int .i64 0) (.slice none 0 0)
      have KH := hidn kh
      have KB := hidn (kb w.heap.size w B1 (Nat.le_refl _))
      clear kh kb
      go_wp2_with fail
      exact bodyPost_ret (v := .tuple #[(⟨0, 0, 0, 0, 0, 0, 0, none, 0, 0, []⟩ : Fo).agg, .int .i64 1]) (results_foot rfl _ _ w.heap.size #[.int .i64 0, .int .i64 0, .int .i64 0, .int .i64 0, .int .i64 0, .int .i64 0, .int .i64 0, .slice none 0 0] (by kernel_rfl) (by kernel_rfl) KH.out rfl) rfl ⟨⟨0, 0, 0, 0, 0, 0, 0, none, 0, 0, []⟩, by rw [HNO.out], by rw [HNO.out]; rfl, ⟨⟨rfl, Nat.zero_le _, fun _ => rfl, (fun x hx => by cases hx)⟩, Nat.le_refl _⟩, KB.out⟩
    | true =>
      have H2 := hidn (refMerge_any a 3 cap l w1 ((h.below bZ).below b1) hm hc)
      go_wp2_with fail
      refine H2.out.mono ?_
      rintro e w2 ⟨v2, rfl, o2, b2⟩
      obtain ⟨a2, c2, rfl, -, -⟩ := ils_of_own o2
      clear o2
      have Q2 : Hid (w2.heap[w.heap.size]? = some (.cells #[.int .i64 0, .int .i64 0, .int .i64 0, .int .i64 0, .int .i64 0, .int .i64 0, .int .i64 0, .slice none 0 0] 32 (0, 0))) := hidn ((b2.block _ (Nat.lt_of_lt_of_le hZs b1.size)).trans Q1.out)
      have B2 := B1.trans (b2.mono B1.size)
      obtain ⟨m2, hm2⟩ : ∃ m, m = (mergeL l).length := ⟨_, rfl⟩
      rw [← hm2]
      have HL3 : Hid (m2 = if canMergeL l then 3 else 0) := hidn (by
        obtain ⟨f, g, x, t, e1, -⟩ := three (l := l) (k := 0) (by rw [hlen.out]; omega)
        rw [List.drop_zero] at e1
        have ht : t = [] := by
          have := hlen.out
          rw [e1] at this
          simpa using this
        rw [hm2, e1, ht, canMergeL_three]
        cases hk : okM f g x <;> simp [mergeL, hk])
      clear hm2
      cases hq : canMergeL l with
      | false =>
        have HFAIL := hidn hq
        obtain rfl : m2 = 0 := by rw [HL3.out, hq]; rfl
        clear hq
        have HNO : Hid (V = ((0, 0, 0, 0, 0, 0, 0, []), 1)) := hidn (by rw [HV.out]; exact mgV_no (by simp [okMg, HFAIL.out]))
        obtain ⟨⟨k0, k1, k2, k3, k4, k5, k6, k7⟩, kf, kh, kb⟩ := fin8 Q2.out (.int .i64 0) (.int .i64 0) (.int .i64 0) (.int .i64 0) (.int .i64 0) (.int .i64 0) (.int .i64 0) (.slice none 0 0)
        have KH := hidn kh
        have KB := hidn (kb w.heap.size w B2 (Nat.le_refl _))
        clear kh kb
        go_wp2_with fail
        exact bodyPost_ret (v := .tuple #[(⟨0, 0, 0, 0, 0, 0, 0, none, 0, 0, []⟩ : Fo).agg, .int .i64 1]) (results_foot rfl _ _ w.heap.size #[.int .i64 0, .int .i64 0, .int .i64 0, .int .i64 0, .int .i64 0, .int .i64 0, .int .i64 0, .slice none 0 0] (by kernel_rfl) (by kernel_rfl) KH.out rfl) rfl ⟨⟨0, 0, 0, 0, 0, 0, 0, none, 0, 0, []⟩, by rw [HNO.out], by rw [HNO.out]; rfl, ⟨⟨rfl, Nat.zero_le _, fun _ => rfl, (fun x hx => by cases hx)⟩, Nat.le_refl _⟩, KB.out⟩
      | true =>
        obtain rfl : m2 = 3 := by rw [HL3.out, hq]; rfl
        have H3 := hidn (refNumber_any nu w2)
        go_wp2_with fail
        refine H3.out.mono ?_
        rintro e w3 ⟨rfl, rfl⟩
        cases hn : numB nu with
        | false =>
          have HFAIL := hidn hn
          clear hn
          have HNO : Hid (V = ((0, 0, 0, 0, 0, 0, 0, []), 1)) := hidn (by rw [HV.out]; exact mgV_no (by simp [okMg, HFAIL.out]))
          obtain ⟨⟨k0, k1, k2, k3, k4, k5, k6, k7⟩, kf, kh, kb⟩ := fin8 Q2.out (.int .i64 0) (.int .i64 0) (.int .i64 0) (.int .i64 0) (.int .i64 0) (.int .i64 0) (.int .i64 0) (.slice none 0 0)
          have KH := hidn kh
          have KB := hidn (kb w.heap.size w B2 (Nat.le_refl _))
          clear kh kb
          go_wp2_with fail
          exact bodyPost_ret (v := .tuple #[(⟨0, 0, 0, 0, 0, 0, 0, none, 0, 0, []⟩ : Fo).agg, .int .i64 1]) (results_foot rfl _ _ w.heap.size #[.int .i64 0, .int .i64 0, .int .i64 0, .int .i64 0, .int .i64 0, .int .i64 0, .int .i64 0, .slice none 0 0] (by kernel_rfl) (by kernel_rfl) KH.out rfl) rfl ⟨⟨0, 0, 0, 0, 0, 0, 0, none, 0, 0, []⟩, by rw [HNO.out], by rw [HNO.out]; rfl, ⟨⟨rfl, Nat.zero_le _, fun _ => rfl, (fun x hx => by cases hx)⟩, Nat.le_refl _⟩, KB.out⟩
        | true =>
          have H4 := hidn (refNumber_any ge w3)
          go_wp2_with fail
          refine H4.out.mono ?_
          rintro e w4 ⟨rfl, rfl⟩
          cases hge : numB ge with
          | false =>
            have HFAIL := hidn hge
            clear hge
            have HNO : Hid (V = ((0, 0, 0, 0, 0, 0, 0, []), 1)) := hidn (by rw [HV.out]; exact mgV_no (by simp [okMg, HFAIL.out]))
            obtain ⟨⟨k0, k1, k2, k3, k4, k5, k6, k7⟩, kf, kh, kb⟩ := fin8 Q2.out (.int .i64 0) (.int .i64 0) (.int .i64 0) (.int .i64 0) (.int .i64 0) (.int .i64 0) (.int .i64 0) (.slice none 0 0)
            have KH := hidn kh
            have KB := hidn (kb w.heap.size w B2 (Nat.le_refl _))
            clear kh kb
            go_wp2_with fail
            exact bodyPost_ret (v := .tuple #[(⟨0, 0, 0, 0, 0, 0, 0, none, 0, 0, []⟩ : Fo).agg, .int .i64 1]) (results_foot rfl _ _ w.heap.size #[.int .i64 0, .int .i64 0, .int .i64 0, .int .i64 0, .int .i64 0, .int .i64 0, .int .i64 0, .slice none 0 0] (by kernel_rfl) (by kernel_rfl) KH.out rfl) rfl ⟨⟨0, 0, 0, 0, 0, 0, 0, none, 0, 0, []⟩, by rw [HNO.out], by rw [HNO.out]; rfl, ⟨⟨rfl, Nat.zero_le _, fun _ => rfl, (fun x hx => by cases hx)⟩, Nat.le_refl _⟩, KB.out⟩
          | true =>
            obtain ⟨f, g, x, t, e1, -, e3, e4, e5, -⟩ := three (l := l) (k := 0) (by rw [hlen.out]; omega)
            rw [List.drop_zero] at e1
            have ht : t = [] := by
              have := hlen.out
              rw [e1] at this
              simpa using this
            subst ht
            have h4 := ((h.below bZ).below b1).below b2
            obtain ⟨b, off, rfl, hbk, -, -, f2, -⟩ := h4.at e3
            obtain ⟨_, _, e, -, -, -, -, x3, -⟩ := h4.at e5
            cases e
            simp only [Nat.zero_mul, Nat.add_zero] at f2
            have x3 : w4.cell? ⟨b, off + 19, none⟩ = some (.int .i64 x.rk) := x3
            have HY : Hid (V = ((nu, ge, f.lv + 1, x.rk, 0, 0, 0, [f.nu, g.nu, x.nu]), 0)) := hidn (by rw [HV.out, e1]; exact mgV_yes (by rw [e1] at hp hq; simp [okMg, hp, hq, hn, hge]))
            have hlv : 1 ≤ f.lv ∧ f.lv ≤ 3 := by
              have hs : standF f = true := by
                have h5 := hp
                unfold pcL at h5
                rw [Bool.and_eq_true] at h5
                have h6 := List.all_eq_true.1 h5.1 0 (List.mem_range.2 (by rw [hlen.out]; omega))
                rw [pcAt_of e3, Bool.and_eq_true] at h6
                exact h6.1
              have := standF_true hs
              exact ⟨this.2.2.2.1, this.2.2.2.2.1⟩
            have hEL : Hid (l = [f, g, x]) := hidn e1
            have HQ := hidn hq
            clear e1 e3 e4 e5 hp hq
            have bd : Below w4.heap.size w4 w4.drew := (Below.refl _ w4).drew
            have h5 := h4.below bd
            have Q5 : Hid (w4.drew.heap[w.heap.size]? = some (.cells #[.int .i64 0, .int .i64 0, .int .i64 0, .int .i64 0, .int .i64 0, .int .i64 0, .int .i64 0, .slice none 0 0] 32 (0, 0))) := Q2
            have hQs : w.heap.size < w4.drew.heap.size := (Array.getElem?_eq_some_iff.1 Q5.out).1
            have B5 := B2.trans (bd.mono B2.size)
            have HNU : Calls Try.prog 16 #[.slice (some ⟨b, off, none⟩) 3 cap] w4.drew (fun e w' => ∃ v, e = .returned v ∧ w'.ownsRow w4.drew.heap.size 3 1 v 3 (ivs [f.nu, g.nu, x.nu]) ∧ Below w4.drew.heap.size w4.drew w') := (refMerge_any (some ⟨b, off, none⟩) 3 cap l w4.drew h5 (by omega) hc).mono fun e w' hh => by
              obtain ⟨v, rfl, oo, bb⟩ := hh
              have e3 : mergeL l = [f.nu, g.nu, x.nu] := by
                have hk : okM f g x = true := by rw [← canMergeL_three, ← hEL.out]; exact HQ.out
                rw [hEL.out]
                simp [mergeL, hk]
              rw [e3] at oo
              exact ⟨_, rfl, oo, bb⟩
            go_wp2_with fail
            refine wp_region_noPanic ?_
            refine wp_region_held_drew (S := fun w' => w'.cell? ⟨b, off + 2, none⟩ = some (.int .i64 f.lv) ∧ w'.cell? ⟨b, off + 19, none⟩ = some (.int .i64 x.rk)) (by kernel_rfl) (⟨f2, x3⟩) (fun hHeld => ?_)
            refine drawn_take (i := 0) (v := .int .i64 nu) (some 33) rfl rfl (by kernel_rfl) (by kernel_rfl) (by kernel_rfl) (fun _ _ _ h => h) (Or.inl ⟨by kernel_rfl, fun wq hw => by go_simp⟩) hHeld ?_
            simp only [Act.put, List.setIfInBounds_toArray, List.set_cons_succ, List.set_cons_zero]
            refine drawn_take (i := 1) (v := .int .i64 ge) (some 34) rfl rfl (by kernel_rfl) (by kernel_rfl) (by kernel_rfl) (fun _ _ _ h => h) (Or.inl ⟨by kernel_rfl, fun wq hw => by go_simp⟩) hHeld ?_
            simp only [Act.put, List.setIfInBounds_toArray, List.set_cons_succ, List.set_cons_zero]
            refine drawn_take (i := 2) (v := .slice (some ⟨b, off, none⟩) 3 cap) (some 35) rfl rfl (by kernel_rfl) (by kernel_rfl) (by kernel_rfl) (fun _ _ _ h => h) (Or.inl ⟨by kernel_rfl, fun wq hw => by go_simp⟩) hHeld ?_
            simp only [Act.put, List.setIfInBounds_toArray, List.set_cons_succ, List.set_cons_zero]
            refine drawn_take (i := 3) (v := .pointer (some ⟨b, off, none⟩)) (some 36) rfl rfl (by kernel_rfl) (by kernel_rfl) (by kernel_rfl) (fun _ _ _ h => h) (Or.inl ⟨by kernel_rfl, fun wq hw => by go_simp⟩) hHeld ?_
            simp only [Act.put, List.setIfInBounds_toArray, List.set_cons_succ, List.set_cons_zero]
            refine drawn_take (i := 4) (v := .pointer (some ⟨b, off + 2, none⟩)) (some 37) rfl rfl (by kernel_rfl) (by kernel_rfl) (by kernel_rfl) (fun _ _ _ h => h) (Or.inl ⟨by kernel_rfl, fun wq hw => by go_simp⟩) hHeld ?_
            simp only [Act.put, List.setIfInBounds_toArray, List.set_cons_succ, List.set_cons_zero]
            refine drawn_take (i := 5) (v := .int .i64 f.lv) (some 38) rfl rfl (by kernel_rfl) (by kernel_rfl) (by kernel_rfl) (fun _ _ _ h => h) (Or.inl ⟨by kernel_rfl, fun wq hw => by have q9 := hw.1; go_simp⟩) hHeld ?_
            simp only [Act.put, List.setIfInBounds_toArray, List.set_cons_succ, List.set_cons_zero]
            refine drawn_take (i := 6) (v := .int .i64 (f.lv + 1)) (some 39) rfl rfl (by kernel_rfl) (by kernel_rfl) (by kernel_rfl) (fun _ _ _ h => h) (Or.inl ⟨by kernel_rfl, fun wq hw => by go_simp; rw [IntKind.wrap_i64]; omega⟩) hHeld ?_
            simp only [Act.put, List.setIfInBounds_toArray, List.set_cons_succ, List.set_cons_zero]
            refine drawn_take (i := 7) (v := .slice (some ⟨b, off, none⟩) 3 cap) (some 40) rfl rfl (by kernel_rfl) (by kernel_rfl) (by kernel_rfl) (fun _ _ _ h => h) (Or.inl ⟨by kernel_rfl, fun wq hw => by go_simp⟩) hHeld ?_
            simp only [Act.put, List.setIfInBounds_toArray, List.set_cons_succ, List.set_cons_zero]
            refine drawn_take (i := 8) (v := .pointer (some ⟨b, off + 16, none⟩)) (some 41) rfl rfl (by kernel_rfl) (by kernel_rfl) (by kernel_rfl) (fun _ _ _ h => h) (Or.inl ⟨by kernel_rfl, fun wq hw => by go_simp⟩) hHeld ?_
            simp only [Act.put, List.setIfInBounds_toArray, List.set_cons_succ, List.set_cons_zero]
            refine drawn_take (i := 9) (v := .pointer (some ⟨b, off + 19, none⟩)) (some 42) rfl rfl (by kernel_rfl) (by kernel_rfl) (by kernel_rfl) (fun _ _ _ h => h) (Or.inl ⟨by kernel_rfl, fun wq hw => by go_simp⟩) hHeld ?_
            simp only [Act.put, List.setIfInBounds_toArray, List.set_cons_succ, List.set_cons_zero]
            refine drawn_take (i := 10) (v := .int .i64 x.rk) (some 43) rfl rfl (by kernel_rfl) (by kernel_rfl) (by kernel_rfl) (fun _ _ _ h => h) (Or.inl ⟨by kernel_rfl, fun wq hw => by have q9 := hw.2; go_simp⟩) hHeld ?_
            simp only [Act.put, List.setIfInBounds_toArray, List.set_cons_succ, List.set_cons_zero]
            refine drawn_take (i := 11) (v := .slice (some ⟨b, off, none⟩) 3 cap) (some 44) rfl rfl (by kernel_rfl) (by kernel_rfl) (by kernel_rfl) (fun _ _ _ h => h) (Or.inl ⟨by kernel_rfl, fun wq hw => by go_simp⟩) hHeld ?_
            simp only [Act.put, List.setIfInBounds_toArray, List.set_cons_succ, List.set_cons_zero]
            refine wpAnyH_ready (rs := [12]) (by kernel_rfl) (by simp) ?_
            refine rdy_call (i := 12) rfl rfl (some 45) rfl 16 #[.slice (some ⟨b, off, none⟩) 3 cap] (call1_run (x := 44) (ts := #[22]) (by kernel_rfl) (fun _ _ => rfl) (by kernel_rfl)) (fun v w' => w'.ownsRow w4.drew.heap.size 3 1 v 3 (ivs [f.nu, g.nu, x.nu]) ∧ Below w4.drew.heap.size w4.drew w') (HNU) (fun r w9 hR => ?_) rdy_nil
            obtain ⟨op, b9⟩ := hR
            obtain ⟨pa, pc, rfl⟩ := own_slice op
            have Q9 : Hid (w9.heap[w.heap.size]? = some (.cells #[.int .i64 0, .int .i64 0, .int .i64 0, .int .i64 0, .int .i64 0, .int .i64 0, .int .i64 0, .slice none 0 0] 32 (0, 0))) := hidn ((b9.block _ hQs).trans Q5.out)
            have B9 := B5.trans (b9.mono B5.size)
            refine ⟨⟨(b9.cell hbk).trans f2, (b9.cell hbk).trans x3⟩, fun hHeld => ?_⟩
            simp only [Act.put, List.setIfInBounds_toArray, List.set_cons_succ, List.set_cons_zero]
            refine drawn_take (i := 13) (v := .agg #[.int .i64 nu, .int .i64 ge, .int .i64 (f.lv + 1), .int .i64 x.rk, .int .i64 0, .int .i64 0, .int .i64 0, .slice pa 3 pc]) (some 46) rfl rfl (by kernel_rfl) (by kernel_rfl) (by kernel_rfl) (fun _ _ _ h => h) (Or.inl ⟨by kernel_rfl, fun wq hw => bld_foot (x0 := .tmp 33) (x1 := .tmp 34) (x2 := .tmp 39) (x3 := .tmp 43) (x7 := .tmp 45) (by kernel_rfl) (by kernel_rfl) (by kernel_rfl) (by kernel_rfl) (by kernel_rfl) (by kernel_rfl)⟩) hHeld ?_
            simp only [Act.put, List.setIfInBounds_toArray, List.set_cons_succ, List.set_cons_zero]
            have hne : b ≠ w.heap.size := fun e => by
              have := h.at (j := 0) (d := f) (by rw [hEL.out]; rfl)
              obtain ⟨_, _, e9, hb9, -⟩ := this
              cases e9
              omega
            have HS : Hid ((w9.setRow w.heap.size #[.int .i64 nu, .int .i64 ge, .int .i64 (f.lv + 1), .int .i64 x.rk, .int .i64 0, .int .i64 0, .int .i64 0, .slice pa 3 pc]).heap[w.heap.size]? = some (.cells #[.int .i64 nu, .int .i64 ge, .int .i64 (f.lv + 1), .int .i64 x.rk, .int .i64 0, .int .i64 0, .int .i64 0, .slice pa 3 pc] 32 (0, 0))) := hidn (setRow_heap _ _ _ _ _ _ Q9.out)
            have BS := below_setRow B9 (Nat.le_refl _) #[.int .i64 nu, .int .i64 ge, .int .i64 (f.lv + 1), .int .i64 x.rk, .int .i64 0, .int .i64 0, .int .i64 0, .slice pa 3 pc]
            have hcell : ∀ o, (w9.setRow w.heap.size #[.int .i64 nu, .int .i64 ge, .int .i64 (f.lv + 1), .int .i64 x.rk, .int .i64 0, .int .i64 0, .int .i64 0, .slice pa 3 pc]).cell? ⟨b, o, none⟩ = w9.cell? ⟨b, o, none⟩ := fun o => by
              simp only [World.cell?]
              rw [setRow_other _ _ _ _ hne]
            have HIP : Hid (Ils (w9.setRow w.heap.size #[.int .i64 nu, .int .i64 ge, .int .i64 (f.lv + 1), .int .i64 x.rk, .int .i64 0, .int .i64 0, .int .i64 0, .slice pa 3 pc]) pa 3 [f.nu, g.nu, x.nu] ∧ 3 ≤ pc) := hidn (by
              obtain ⟨_, _, ee, ii, hh⟩ := ils_of_own (l := [f.nu, g.nu, x.nu]) (own_setRow op hQs #[.int .i64 nu, .int .i64 ge, .int .i64 (f.lv + 1), .int .i64 x.rk, .int .i64 0, .int .i64 0, .int .i64 0, .slice pa 3 pc])
              cases ee
              exact ⟨ii, hh⟩)
            refine wpAnyH_ready (rs := [14]) (by kernel_rfl) (by simp) ?_
            refine rdy_unit (i := 14) rfl rfl none rfl (w9.setRow w.heap.size #[.int .i64 nu, .int .i64 ge, .int .i64 (f.lv + 1), .int .i64 x.rk, .int .i64 0, .int .i64 0, .int .i64 0, .slice pa 3 pc]) (st_foot (x := .tmp 6) (y := .tmp 46) (by kernel_rfl) (by kernel_rfl) (by kernel_rfl) Q9.out rfl rfl (by kernel_rfl)) (⟨(hcell _).trans hHeld.1, (hcell _).trans hHeld.2⟩) (fun hHeld => ?_) rdy_nil
            simp only [Act.put]
            refine drawn_take (i := 15) (v := .int .i64 0) (some 7) rfl rfl (by kernel_rfl) (by kernel_rfl) (by kernel_rfl) (fun _ _ _ h => h) (Or.inl ⟨by kernel_rfl, fun wq hw => by go_simp⟩) hHeld ?_
            simp only [Act.put, List.setIfInBounds_toArray, List.set_cons_succ, List.set_cons_zero]
            refine wpAnyH_done (by kernel_rfl) ?_ _
            refine NoPanic.normal ?_
            clear hHeld
            go_wp2_with fail
            exact bodyPost_ret (v := .tuple #[(⟨nu, ge, f.lv + 1, x.rk, 0, 0, 0, pa, 3, pc, [f.nu, g.nu, x.nu]⟩ : Fo).agg, .int .i64 0]) (results_foot rfl _ _ w.heap.size #[.int .i64 nu, .int .i64 ge, .int .i64 (f.lv + 1), .int .i64 x.rk, .int .i64 0, .int .i64 0, .int .i64 0, .slice pa 3 pc] (by kernel_rfl) (by kernel_rfl) HS.out rfl) rfl ⟨_, by rw [HY.out], by rw [HY.out]; rfl, HIP.out, BS⟩
  · have hl3' : ((len : Int) != 3) = true := by simp; omega
    have HFAIL : Hid (¬ l.length = 3) := hidn (by rw [hlen.out]; exact hl3)
    go_enter Try.func19, Try.ntmps19
    have HNO : Hid (V = ((0, 0, 0, 0, 0, 0, 0, []), 1)) := hidn (by rw [HV.out]; exact mgV_no (by simp [okMg, HFAIL.out]))
    go_wp2_with fail
    exact bodyPost_ret (v := .tuple #[(⟨0, 0, 0, 0, 0, 0, 0, none, 0, 0, []⟩ : Fo).agg, .int .i64 1]) (results_foot rfl _ _ w.heap.size #[.int .i64 0, .int .i64 0, .int .i64 0, .int .i64 0, .int .i64 0, .int .i64 0, .int .i64 0, .slice none 0 0] (by kernel_rfl) (by kernel_rfl) (by rw [← HWZ.out]; exact QZ.out) rfl) rfl ⟨⟨0, 0, 0, 0, 0, 0, 0, none, 0, 0, []⟩, by rw [HNO.out], by rw [HNO.out]; rfl, ⟨⟨rfl, Nat.zero_le _, fun _ => rfl, (fun x hx => by cases hx)⟩, Nat.le_refl _⟩, (by rw [← HWZ.out]; exact bZ)⟩

set_option maxHeartbeats 600000 in
set_option maxRecDepth 100000 in
theorem sameFooter_same (f g : Fo) (w : World) (he : f.pv = g.pv) (hf : Ils w f.pa f.pl f.ps) (hg : Ils w g.pa g.pl g.ps) :
    Calls Try.prog 20 #[f.agg, g.agg] w fun e w' => e = .returned (.bool true) ∧ Below w.heap.size w w' := by
  obtain ⟨nu, ge, lv, rk, mn, mx, bt, pa, pl, pc, ps⟩ := f
  obtain ⟨nu', ge', lv', rk', mn', mx', bt', pa', pl', pc', ps'⟩ := g
  simp only [Fo.pv, Prod.mk.injEq] at he
  obtain ⟨rfl, rfl, rfl, rfl, rfl, rfl, rfl, rfl⟩ := he
  simp only [Fo.agg] at hf hg ⊢
  obtain rfl : pl = pl' := by rw [← hf.1, ← hg.1]
  obtain ⟨wA, hwA⟩ : ∃ wA, wA = (w.alloc (.cells #[.int .i64 nu, .int .i64 ge, .int .i64 lv, .int .i64 rk, .int .i64 mn, .int .i64 mx, .int .i64 bt, .slice pa pl pc] 32)).alloc (.cells #[.int .i64 nu, .int .i64 ge, .int .i64 lv, .int .i64 rk, .int .i64 mn, .int .i64 mx, .int .i64 bt, .slice pa' pl pc'] 32) := ⟨_, rfl⟩
  have bA : Below w.heap.size w wA := by rw [hwA]; exact ((Below.refl _ w).alloc (Nat.le_refl _) _).alloc (by simp) _
  have HE := hidn (equal_same pa pa' pl pc pc' ps wA (hf.below bA) (hg.below bA))
  have HWA := hidn hwA
  clear hwA
  go_enter Try.func20, Try.ntmps20
  go_wp2_with fail
  rw [← HWA.out]
  refine HE.out.mono ?_
  rintro e w1 ⟨rfl, b1⟩
  have B1 := bA.trans (b1.mono bA.size)
  go_wp2_with fail
  exact bodyPost_ret (v := .bool true) (by simp [results, Try.results20, go_sem]) rfl ⟨rfl, B1⟩

end Go.Proofs.Ytjckfcholnkleaa
