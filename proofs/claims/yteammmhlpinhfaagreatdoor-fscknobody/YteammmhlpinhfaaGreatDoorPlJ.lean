/- plan.Merged, and the document's; dryrotplain.SameFooter. -/
import Derived.Test.YteammmhlpinhfaaGreatDoorPlE
import Derived.Test.YteammmhlpinhfaaGreatDoorPlF
import Derived.Test.YteammmhlpinhfaaGreatDoorPlI
import Derived.Laws.Tables
import Derived.Laws.CopyOwn
namespace Go.Proofs.YteammmhlpinhfaaGreatDoor
open Go.RowKit Go.Joins
set_option linter.unusedVariables false

abbrev Fpv := Int × Int × Int × Int × Int × Int × Int × List Int

def okMg (l : List Fo) (nu ge : Int) : Bool := decide (l.length = 3) && pcL l && canMergeL l && numB nu && numB ge

def mgV (l : List Fo) (nu ge : Int) : Fpv × Int := match l with
  | [f, g, h] => if okMg l nu ge then ((nu, ge, f.lv + 1, h.rk, 0, 0, 0, [f.nu, g.nu, h.nu]), 0) else ((0, 0, 0, 0, 0, 0, 0, []), 1)
  | _ => ((0, 0, 0, 0, 0, 0, 0, []), 1)

theorem mgV_no {l : List Fo} {nu ge : Int} (h : okMg l nu ge = false) : mgV l nu ge = ((0, 0, 0, 0, 0, 0, 0, []), 1) := by
  unfold mgV
  split
  · rw [h]; rfl
  · rfl

theorem mgV_yes {f g x : Fo} {nu ge : Int} (h : okMg [f, g, x] nu ge = true) : mgV [f, g, x] nu ge = ((nu, ge, f.lv + 1, x.rk, 0, 0, 0, [f.nu, g.nu, x.nu]), 0) := by
  simp [mgV, h]

/-- A footer that is answered, with an error's number. -/
def MgP (w : World) (V : Fpv × Int) (e : Ending) (w' : World) : Prop := ∃ f : Fo, e = .returned (.tuple #[f.agg, .int .i64 V.2]) ∧ f.pv = V.1 ∧ (Ils w' f.pa f.pl f.ps ∧ f.pl ≤ f.pc) ∧ Below w.heap.size w w'

theorem results_foot {fn : Func} {p u : Tmp} {v : Value} (h : fn.results = #[.cell p 40, .tmp u]) (tmps : Array Value) (w : World) (g : Nat) (cs : Array Value)
    (hp : tmps.getD p undef = .pointer (some ⟨g, 0, none⟩)) (hv : tmps.getD u undef = v) (hg : w.heap[g]? = some (.cells cs 40 (0, 0))) (hs : cs.size = 8) :
    (results fn tmps).run Tryz.prog w = .ok (.tuple #[.agg cs, v]) w := by
  have hp' : tmps[p]?.getD undef = .pointer (some ⟨g, 0, none⟩) := by simpa using hp
  have hv' : tmps[u]?.getD undef = v := by simpa using hv
  have hi : (Tryz.prog.info? 40).map (·.size) = some cs.size := by rw [hs]; kernel_rfl
  simp [results, h, hp', hv', asAddr, run_loadVar_row w g 40 40 cs (0, 0) _ hg Tryz.underlying40 rfl hi]

theorem rdy_unit {P : Program} {md : Region.Mode} {ops : Array Oper} {Q : Exit → Act → World → Prop} {S : World → Prop} {fuel : Nat} {listed : Array Bool} {a : Act} {w : World} {i : Nat} {o : Oper} {rs : List Nat} (ho : ops[i]? = some o) (hgd : o.guard = none) (dst : Option Nat) (hd : o.dst = dst) (w' : World) (hrun : (execOp a.eval o).run P w = .ok .skip w') (hS : S w')
    (h : S w' → wpAnyH P md ops Q S fuel (listed.setIfInBounds i true) (a.put dst undef) w') (hs : AllReadyH P md ops Q S fuel listed a w rs) : AllReadyH P md ops Q S fuel listed a w (i :: rs) := by
  subst hd
  refine AllReadyH.cons ho (fun K hK => ?_) hs
  have hw : Region.wanted o (yielded ops a.tmps) = true := by simp [Region.wanted, hgd]
  rw [if_pos hw]
  unfold Oper.wp
  rw [hrun]
  exact hK _ _ hS h

theorem builtFoot (n g v r : Int) (pa : Option Addr) (pl pc : Nat) : Tryz.prog.built 40 [(0, .int .i64 n), (1, .int .i64 g), (2, .int .i64 v), (3, .int .i64 r), (7, .slice pa pl pc)] = some #[.int .i64 n, .int .i64 g, .int .i64 v, .int .i64 r, .int .i64 0, .int .i64 0, .int .i64 0, .slice pa pl pc] := by kernel_rfl

theorem bld_foot {o : Oper} {a : Act} {w : World} {x0 x1 x2 x3 x7 : Operand} {n g v r : Int} {pa : Option Addr} {pl pc : Nat} (ho : o.op = Op.build 40 #[(0, x0), (1, x1), (2, x2), (3, x3), (7, x7)]) (h0 : a.eval x0 = .int .i64 n) (h1 : a.eval x1 = .int .i64 g) (h2 : a.eval x2 = .int .i64 v) (h3 : a.eval x3 = .int .i64 r) (h7 : a.eval x7 = .slice pa pl pc) :
    (execOp a.eval o).run Tryz.prog w = .ok (.value (.agg #[.int .i64 n, .int .i64 g, .int .i64 v, .int .i64 r, .int .i64 0, .int .i64 0, .int .i64 0, .slice pa pl pc])) w := by
  have hr := run_build (P := Tryz.prog) w 40 #[(0, .int .i64 n), (1, .int .i64 g), (2, .int .i64 v), (3, .int .i64 r), (7, .slice pa pl pc)] _ (builtFoot n g v r pa pl pc)
  simp [execOp, ho, h0, h1, h2, h3, h7, hr, Result.andThen]

theorem st_foot {o : Oper} {a : Act} {w : World} {x y : Operand} {g : Nat} {old cs : Array Value} (ho : o.op = Op.store 40 x y) (hx : a.eval x = .pointer (some ⟨g, 0, none⟩)) (hy : a.eval y = .agg cs) (hg : w.heap[g]? = some (.cells old 40 (0, 0))) (h8 : cs.size = 8) (ho8 : old.size = 8) (h1 : cs.all (·.oneCell') = true) :
    (execOp a.eval o).run Tryz.prog w = .ok .skip (w.setRow g cs) := by
  have hi : (Tryz.prog.info? 40).map (·.size) = some cs.size := by rw [h8]; kernel_rfl
  have hr := run_storeVar_row (P := Tryz.prog) w g 40 40 old cs hg hi (by omega) h1
  unfold execOp
  simp only [ho, hx, hy, Instr.storeAt, Instr.sureAddr, Sem.run_bind, Sem.run_pure, Result.andThen_ok, hr]

theorem setRow_other (w : World) (g k : Nat) (cs : Array Value) (h : k ≠ g) : (w.setRow g cs).heap[k]? = w.heap[k]? := by
  simp [World.setRow, Array.getElem?_modify, Ne.symm h]

theorem own_setRow {w : World} {g base e size n : Nat} {v : Value} {xs : List Value} (h : w.ownsRow base e size v n xs) (hg : g < base) (cs : Array Value) : (w.setRow g cs).ownsRow base e size v n xs := by
  refine ⟨h.1, ?_⟩
  rcases h.2 with hn | ⟨k, cap, cur, rfl, hbb, hgg, rest⟩
  · exact .inl hn
  · exact .inr ⟨k, cap, cur, rfl, hbb, by rw [setRow_other _ _ _ _ (by omega)]; exact hgg, rest⟩

theorem fin8 {w : World} {A : Nat} {T : TypeId} {c0 c1 c2 c3 c4 c5 c6 c7 : Value} (q : w.heap[A]? = some (.cells #[c0, c1, c2, c3, c4, c5, c6, c7] T (0, 0))) (a0 a1 a2 a3 a4 a5 a6 a7 : Value) :
    (w.cell? ⟨A, 0, none⟩ = some c0 ∧ w.cell? ⟨A, 1, none⟩ = some c1 ∧ w.cell? ⟨A, 2, none⟩ = some c2 ∧ w.cell? ⟨A, 3, none⟩ = some c3 ∧ w.cell? ⟨A, 4, none⟩ = some c4 ∧ w.cell? ⟨A, 5, none⟩ = some c5 ∧ w.cell? ⟨A, 6, none⟩ = some c6 ∧ w.cell? ⟨A, 7, none⟩ = some c7) ∧ (∀ o, w.frozen? ⟨A, o, none⟩ = false) ∧ ((((((((w.setCell ⟨A, 0, none⟩ a0).setCell ⟨A, 1, none⟩ a1).setCell ⟨A, 2, none⟩ a2).setCell ⟨A, 3, none⟩ a3).setCell ⟨A, 4, none⟩ a4).setCell ⟨A, 5, none⟩ a5).setCell ⟨A, 6, none⟩ a6).setCell ⟨A, 7, none⟩ a7).heap[A]? = some (.cells #[a0, a1, a2, a3, a4, a5, a6, a7] T (0, 0)) ∧
    (∀ (n : Nat) (w0 : World), Below n w0 w → n ≤ A → Below n w0 ((((((((w.setCell ⟨A, 0, none⟩ a0).setCell ⟨A, 1, none⟩ a1).setCell ⟨A, 2, none⟩ a2).setCell ⟨A, 3, none⟩ a3).setCell ⟨A, 4, none⟩ a4).setCell ⟨A, 5, none⟩ a5).setCell ⟨A, 6, none⟩ a6).setCell ⟨A, 7, none⟩ a7)) := by
  have q8 := (block_setCell (i := 7) (block_setCell (i := 6) (block_setCell (i := 5) (block_setCell (i := 4) (block_setCell (i := 3) (block_setCell (i := 2) (block_setCell (i := 1) (block_setCell (i := 0) q a0) a1) a2) a3) a4) a5) a6) a7)
  refine ⟨⟨cell_of_row _ _ _ _ _ _ q, cell_of_row _ _ _ _ _ _ q, cell_of_row _ _ _ _ _ _ q, cell_of_row _ _ _ _ _ _ q, cell_of_row _ _ _ _ _ _ q, cell_of_row _ _ _ _ _ _ q, cell_of_row _ _ _ _ _ _ q, cell_of_row _ _ _ _ _ _ q⟩, fun o => unfro q, by simpa using q8, fun n w0 hb hA => ((((((((hb.setCell (p := ⟨A, 0, none⟩) hA _).setCell (p := ⟨A, 1, none⟩) hA _).setCell (p := ⟨A, 2, none⟩) hA _).setCell (p := ⟨A, 3, none⟩) hA _).setCell (p := ⟨A, 4, none⟩) hA _).setCell (p := ⟨A, 5, none⟩) hA _).setCell (p := ⟨A, 6, none⟩) hA _).setCell (p := ⟨A, 7, none⟩) hA _)⟩

end Go.Proofs.YteammmhlpinhfaaGreatDoor
