/- merge: helpers of the joining. -/
import Derived.Test.YtccjgciknaooaaaGpS
import Derived.Test.YtccjgciknaooaaaMgH
namespace Go.Proofs.Ytccjgciknaooaaa
open Go.RowKit Go.Joins
set_option linter.unusedVariables false

theorem callG2 {o : Oper} {a : Act} {w : World} {f : FuncId} {x y : Nat} {vx vy : Value} {ts : Array TypeId} (ho : o.op = Op.call { callee := Callee.value (Operand.func f), args := #[.tmp x, .tmp y], argTypes := ts }) (hen : ∀ args w, (callFunc f args).run Try.prog w = .ok (.enter f args) w) (hx : a.eval (.tmp x) = vx) (hy : a.eval (.tmp y) = vy) : (execOp a.eval o).run Try.prog w = .ok (.enter f #[vx, vy]) w := by
  simp [go_sem, execOp, ho, resolve, invoke, hen]
  exact ⟨by simpa [Act.eval] using hx, by simpa [Act.eval] using hy⟩

theorem own_lowG {w : World} {base base' e size n : Nat} {v : Value} {xs : List Value} (h : w.ownsRow base' e size v n xs) (hb : base ≤ base') : w.ownsRow base e size v n xs := by
  refine ⟨h.1, ?_⟩
  rcases h.2 with hn | ⟨g, cap, cur, e, hbb, rest⟩
  · exact .inl hn
  · exact .inr ⟨g, cap, cur, e, Nat.le_trans hb hbb, rest⟩

/-- The last gap's To turned. -/
theorem vgp_set (A : List Gp) (c : Gp) (x : Int) (p : Nat) (hp : p = A.length) : (vgp (A ++ [c])).set (p * 2 + 1) (.int .i64 x) = vgp (A ++ [⟨c.f, x⟩]) := by
  subst hp
  have h1 : (vgp A).length ≤ A.length * 2 + 1 := by rw [vgp_len]; omega
  rw [vgp_app, vgp_app, List.set_append_right _ _ h1]
  have h2 : A.length * 2 + 1 - (vgp A).length = 1 := by rw [vgp_len]; omega
  rw [h2]
  rfl

theorem gpD_last (A : List Gp) (c : Gp) : gpD (A ++ [c]) A.length = c := by
  simp [gpD]

/-- What joining leaves. -/
def JnP (l : List Gp) (w : World) (e : Ending) (w' : World) : Prop :=
  ∃ (v : Value) (n : Nat) (S : List Gp), e = .returned v ∧ SrtOf S l ∧ w'.ownsRow w.heap.size 62 2 v n (vgp (joinG S)) ∧ Below w.heap.size w w'

theorem sort_own (B n : Nat) (v : Value) (l : List Gp) (w : World) (hB : B ≤ w.heap.size) (hn : n ≤ 1000000) (ho : w.ownsRow B 62 2 v n (vgp l)) :
    Calls Try.prog 34 #[v, .func (.func 35) #[] #[]] w fun e w' => e = .returned (.tuple #[]) ∧ ∃ l' : List Gp, l'.Perm l ∧ SrtG l' ∧ w'.ownsRow B 62 2 v n (vgp l') ∧ Below B w w' := by
  have hl := ho.1
  rw [vgp_len] at hl
  rcases ho.2 with ⟨rfl, rfl⟩ | ⟨g, cap, cur, rfl, hBg, _⟩
  · obtain rfl : l = [] := List.length_eq_zero_iff.1 (by omega)
    refine (sortf_zero _ w).mono ?_
    rintro e w' ⟨rfl, hb⟩
    exact ⟨rfl, [], List.Perm.refl _, List.Pairwise.nil, World.ownsRow_nil _ _ _ _, hb.mono hB⟩
  · refine (sort_any B g n cap l w hn ho).mono ?_
    rintro e w' ⟨rfl, l', h1, h2, h3, h4⟩
    exact ⟨rfl, l', h1, h2, h3, h4.below hB hBg⟩
end Go.Proofs.Ytccjgciknaooaaa
