/- postings.Pack: what its loop holds. -/
import Derived.Test.YthmknpdhgfmogaaPgD
namespace Go.Proofs.Ythmknpdhgfmogaa
open Go.RowKit Go.Shelf
set_option linter.unusedVariables false

/-- A block more: the heads, the bodies, the first number. -/
def pkF (st : List Nat × List Nat × Int) (z : List Nat) : List Nat × List Nat × Int :=
  (st.1 ++ shortZ ((nD z 0 : Int) - st.2.2) ++ shortB (body z).length, st.2.1 ++ body z, (nD z 0 : Int))

def pkAll (N : Nat) (bs : List (List Nat)) : List Nat × List Nat × Int := bs.foldl pkF (shortB N, [], 0)

theorem pkAll_snoc (N : Nat) (bs : List (List Nat)) (z : List Nat) : pkAll N (bs ++ [z]) = pkF (pkAll N bs) z := by unfold pkAll; rw [List.foldl_append]; rfl

theorem pkAll_len (N : Nat) (hN : N < 34359738368) : ∀ (m : Nat) (bs : List (List Nat)), bs.length = m → (∀ z ∈ bs, RiseN z ∧ 0 < z.length ∧ z.length ≤ 8) → (pkAll N bs).1.length ≤ 5 + 10 * m ∧ (pkAll N bs).2.1.length ≤ 40 * m ∧ 0 ≤ (pkAll N bs).2.2 ∧ (pkAll N bs).2.2 ≤ 2147483647 := by
  intro m
  induction m with
  | zero =>
    intro bs hb _
    obtain rfl : bs = [] := List.length_eq_zero_iff.1 hb
    refine ⟨shortB_len5 N hN, Nat.zero_le _, Int.le_refl _, by show (0 : Int) ≤ 2147483647; decide⟩
  | succ m ih =>
    intro bs hb hz
    obtain ⟨cs, z, rfl⟩ : ∃ cs z, bs = cs ++ [z] := ⟨bs.dropLast, bs.getLast (by intro e; rw [e] at hb; cases hb), (List.dropLast_concat_getLast _).symm⟩
    obtain ⟨h1, h2, h3, h4⟩ := ih cs (by simpa using hb) (fun y hy => hz y (by simp [hy]))
    obtain ⟨g1, g2, g3⟩ := hz z (by simp)
    have g4 := g1.1 0 g2
    have g5 := body_len z g1
    rw [pkAll_snoc]
    unfold pkF
    have s1 := shortZ_len ((nD z 0 : Int) - (pkAll N cs).2.2) (by omega)
    have s2 := shortB_len5 (body z).length (by omega)
    simp only [List.length_append]
    refine ⟨by omega, by omega, by omega, by omega⟩

theorem pkAll_blocks (xs : List Nat) (hr : RiseN xs) : ∀ k, k ≤ nblk xs → pkAll xs.length ((List.range k).map (blk xs)) = (hdTo xs k, bdTo xs k, ((prevN xs k : Nat) : Int)) := by
  intro k
  induction k with
  | zero => intro _; rfl
  | succ k ih =>
    intro hk
    have hk8 : 8 * k < xs.length := by unfold nblk at hk; omega
    rw [List.range_succ, List.map_append, List.map_singleton, pkAll_snoc, ih (by omega)]
    unfold pkF
    have e0 : nD (blk xs k) 0 = nD xs (8 * k) := blk_get (by decide) (by omega)
    have e1 : ((nD xs (8 * k) : Nat) : Int) - ((prevN xs k : Nat) : Int) = ((nD xs (8 * k) - prevN xs k : Nat) : Int) := by have := prevN_le hr k hk8; omega
    simp only [e0, e1, shortZ_nat]
    rfl

/-- What is no cells lies as it lay. -/
def Rk (A A' : World) : Prop := A.heap.size ≤ A'.heap.size ∧ ∀ (k : Nat) (o : Obj), A.heap[k]? = some o → o.isCells = false → A'.heap[k]? = some o

theorem Rk.refl (A : World) : Rk A A := ⟨Nat.le_refl _, fun _ _ h _ => h⟩

theorem Rk.trans {A B C : World} (h : Rk A B) (k : Rk B C) : Rk A C := ⟨Nat.le_trans h.1 k.1, fun j o h1 h2 => k.2 j o (h.2 j o h1 h2) h2⟩

theorem Rk.below {A B C : World} (h : Rk A B) (k : Below B.heap.size B C) : Rk A C := h.trans ⟨k.size, fun j o h1 _ => (k.block j (Array.getElem?_eq_some_iff.1 h1).1).trans h1⟩

theorem Rk.set {A B : World} (h : Rk A B) {b : Nat} {t : TypeId} {u : Value} (hx : Boxed B b t u) (v : Value) : Rk A (B.setCell ⟨b, 0, none⟩ v) := h.trans ⟨by simp [World.setCell], fun j o h1 h2 => by
  rw [Below.heap_setCell B ⟨b, 0, none⟩ v j (fun e => ?_)]
  · exact h1
  · have e' : j = b := e
    subst e'
    rw [show B.heap[j]? = _ from hx] at h1
    cases h1; cases h2⟩

theorem Rk.from {A B : World} (h : Rk A B) (n : Nat) : KeepsFrom n A B := ⟨h.1, fun k o _ hk ho => h.2 k o hk ho⟩

/-- The boxes and rows of Pack's loop. -/
structure PkX (w : World) (b4 b5 b6 b1 b2 : Nat) (av : Value) (h b : List Nat) (p : Int) (W : World) (uh us vh vs : Value) : Prop where
  x4 : Boxed W b4 23 uh
  x5 : Boxed W b5 23 us
  x6 : Boxed W b6 3 (.int .i64 p)
  x1 : Boxed W b1 22 av
  x2 : Boxed W b2 3 (.int .i64 8)
  oh : W.ownsRow w.heap.size 5 1 vh h.length (vb h)
  os : W.ownsRow w.heap.size 5 1 vs b.length (vb b)
  ap : ∀ k, vh.ownBlock = some k → vs.ownBlock ≠ some k
  bl : Below w.heap.size w W
  nn : b5 = b4 + 1 ∧ b6 = b4 + 2 ∧ b1 = b4 + 3 ∧ b2 = b4 + 4

theorem own_isCells {w : World} {base e size n : Nat} {v : Value} {xs : List Value} (h : w.ownsRow base e size v n xs) {k : Nat} (hk : v.ownBlock = some k) : ∃ c, w.heap[k]? = some (.cells c e (0, 0)) := by
  rcases h.2 with ⟨rfl, _⟩ | ⟨g, cap, cur, rfl, _, hg, _⟩
  · cases hk
  · simp [Value.ownBlock] at hk
    subst hk
    exact ⟨cur, hg⟩

section
variable {w W W2 : World} {b4 b5 b6 b1 b2 : Nat} {av : Value} {h b : List Nat} {p : Int} {uh us vh vs : Value}

theorem PkX.stay (x : PkX w b4 b5 b6 b1 b2 av h b p W uh us vh vs) (hk : ∀ (k : Nat) (c : Array Value) (t : TypeId), W.heap[k]? = some (Obj.cells c t (0, 0)) → W2.heap[k]? = W.heap[k]?) (hb : Below w.heap.size w W2) : PkX w b4 b5 b6 b1 b2 av h b p W2 uh us vh vs :=
  ⟨(hk _ _ _ x.x4).trans x.x4, (hk _ _ _ x.x5).trans x.x5, (hk _ _ _ x.x6).trans x.x6, (hk _ _ _ x.x1).trans x.x1, (hk _ _ _ x.x2).trans x.x2, own_stay x.oh (fun k e => by obtain ⟨c, hc⟩ := own_isCells x.oh e; exact hk _ _ _ hc), own_stay x.os (fun k e => by obtain ⟨c, hc⟩ := own_isCells x.os e; exact hk _ _ _ hc), x.ap, hb, x.nn⟩

theorem PkX.below (x : PkX w b4 b5 b6 b1 b2 av h b p W uh us vh vs) (hb : Below W.heap.size W W2) : PkX w b4 b5 b6 b1 b2 av h b p W2 uh us vh vs :=
  x.stay (fun k c t hc => hb.block k (Array.getElem?_eq_some_iff.1 hc).1) (x.bl.trans (hb.mono x.bl.size))

theorem PkX.own (x : PkX w b4 b5 b6 b1 b2 av h b p W uh us vh vs) {row : Option Nat} (hg : W.grownBy W2 row) (hr : ∀ r, row = some r → w.heap.size ≤ r ∧ ∃ o : Obj, W.heap[r]? = some o ∧ o.isCells = false) : PkX w b4 b5 b6 b1 b2 av h b p W2 uh us vh vs := by
  refine x.stay (fun k c t hc => hg.block k (Array.getElem?_eq_some_iff.1 hc).1 (fun e => ?_)) (x.bl.grown hg x.bl.size (fun k e => (hr k e).1))
  obtain ⟨_, o, ho, hn⟩ := hr k e.symm
  rw [hc] at ho
  cases ho; cases hn

theorem PkX.call5 (x : PkX w b4 b5 b6 b1 b2 av h b p W uh us vh vs) {vs' : Value} {b' : List Nat} (k : Bld W W2 w.heap.size vs.ownBlock vs' b') : PkX w b4 b5 b6 b1 b2 av h b' p W2 uh us vh vs' := by
  have hk : ∀ {j : Nat} {c : Array Value} {t : TypeId}, t ≠ 5 → W.heap[j]? = some (Obj.cells c t (0, 0)) → W2.heap[j]? = W.heap[j]? := fun {j c t} ht hc => k.kep j (Array.getElem?_eq_some_iff.1 hc).1 (fun e => by
    obtain ⟨c2, h2⟩ := own_isCells x.os e.symm
    rw [hc] at h2
    cases h2
    exact ht rfl)
  refine ⟨(hk (by decide) x.x4).trans x.x4, (hk (by decide) x.x5).trans x.x5, (hk (by decide) x.x6).trans x.x6, (hk (by decide) x.x1).trans x.x1, (hk (by decide) x.x2).trans x.x2, own_stay x.oh (fun j e => k.kep j (x.oh.lt j e).2 (fun e2 => x.ap j e e2.symm)), k.own, fun j e e2 => ?_, x.bl.trans k.bel, x.nn⟩
  rcases k.blk j e2 with h3 | h3
  · exact x.ap j e h3.symm
  · have := (x.oh.lt j e).2; omega

theorem PkX.call4 (x : PkX w b4 b5 b6 b1 b2 av h b p W uh us vh vs) {vh' : Value} {h' : List Nat} (k : Bld W W2 w.heap.size vh.ownBlock vh' h') : PkX w b4 b5 b6 b1 b2 av h' b p W2 uh us vh' vs := by
  have hk : ∀ {j : Nat} {c : Array Value} {t : TypeId}, t ≠ 5 → W.heap[j]? = some (Obj.cells c t (0, 0)) → W2.heap[j]? = W.heap[j]? := fun {j c t} ht hc => k.kep j (Array.getElem?_eq_some_iff.1 hc).1 (fun e => by
    obtain ⟨c2, h2⟩ := own_isCells x.oh e.symm
    rw [hc] at h2
    cases h2
    exact ht rfl)
  refine ⟨(hk (by decide) x.x4).trans x.x4, (hk (by decide) x.x5).trans x.x5, (hk (by decide) x.x6).trans x.x6, (hk (by decide) x.x1).trans x.x1, (hk (by decide) x.x2).trans x.x2, k.own, own_stay x.os (fun j e => k.kep j (x.os.lt j e).2 (fun e2 => x.ap j e2.symm e)), fun j e e2 => ?_, x.bl.trans k.bel, x.nn⟩
  rcases k.blk j e with h3 | h3
  · exact x.ap j h3.symm e2
  · have := (x.os.lt j e2).2; omega

theorem Rk.bld {A : World} {v v' : Value} {B : Nat} {zs zs' : List Nat} (r : Rk A W) (hv : W.ownsRow B 5 1 v zs.length (vb zs)) (k : Bld W W2 B v.ownBlock v' zs') : Rk A W2 := r.trans ⟨k.siz, fun j o h1 h2 => by
  rw [k.kep j (Array.getElem?_eq_some_iff.1 h1).1 (fun e => ?_)]
  · exact h1
  · obtain ⟨c, hc⟩ := own_isCells hv e.symm
    rw [h1] at hc
    cases hc; cases h2⟩

theorem not_own {c : Nat} {t : TypeId} {u v : Value} {B m : Nat} {xs : List Value} (hx : Boxed W c t u) (ht : t ≠ 5) (hv : W.ownsRow B 5 1 v m xs) (x : Value) : (W.setCell ⟨c, 0, none⟩ x).ownsRow B 5 1 v m xs :=
  own_stay hv (fun k e => Below.heap_setCell W ⟨c, 0, none⟩ x k (fun e2 => by
    have e' : k = c := e2
    subst e'
    exact hx.not_row ht hv e.symm))

theorem box_other {c d : Nat} {t : TypeId} {u : Value} (hx : Boxed W c t u) (hne : c ≠ d) (x : Value) : Boxed (W.setCell ⟨d, 0, none⟩ x) c t u := (Below.heap_setCell W ⟨d, 0, none⟩ x c hne).trans hx

theorem PkX.set5 (x : PkX w b4 b5 b6 b1 b2 av h b p W uh us vh vs) (hw : w.heap.size ≤ b5) (u : Value) : PkX w b4 b5 b6 b1 b2 av h b p (W.setCell ⟨b5, 0, none⟩ u) uh u vh vs := by
  obtain ⟨n1, n2, n3, n4⟩ := x.nn
  exact ⟨box_other x.x4 (by omega) u, x.x5.set u, box_other x.x6 (by omega) u, box_other x.x1 (by omega) u, box_other x.x2 (by omega) u, not_own x.x5 (by decide) x.oh u, not_own x.x5 (by decide) x.os u, x.ap, x.bl.setCell (p := ⟨b5, 0, none⟩) hw u, x.nn⟩

theorem PkX.set4 (x : PkX w b4 b5 b6 b1 b2 av h b p W uh us vh vs) (hw : w.heap.size ≤ b4) (u : Value) : PkX w b4 b5 b6 b1 b2 av h b p (W.setCell ⟨b4, 0, none⟩ u) u us vh vs := by
  obtain ⟨n1, n2, n3, n4⟩ := x.nn
  exact ⟨x.x4.set u, box_other x.x5 (by omega) u, box_other x.x6 (by omega) u, box_other x.x1 (by omega) u, box_other x.x2 (by omega) u, not_own x.x4 (by decide) x.oh u, not_own x.x4 (by decide) x.os u, x.ap, x.bl.setCell (p := ⟨b4, 0, none⟩) hw u, x.nn⟩

theorem PkX.set6 (x : PkX w b4 b5 b6 b1 b2 av h b p W uh us vh vs) (hw : w.heap.size ≤ b6) (q : Int) : PkX w b4 b5 b6 b1 b2 av h b q (W.setCell ⟨b6, 0, none⟩ (.int .i64 q)) uh us vh vs := by
  obtain ⟨n1, n2, n3, n4⟩ := x.nn
  exact ⟨box_other x.x4 (by omega) _, box_other x.x5 (by omega) _, x.x6.set _, box_other x.x1 (by omega) _, box_other x.x2 (by omega) _, not_own x.x6 (by decide) x.oh _, not_own x.x6 (by decide) x.os _, x.ap, x.bl.setCell (p := ⟨b6, 0, none⟩) hw _, x.nn⟩

theorem PkX.kp {h' b' : List Nat} {p' : Int} {uh' us' vh' vs' : Value} (x : PkX w b4 b5 b6 b1 b2 av h b p W uh us vh vs) (y : PkX w b4 b5 b6 b1 b2 av h' b' p' W2 uh' us' vh' vs') : KpW b1 b2 W W2 := ⟨(show W2.heap[b1]? = _ from y.x1).trans (show W.heap[b1]? = _ from x.x1).symm, (show W2.heap[b2]? = _ from y.x2).trans (show W.heap[b2]? = _ from x.x2).symm⟩
end
end Go.Proofs.Ythmknpdhgfmogaa
