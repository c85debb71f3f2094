/- The reader's states grow: state, link, step, around. -/
import Derived.Test.YtdgkjiiegmnjfaaRxA
import Derived.Test.YtdgkjiiegmnjfaaLabDrawn
namespace Go.Proofs.Ytdgkjiiegmnjfaa
open Go.RowKit Go.Joins
set_option linter.unusedVariables false

/-- One more element onto a row of one's own: it lies where it lay, or in a new block. -/
theorem app1 {P : Program} (w : World) (t ty e : TypeId) (i : TypeInfo) (z : Value) (size bytes : Nat) (ht : P.underlying t = some (.slice e)) (hi : P.info? e = some i) (hz : i.zero = some z)
    (hsize : i.size = size) (hby : i.bytes = bytes) (hzs : z.cells.size = size) (hsz : 0 < size)
    (v : Value) (n : Nat) (xs : List Value) (hown : w.ownsRow 0 e size v n xs)
    (a : Addr) (c : Nat) (news : List Value) (hl : news.length = size) (hnews : ∀ j u, news[j]? = some u → w.cell? (a.add j) = some u) (h1 : ∀ u ∈ news, u.oneCell' = true)
    (h63 : n + 1 ≤ maxLen) (hbytes : (n + 1) * bytes ≤ 140737488355328) :
    ∃ g c' w', (Builtin.append_ #[t, t] ty #[v, .slice (some a) 1 c]).run P w = .ok (.slice (some ⟨g, 0, none⟩) (n + 1) c') w' ∧ w'.ownsRow 0 e size (.slice (some ⟨g, 0, none⟩) (n + 1) c') (n + 1) (xs ++ news) ∧ w.grownBy w' v.ownBlock ∧
      (v.ownBlock = some g ∨ w.heap.size ≤ g) := by
  obtain ⟨v', w', r1, r2, r3, r4⟩ := run_append_own (P := P) w 0 t ty e i z size bytes ht hi hz hsize hby hzs hsz v n xs hown a 1 c news (by simpa using hl) hnews h1 h63 hbytes (Nat.zero_le _)
  have hsmall : n + 1 ≤ 9223372036854775807 := by simp only [maxLen] at h63; omega
  have key : ∃ g c', v' = .slice (some ⟨g, 0, none⟩) (n + 1) c' ∧ (v.ownBlock = some g ∨ w.heap.size ≤ g) := by
    subst hsize
    subst hby
    rcases hown.2 with ⟨rfl, rfl⟩ | ⟨g, cap, cur, rfl, hbg, hg, hnc, hcm, hcs, htake⟩
    · have hr := run_append_nil (P := P) w t ty e i z ht hi hz a 1 c news (by simpa using hl) hnews (by omega) (by omega) (by have hb := hbytes; simp only [Nat.zero_add] at hb; omega)
      have e := r1.symm.trans hr
      injection e with e1 e2
      exact ⟨_, _, e1, .inr (Nat.le_refl _)⟩
    · by_cases hroom : n + 1 ≤ cap
      · have hfit : n * i.size + news.length ≤ cur.size := by rw [hl, hcs, show n * i.size + i.size = (n + 1) * i.size from by rw [Nat.add_mul, Nat.one_mul]]; exact Nat.mul_le_mul_right _ hroom
        have hr := run_append_room (P := P) w t ty e i ht hi g n cap cur hg a 1 c news (by simpa using hl) hnews h1 hroom hfit
        have e := r1.symm.trans hr
        injection e with e1 e2
        exact ⟨_, _, e1, .inl rfl⟩
      · have holds : ∀ j u, xs[j]? = some u → w.cell? ((⟨g, 0, none⟩ : Addr).add j) = some u := hown.cells (g := g) rfl
        have hr := run_append_grow (P := P) w t ty e i z ht hi hz ⟨g, 0, none⟩ n cap xs hown.1 holds a 1 c news (by simpa using hl) hnews (by omega) (by omega) (growslice_fits (by omega) hbytes)
        have e := r1.symm.trans hr
        injection e with e1 e2
        exact ⟨_, _, e1, .inr (Nat.le_refl _)⟩
  obtain ⟨g, c', rfl, hk⟩ := key
  exact ⟨g, c', w', r1, r2, r3, hk⟩

theorem wpList_app_run {P : Program} {w w' : World} {ops : Array Oper} {rest : List Oper} {o : Oper} {a : Act} {Q : Exit → Act → World → Prop} (hgd : o.guard = none) (s x : Operand) (t ty : TypeId)
    (ho : o.op = .call { callee := .builtin .append, args := #[s, x], argTypes := #[t, t] }) (hty : o.type = ty) (v vx v' : Value) (hs : a.eval s = v) (hx : a.eval x = vx) (hr : (Builtin.append_ #[t, t] ty #[v, vx]).run P w = .ok v' w')
    (h : wpList P ops Q rest (a.put o.dst v') w') : wpList P ops Q (o :: rest) a w :=
  wpList_plain hgd fun _ hK => by
    subst hty
    unfold Oper.wp execOp
    simp only [ho, resolve, invoke, builtin, Sem.run_bind, Sem.run_pure, Result.andThen_ok, List.map_toArray, List.map_cons, List.map_nil, hs, hx, hr]
    exact hK _ _ h

def upR (ρ : Nat → Nat) (g x : Nat) : Nat → Nat := fun k => if k = g then x else ρ k
/-- A row that has grown, and its block's owner. -/
theorem grown_role {ρ : Nat → Nat} {w w1 : World} {e size x n : Nat} {v : Value} {xs : List Value} (h : Own w ρ e size x v n xs) (hx : x ≠ 0) {g : Nat} (hg : w.grownBy w1 v.ownBlock) (hk : v.ownBlock = some g ∨ w.heap.size ≤ g) :
    Gw ρ (upR ρ g x) w w1 := by
  refine ⟨Kp.of_grown hg (fun k hk => by rw [h.2 k hk]; exact hx), fun k hlt => ?_⟩
  unfold upR
  split
  · rename_i e
    subst e
    rcases hk with hk | hk
    · exact (h.2 _ hk).symm
    · omega
  · rfl
/-- Rows of others stay. -/
theorem Own.grown {ρ : Nat → Nat} {w w1 : World} {e size x n e' size' y m : Nat} {v v' : Value} {xs ys : List Value} (h' : Own w ρ e' size' y v' m ys) (h : Own w ρ e size x v n xs) (hxy : x ≠ y) {g : Nat} (hg : w.grownBy w1 v.ownBlock) (hk : v.ownBlock = some g ∨ w.heap.size ≤ g) (hx : x ≠ 0) :
    Own w1 (upR ρ g x) e' size' y v' m ys :=
  h'.kp (Kp.of_grown (F := fun k => v.ownBlock = some k) hg (fun k hk => hk)) (fun k hk => by rw [h.2 k hk]; exact hxy) (fun k hlt => (grown_role h hx hg hk).2 k hlt)
theorem Own.made {ρ : Nat → Nat} {w1 : World} {e size x n g c : Nat} {xs : List Value} (h : w1.ownsRow 0 e size (.slice (some ⟨g, 0, none⟩) n c) n xs) : Own w1 (upR ρ g x) e size x (.slice (some ⟨g, 0, none⟩) n c) n xs :=
  ⟨h, fun k hk => by simp only [Value.ownBlock, Option.some.injEq] at hk; subst hk; simp [upR]⟩
theorem upR_free {ρ : Nat → Nat} {w w1 : World} {g x e size n c : Nat} {xs : List Value} (hf : ∀ k, w.heap.size ≤ k → ρ k = 0) (hs : w.heap.size ≤ w1.heap.size) (h : w1.ownsRow 0 e size (.slice (some ⟨g, 0, none⟩) n c) n xs) : ∀ k, w1.heap.size ≤ k → upR ρ g x k = 0 := by
  intro k hk
  have := (h.lt g rfl).2
  unfold upR
  rw [if_neg (by omega)]
  exact hf k (by omega)

/-- What an append to one of the reader's rows leaves as it was. -/
theorem RD.rest {w w1 : World} {r : Nat} {ρ : Nat → Nat} {R : Rd} {la : Option Addr} {lc : Nat} {sv : Value} {V : Nat → Value × Value} (h : RD w r ρ R la lc sv V)
    {e size x n : Nat} {v : Value} {xs : List Value} (ho : Own w ρ e size x v n xs) (hx : 2 ≤ x) {g : Nat} (hg : w.grownBy w1 v.ownBlock) (hk : v.ownBlock = some g ∨ w.heap.size ≤ g) :
    w1.heap[r]? = some (.cells #[.slice la R.1.length lc, sv] 82 (0, 0)) ∧ upR ρ g x r = 1 ∧ Ss w1 la R.1 ∧ (∀ y, la = some y → R.1 ≠ [] → upR ρ g x y.block = 0 ∧ ∃ cs, w1.heap[y.block]? = some (.cells cs 90 (0, 0))) := by
  have G := grown_role ho (by omega) hg hk
  have hr : w1.heap[r]? = w.heap[r]? := hg.block r h.rlt (fun e => by have := ho.2 r e.symm; rw [h.me] at this; omega)
  have hsb : ∀ y, la = some y → R.1 ≠ [] → y.block < w.heap.size → w1.heap[y.block]? = w.heap[y.block]? := fun y hy hne hlt => hg.block _ hlt (fun e => by have := ho.2 _ e.symm; rw [(h.sigo y hy hne).1] at this; omega)
  refine ⟨hr.trans h.blk, (G.2 r h.rlt).trans h.me, h.sig.keep hsb, fun y hy hne => ?_⟩
  obtain ⟨h0, cs, hcs⟩ := h.sigo y hy hne
  have hlt : y.block < w.heap.size := (Array.getElem?_eq_some_iff.1 hcs).1
  exact ⟨(G.2 _ hlt).trans h0, cs, (hsb y hy hne hlt).trans hcs⟩

/-- A new state. -/
theorem RD.grow {w w1 : World} {r : Nat} {ρ : Nat → Nat} {l : List Sg} {L : List St} {la : Option Addr} {lc : Nat} {sv : Value} {V : Nat → Value × Value} (h : RD w r ρ (l, L) la lc sv V) {g c : Nat}
    (h1 : w1.ownsRow 0 99 4 (.slice (some ⟨g, 0, none⟩) (L.length + 1) c) (L.length + 1) (vst V 0 L ++ [.bool false, .bool false, .slice none 0 0, .slice none 0 0])) (hg : w.grownBy w1 sv.ownBlock) (hk : sv.ownBlock = some g ∨ w.heap.size ≤ g) :
    RDx (w1.setCell ⟨r, 1, none⟩ (.slice (some ⟨g, 0, none⟩) (L.length + 1) c)) r (upR ρ g 2) (l, L ++ [St.zero]) ∧ Gw ρ (upR ρ g 2) w (w1.setCell ⟨r, 1, none⟩ (.slice (some ⟨g, 0, none⟩) (L.length + 1) c)) := by
  have G := grown_role h.sts (by omega) hg hk
  obtain ⟨k1, k2, k3, k4⟩ := h.rest h.sts (Nat.le_refl _) hg hk
  have hbr : ∀ y, la = some y → l ≠ [] → y.block ≠ r := fun y hy hne e => by have := (k4 y hy hne).1; rw [e, k2] at this; cases this
  have own1 : Own w1 (upR ρ g 2) 99 4 2 (.slice (some ⟨g, 0, none⟩) (L.length + 1) c) (L.length + 1) (vst V 0 L ++ [.bool false, .bool false, .slice none 0 0, .slice none 0 0]) := Own.made h1
  refine ⟨⟨la, lc, .slice (some ⟨g, 0, none⟩) (L.length + 1) c, upV V L.length (.slice none 0 0, .slice none 0 0), ?_, k2, h.cap, h.capm, k3.keep (fun y hy hne _ => Below.heap_setCell _ _ _ _ (hbr y hy hne)), fun y hy hne => ⟨(k4 y hy hne).1, ?_⟩, ?_, fun i s hs => ?_, fun i s hs => ?_, fun k hk => upR_free h.free hg.size h1 k (by simpa [World.setCell] using hk)⟩, G.trans (Gw.of ((Kp.refl _ w1).setCell (by simp only [k2]; omega) _))⟩
  · have := block_setCell (i := 1) k1 (.slice (some ⟨g, 0, none⟩) (L.length + 1) c)
    simpa using this
  · obtain ⟨cs, hcs⟩ := (k4 y hy hne).2
    exact ⟨cs, by rw [Below.heap_setCell _ _ _ _ (hbr y hy hne)]; exact hcs⟩
  · have e : vst (upV V L.length (.slice none 0 0, .slice none 0 0)) 0 (L ++ [St.zero]) = vst V 0 L ++ [.bool false, .bool false, .slice none 0 0, .slice none 0 0] := by
      rw [vst_snoc, vst_congr (upV V L.length (.slice none 0 0, .slice none 0 0)) V L 0 (fun k _ hk => by simp [upV]; omega)]
      simp [upV, St.zero]
    simp only [List.length_append, List.length_singleton]
    rw [e]
    exact own1.setCell (by simp only [k2]; omega) _
  · by_cases hi : i < L.length
    · rw [List.getElem?_append_left hi] at hs
      have : upV V L.length (.slice none 0 0, .slice none 0 0) i = V i := by simp [upV]; omega
      rw [this]
      exact ((h.nx i s hs).grown h.sts (by omega) hg hk (by omega)).setCell (by simp only [k2]; omega) _
    · have hlt := (List.getElem?_eq_some_iff.1 hs).1
      simp only [List.length_append, List.length_singleton] at hlt
      obtain rfl : i = L.length := by omega
      simp at hs
      subst hs
      simp only [upV, if_true]
      exact ⟨World.ownsRow_nil _ _ _ _, fun g hg => by simp [Value.ownBlock] at hg⟩
  · by_cases hi : i < L.length
    · rw [List.getElem?_append_left hi] at hs
      have : upV V L.length (.slice none 0 0, .slice none 0 0) i = V i := by simp [upV]; omega
      rw [this]
      exact ((h.sp i s hs).grown h.sts (by omega) hg hk (by omega)).setCell (by simp only [k2]; omega) _
    · have hlt := (List.getElem?_eq_some_iff.1 hs).1
      simp only [List.length_append, List.length_singleton] at hlt
      obtain rfl : i = L.length := by omega
      simp at hs
      subst hs
      simp only [upV, if_true]
      exact ⟨World.ownsRow_nil _ _ _ _, fun g hg => by simp [Value.ownBlock] at hg⟩
theorem stInfo : ∃ i0 z, Try.prog.info? 99 = some i0 ∧ i0.zero = some z ∧ i0.size = 4 ∧ i0.bytes = 64 ∧ z.cells.size = 4 := by
  have h : (Try.prog.info? 99).map (fun i => (i.zero, i.size, i.bytes)) = some (some (.agg #[.bool false, .bool false, .slice none 0 0, .slice none 0 0]), 4, 64) := by kernel_rfl
  cases hi : Try.prog.info? 99 with
  | none => rw [hi] at h; cases h
  | some i0 =>
    rw [hi] at h
    simp only [Option.map_some, Option.some.injEq, Prod.mk.injEq] at h
    exact ⟨i0, _, rfl, h.1, h.2.1, h.2.2, rfl⟩
theorem inInfo : ∃ i0 z, Try.prog.info? 3 = some i0 ∧ i0.zero = some z ∧ i0.size = 1 ∧ i0.bytes = 8 ∧ z.cells.size = 1 := by
  have h : (Try.prog.info? 3).map (fun i => (i.zero, i.size, i.bytes)) = some (some (.int .i64 0), 1, 8) := by kernel_rfl
  cases hi : Try.prog.info? 3 with
  | none => rw [hi] at h; cases h
  | some i0 =>
    rw [hi] at h
    simp only [Option.map_some, Option.some.injEq, Prod.mk.injEq] at h
    exact ⟨i0, _, rfl, h.1, h.2.1, h.2.2, rfl⟩

set_option maxHeartbeats 2000000 in
theorem state_any (r : Nat) (ρ : Nat → Nat) (R : Rd) (w : World) (h : RDx w r ρ R) (hb : siz R.2 ≤ 100000) :
    Calls Try.prog 44 #[.pointer (some ⟨r, 0, none⟩)] w fun e w' => e = .returned (.int .i64 (R.2.length : Int)) ∧ ∃ ρ', RDx w' r ρ' (R.1, R.2 ++ [St.zero]) ∧ Gw ρ ρ' w w' := by
  obtain ⟨l, L⟩ := R
  obtain ⟨la, lc, sv, V, h⟩ := h
  have hb1 := siz_len L
  simp only at hb
  have c1 : w.cell? ⟨r, 1, none⟩ = some sv := cell_of_row _ _ _ _ _ _ h.blk
  have hrw := h.rlt
  obtain ⟨i0, z, hi, hz, hzs, hby, hzc⟩ := stInfo
  have h0 := h.below ((Below.refl _ w).alloc (Nat.le_refl _) (.cells #[.bool false, .bool false, .slice none 0 0, .slice none 0 0] 99))
  have hB0 : Hid (Below w.heap.size w (w.alloc (.cells #[.bool false, .bool false, .slice none 0 0, .slice none 0 0] 99))) := hidn ((Below.refl _ w).alloc (Nat.le_refl _) _)
  obtain ⟨g, c, w2, hrun, hown, hgr, hk⟩ := app1 (P := Try.prog) (w.alloc (.cells #[.bool false, .bool false, .slice none 0 0, .slice none 0 0] 99)) 71 71 99 i0 z 4 64 Try.underlying71 hi hz hzs hby hzc (by decide) sv L.length _ h0.sts.1 ⟨w.heap.size, 0, none⟩ 1 [.bool false, .bool false, .slice none 0 0, .slice none 0 0] rfl
    (fun j u hj => by
      match j, hj with
      | 0, hj => simp at hj; subst hj; simp [Addr.add]
      | 1, hj => simp at hj; subst hj; simp [Addr.add]
      | 2, hj => simp at hj; subst hj; simp [Addr.add]
      | 3, hj => simp at hj; subst hj; simp [Addr.add])
    (fun u hu => by
      simp at hu
      rcases hu with rfl | rfl <;> rfl)
    (by unfold maxLen; omega) (by omega)
  obtain ⟨H1, H2⟩ := h0.grow hown hgr hk
  have HH1 := hidn H1
  have HH2 := hidn H2
  have hblk2 := (h0.rest h0.sts (Nat.le_refl _) hgr hk).1
  have c2 : w2.cell? ⟨r, 1, none⟩ = some sv := cell_of_row _ _ _ _ _ _ hblk2
  have f2 : w2.frozen? ⟨r, 1, none⟩ = false := unfrozen_of_block hblk2 _
  obtain ⟨n, hn⟩ : ∃ n, n = L.length := ⟨_, rfl⟩
  have HN := hidn hn
  rw [← hn] at hrun hb1
  have HRUN := hidn hrun
  clear h h0 hown hgr hk H1 H2 hblk2 hn hrun hi hz hzs hby hzc
  go_enter Try.func44, Try.ntmps44
  go_wp2_with (at_builtin; refine wpList_app_run rfl _ _ 71 71 rfl rfl sv _ _ rfl rfl HRUN.out ?_)
  rw [← HN.out]
  rw [← HN.out] at HH1 HH2
  exact bodyPost_ret (v := .int .i64 (n : Int)) (by simp [results, Try.results44, go_sem]) rfl ⟨rfl, _, HH1.out, (Gw.of (Kp.of_below hB0.out)).trans HH2.out⟩

theorem nonnil {w : World} {e size n : Nat} {v : Value} {xs : List Value} (h : w.ownsRow 0 e size v n xs) (hn : 0 < n) : ∃ g c, v = .slice (some ⟨g, 0, none⟩) n c ∧ n ≤ c ∧ c ≤ maxLen := by
  rcases h.2 with ⟨_, h1⟩ | ⟨g, cap, cur, hv, _, _, h1, h2, _⟩
  · omega
  · exact ⟨g, cap, hv, h1, h2⟩
/-- One more way on from a state. -/
theorem RD.link {w w1 : World} {r : Nat} {ρ : Nat → Nat} {l : List Sg} {L : List St} {la : Option Addr} {lc gs cs : Nat} {V : Nat → Value × Value} (h : RD w r ρ (l, L) la lc (.slice (some ⟨gs, 0, none⟩) L.length cs) V) {g c i j : Nat} {s : St} (hs : L[i]? = some s)
    (h1 : w1.ownsRow 0 3 1 (.slice (some ⟨g, 0, none⟩) (s.next.length + 1) c) (s.next.length + 1) (vi s.next ++ [.int .i64 (j : Int)])) (hg : w.grownBy w1 (V i).2.ownBlock) (hk : (V i).2.ownBlock = some g ∨ w.heap.size ≤ g) :
    RDx (w1.setCell ⟨gs, i * 4 + 3, none⟩ (.slice (some ⟨g, 0, none⟩) (s.next.length + 1) c)) r (upR ρ g (3 + 2 * i)) (l, linkR L i j) ∧ Gw ρ (upR ρ g (3 + 2 * i)) w (w1.setCell ⟨gs, i * 4 + 3, none⟩ (.slice (some ⟨g, 0, none⟩) (s.next.length + 1) c)) := by
  have hni := h.nx i s hs
  have G := grown_role hni (by omega) hg hk
  obtain ⟨k1, k2, k3, k4⟩ := h.rest hni (by omega) hg hk
  have own2 := h.sts.grown hni (by omega) hg hk (by omega)
  have hgs : upR ρ g (3 + 2 * i) gs = 2 := own2.2 gs rfl
  have hbr : ∀ y, la = some y → l ≠ [] → y.block ≠ gs := fun y hy hne e => by have := (k4 y hy hne).1; rw [e, hgs] at this; cases this
  have own1 : Own w1 (upR ρ g (3 + 2 * i)) 3 1 (3 + 2 * i) (.slice (some ⟨g, 0, none⟩) (s.next.length + 1) c) (s.next.length + 1) (vi s.next ++ [.int .i64 (j : Int)]) := Own.made h1
  have hget : ∀ k x, (linkR L i j)[k]? = some x → (k = i ∧ x = { s with next := s.next ++ [j] }) ∨ (k ≠ i ∧ L[k]? = some x) := by
    intro k x hx
    unfold linkR at hx
    rw [List.getElem?_modify] at hx
    by_cases e : i = k
    · subst e
      rw [hs] at hx
      simp at hx
      exact .inl ⟨rfl, hx.symm⟩
    · cases hL : L[k]? with
      | none => rw [hL] at hx; simp at hx
      | some y =>
        rw [hL] at hx
        simp [e] at hx
        exact .inr ⟨fun e2 => e e2.symm, by rw [hx]⟩
  refine ⟨⟨la, lc, .slice (some ⟨gs, 0, none⟩) L.length cs, upV V i ((V i).1, .slice (some ⟨g, 0, none⟩) (s.next.length + 1) c), ?_, k2, h.cap, h.capm, k3.keep (fun y hy hne _ => Below.heap_setCell _ _ _ _ (hbr y hy hne)), fun y hy hne => ⟨(k4 y hy hne).1, ?_⟩, ?_, fun k x hx => ?_, fun k x hx => ?_, fun k hk => upR_free h.free hg.size h1 k (by simpa [World.setCell] using hk)⟩, G.trans (Gw.of ((Kp.refl _ w1).setCell (by simp only [hgs]; omega) _))⟩
  · rw [Below.heap_setCell _ _ _ _ (fun e => by rw [e, hgs] at k2; cases k2)]
    exact k1
  · obtain ⟨cs, hcs⟩ := (k4 y hy hne).2
    exact ⟨cs, by rw [Below.heap_setCell _ _ _ _ (hbr y hy hne)]; exact hcs⟩
  · have := own_put own2.1 (i * 4 + 3) (.slice (some ⟨g, 0, none⟩) (s.next.length + 1) c)
    have e := vst_next V (.slice (some ⟨g, 0, none⟩) (s.next.length + 1) c) L 0 i (fun s => { s with next := s.next ++ [j] }) (fun s => ⟨rfl, rfl⟩)
    rw [Nat.zero_add] at e
    rw [e] at this
    simp only [linkR_length]
    exact ⟨this, own2.2⟩
  · rcases hget k x hx with ⟨rfl, rfl⟩ | ⟨hne, hx⟩
    · simp only [upV, if_true]
      have e : vi (s.next ++ [j]) = vi s.next ++ [.int .i64 (j : Int)] := by simp [vi]
      simp only [List.length_append, List.length_singleton]
      rw [e]
      exact own1.setCell (by simp only [hgs]; omega) _
    · have : upV V i ((V i).1, .slice (some ⟨g, 0, none⟩) (s.next.length + 1) c) k = V k := by simp [upV, hne]
      rw [this]
      exact ((h.nx k x hx).grown hni (by omega) hg hk (by omega)).setCell (by simp only [hgs]; omega) _
  · rcases hget k x hx with ⟨rfl, rfl⟩ | ⟨hne, hx⟩
    · simp only [upV, if_true]
      exact ((h.sp k s hs).grown hni (by omega) hg hk (by omega)).setCell (by simp only [hgs]; omega) _
    · have : upV V i ((V i).1, .slice (some ⟨g, 0, none⟩) (s.next.length + 1) c) k = V k := by simp [upV, hne]
      rw [this]
      exact ((h.sp k x hx).grown hni (by omega) hg hk (by omega)).setCell (by simp only [hgs]; omega) _

theorem rx_rdy_unit {P : Program} {md : Region.Mode} {ops : Array Oper} {Q : Exit → Act → World → Prop} {S : World → Prop} {fuel : Nat} {listed : Array Bool} {a : Act} {w : World} {i : Nat} {o : Oper} {rs : List Nat} (ho : ops[i]? = some o) (hgd : o.guard = none) (dst : Option Nat) (hd : o.dst = dst) (w' : World) (hrun : (execOp a.eval o).run P w = .ok .skip w') (hS : S w')
    (h : S w' → wpAnyH P md ops Q S fuel (listed.setIfInBounds i true) (a.put dst undef) w') (hs : AllReadyH P md ops Q S fuel listed a w rs) : AllReadyH P md ops Q S fuel listed a w (i :: rs) := by
  subst hd
  refine AllReadyH.cons ho (fun K hK => ?_) hs
  have hw : Region.wanted o (yielded ops a.tmps) = true := by simp [Region.wanted, hgd]
  rw [if_pos hw]
  unfold Oper.wp
  rw [hrun]
  exact hK _ _ hS h
theorem rx_app_run {o : Oper} {a : Act} {w w' : World} {t u : TypeId} {x y : Operand} {vx vy v : Value} (ho : o.op = .call { callee := .builtin .append, args := #[x, y], argTypes := #[t, u] }) (hx : a.eval x = vx) (hy : a.eval y = vy) (hr : (Builtin.append_ #[t, u] o.type #[vx, vy]).run Try.prog w = .ok v w') : (execOp a.eval o).run Try.prog w = .ok (.value v) w' := by
  unfold execOp
  simp only [ho, resolve, invoke, builtin, Sem.run_bind, Sem.run_pure, Result.andThen_ok, List.map_toArray, List.map_cons, List.map_nil, hx, hy, hr]

set_option maxHeartbeats 4000000 in
set_option maxRecDepth 100000 in
theorem link_any (r : Nat) (ρ : Nat → Nat) (R : Rd) (i j : Nat) (w : World) (h : RDx w r ρ R) (hb : siz R.2 ≤ 100000) (hi : i < R.2.length) :
    Calls Try.prog 46 #[.pointer (some ⟨r, 0, none⟩), .int .i64 (i : Int), .int .i64 (j : Int)] w fun e w' => e = .returned (.tuple #[]) ∧ ∃ ρ', RDx w' r ρ' (R.1, linkR R.2 i j) ∧ Gw ρ ρ' w w' := by
  obtain ⟨l, L⟩ := R
  obtain ⟨la, lc, sv, V, h⟩ := h
  have hb1 := siz_len L
  simp only at hb hi
  obtain ⟨s, hs⟩ : ∃ s, L[i]? = some s := ⟨_, List.getElem?_eq_getElem hi⟩
  have hb2 := siz_next L s (List.mem_of_getElem? hs)
  obtain ⟨gs, cs, rfl, hcs1, hcs2⟩ := nonnil h.sts.1 (show 0 < L.length by omega)
  unfold maxLen at hcs2
  have hBd : Below w.heap.size w w.drew := (Below.refl _ _).drew
  have hd := h.below hBd
  obtain ⟨wd, hwd⟩ : ∃ wd, w.drew = wd := ⟨_, rfl⟩
  rw [hwd] at hd hBd
  have c1 : wd.cell? ⟨r, 1, none⟩ = some (.slice (some ⟨gs, 0, none⟩) L.length cs) := cell_of_row _ _ _ _ _ _ hd.blk
  obtain ⟨v0, v1, v2, v3⟩ := vst_get V L 0 i s hs
  rw [Nat.zero_add] at v2 v3
  have d3 := own_at hd.sts.1 _ _ v3
  have hrw := hd.rlt
  obtain ⟨i0, z, hi0, hz, hzs, hby, hzc⟩ := inInfo
  have hBa : Below wd.heap.size wd (wd.alloc (.cells #[.int .i64 (j : Int)] 3)) := (Below.refl _ wd).alloc (Nat.le_refl _) _
  have h0 := hd.below hBa
  obtain ⟨g, c, w2, hrun, hown, hgr, hk⟩ := app1 (P := Try.prog) (wd.alloc (.cells #[.int .i64 (j : Int)] 3)) 23 23 3 i0 z 1 8 Try.underlying23 hi0 hz hzs hby hzc (by decide) (V i).2 s.next.length _ (h0.nx i s hs).1 ⟨wd.heap.size, 0, none⟩ 1 [.int .i64 (j : Int)] rfl
    (fun j u hj => by
      match j, hj with
      | 0, hj => simp at hj; subst hj; simp [Addr.add])
    (fun u hu => by
      simp at hu
      subst hu; rfl)
    (by unfold maxLen; omega) (by omega)
  obtain ⟨H1, H2⟩ := h0.link hs hown hgr hk
  have HH1 := hidn H1
  have HH2 := hidn H2
  have hblk2 := (h0.rest (h0.nx i s hs) (by omega) hgr hk).1
  have own2 := h0.sts.grown (h0.nx i s hs) (by omega) hgr hk (by omega)
  have e1 : w2.cell? ⟨r, 1, none⟩ = some (.slice (some ⟨gs, 0, none⟩) L.length cs) := cell_of_row _ _ _ _ _ _ hblk2
  have e3 := own_at own2.1 _ _ v3
  have f3 := own_unfrozen own2.1 (i * 4 + 3)
  have hgr2 : gs ≠ r := by
    rintro rfl
    have x1 := own2.2 gs rfl
    have x2 := (h0.rest (h0.nx i s hs) (by omega) hgr hk).2.1
    rw [x1] at x2
    cases x2
  have e4 : (w2.setCell ⟨gs, i * 4 + 3, none⟩ (.slice (some ⟨g, 0, none⟩) (s.next.length + 1) c)).cell? ⟨r, 1, none⟩ = some (.slice (some ⟨gs, 0, none⟩) L.length cs) := by
    refine (World.cell?_of_block ?_).trans e1
    exact Below.heap_setCell _ _ _ _ (fun e => hgr2 e.symm)
  have a1 : (wd.alloc (.cells #[.int .i64 (j : Int)] 3)).cell? ⟨r, 1, none⟩ = some (.slice (some ⟨gs, 0, none⟩) L.length cs) := cell_of_row _ _ _ _ _ _ h0.blk
  have a3 := own_at h0.sts.1 _ _ v3
  obtain ⟨n, hn⟩ : ∃ n, n = L.length := ⟨_, rfl⟩
  have HN := hidn hn
  rw [← hn] at hb1 c1 e1 a1 hi e4
  have hi2 : (i : Int) < (n : Int) := by omega
  have HRUN := hidn hrun
  have HG : Hid (Gw ρ ρ w (wd.alloc (.cells #[.int .i64 (j : Int)] 3))) := hidn ((Gw.of (Kp.of_below hBd)).trans (Gw.of (Kp.of_below hBa)))
  clear h hd h0 hown hgr hk H1 H2 hblk2 hn hrun hi0 hz hzs hby hzc own2 v0 v1 v2 v3 hBa hBd
  go_enter Try.func46, Try.ntmps46
  go_wp2
  refine wp_region_noPanic ?_
  refine wp_region_held_drew (S := fun w' => w'.cell? ⟨r, 1, none⟩ = some (.slice (some ⟨gs, 0, none⟩) n cs)) (by kernel_rfl) (by rw [hwd]; exact c1) (fun hHeld => ?_)
  rw [hwd] at hHeld ⊢
  refine drawn_take (i := 0) (v := .pointer (some ⟨r, 0, none⟩)) (some 6) rfl rfl (by kernel_rfl) (by kernel_rfl) (by kernel_rfl) (fun _ _ _ h => h) (Or.inl ⟨by kernel_rfl, fun wq hw => by go_simp⟩) hHeld ?_
  simp only [Act.put, List.setIfInBounds_toArray, List.set_cons_succ, List.set_cons_zero]
  refine drawn_take (i := 1) (v := .pointer (some ⟨r, 0, none⟩)) (some 7) rfl rfl (by kernel_rfl) (by kernel_rfl) (by kernel_rfl) (fun _ _ _ h => h) (Or.inl ⟨by kernel_rfl, fun wq hw => by go_simp⟩) hHeld ?_
  simp only [Act.put, List.setIfInBounds_toArray, List.set_cons_succ, List.set_cons_zero]
  refine drawn_take (i := 2) (v := .pointer (some ⟨r, 1, none⟩)) (some 8) rfl rfl (by kernel_rfl) (by kernel_rfl) (by kernel_rfl) (fun _ _ _ h => h) (Or.inl ⟨by kernel_rfl, fun wq hw => by go_simp⟩) hHeld ?_
  simp only [Act.put, List.setIfInBounds_toArray, List.set_cons_succ, List.set_cons_zero]
  refine drawn_take (i := 3) (v := .slice (some ⟨gs, 0, none⟩) n cs) (some 9) rfl rfl (by kernel_rfl) (by kernel_rfl) (by kernel_rfl) (fun _ _ _ h => h) (Or.inl ⟨by kernel_rfl, fun wq hw => by go_simp⟩) hHeld ?_
  simp only [Act.put, List.setIfInBounds_toArray, List.set_cons_succ, List.set_cons_zero]
  refine drawn_take (i := 4) (v := .int .i64 (i : Int)) (some 10) rfl rfl (by kernel_rfl) (by kernel_rfl) (by kernel_rfl) (fun _ _ _ h => h) (Or.inl ⟨by kernel_rfl, fun wq hw => by go_simp⟩) hHeld ?_
  simp only [Act.put, List.setIfInBounds_toArray, List.set_cons_succ, List.set_cons_zero]
  refine drawn_take (i := 5) (v := .pointer (some ⟨r, 0, none⟩)) (some 11) rfl rfl (by kernel_rfl) (by kernel_rfl) (by kernel_rfl) (fun _ _ _ h => h) (Or.inl ⟨by kernel_rfl, fun wq hw => by go_simp⟩) hHeld ?_
  simp only [Act.put, List.setIfInBounds_toArray, List.set_cons_succ, List.set_cons_zero]
  refine drawn_take (i := 6) (v := .pointer (some ⟨r, 0, none⟩)) (some 12) rfl rfl (by kernel_rfl) (by kernel_rfl) (by kernel_rfl) (fun _ _ _ h => h) (Or.inl ⟨by kernel_rfl, fun wq hw => by go_simp⟩) hHeld ?_
  simp only [Act.put, List.setIfInBounds_toArray, List.set_cons_succ, List.set_cons_zero]
  refine drawn_take (i := 7) (v := .pointer (some ⟨r, 1, none⟩)) (some 13) rfl rfl (by kernel_rfl) (by kernel_rfl) (by kernel_rfl) (fun _ _ _ h => h) (Or.inl ⟨by kernel_rfl, fun wq hw => by go_simp⟩) hHeld ?_
  simp only [Act.put, List.setIfInBounds_toArray, List.set_cons_succ, List.set_cons_zero]
  refine drawn_take (i := 8) (v := .slice (some ⟨gs, 0, none⟩) n cs) (some 14) rfl rfl (by kernel_rfl) (by kernel_rfl) (by kernel_rfl) (fun _ _ _ h => h) (Or.inl ⟨by kernel_rfl, fun wq hw => by go_simp⟩) hHeld ?_
  simp only [Act.put, List.setIfInBounds_toArray, List.set_cons_succ, List.set_cons_zero]
  refine drawn_take (i := 9) (v := .int .i64 (i : Int)) (some 15) rfl rfl (by kernel_rfl) (by kernel_rfl) (by kernel_rfl) (fun _ _ _ h => h) (Or.inl ⟨by kernel_rfl, fun wq hw => by go_simp⟩) hHeld ?_
  simp only [Act.put, List.setIfInBounds_toArray, List.set_cons_succ, List.set_cons_zero]
  refine drawn_take (i := 10) (v := .pointer (some ⟨gs, i * 4, none⟩)) (some 16) rfl rfl (by kernel_rfl) (by kernel_rfl) (by kernel_rfl) (fun _ _ _ h => h) (Or.inl ⟨by kernel_rfl, fun wq hw => by go_simp⟩) hHeld ?_
  simp only [Act.put, List.setIfInBounds_toArray, List.set_cons_succ, List.set_cons_zero]
  refine drawn_take (i := 11) (v := .pointer (some ⟨gs, i * 4 + 3, none⟩)) (some 17) rfl rfl (by kernel_rfl) (by kernel_rfl) (by kernel_rfl) (fun _ _ _ h => h) (Or.inl ⟨by kernel_rfl, fun wq hw => by go_simp⟩) hHeld ?_
  simp only [Act.put, List.setIfInBounds_toArray, List.set_cons_succ, List.set_cons_zero]
  refine drawn_take (i := 13) (v := .int .i64 (j : Int)) (some 19) rfl rfl (by kernel_rfl) (by kernel_rfl) (by kernel_rfl) (fun _ _ _ h => h) (Or.inl ⟨by kernel_rfl, fun wq hw => by go_simp⟩) hHeld ?_
  simp only [Act.put, List.setIfInBounds_toArray, List.set_cons_succ, List.set_cons_zero]
  refine wpAnyH_ready (rs := [12, 14]) (by kernel_rfl) (by simp) ?_
  refine rdy_val (i := 12) rfl rfl (some 18) rfl (V i).2 wd (by go_simp) c1 (fun hHeld => ?_) ?_
  · simp only [Act.put, List.setIfInBounds_toArray, List.set_cons_succ, List.set_cons_zero]
    refine wpAnyH_ready (rs := [14]) (by kernel_rfl) (by simp) ?_
    refine rdy_val (i := 14) rfl rfl (some 20) rfl (.slice (some ⟨wd.heap.size, 0, none⟩) 1 1) (wd.alloc (.cells #[.int .i64 (j : Int)] 3)) (by go_simp) a1 (fun hHeld => ?_) rdy_nil
    simp only [Act.put, List.setIfInBounds_toArray, List.set_cons_succ, List.set_cons_zero]
    refine wpAnyH_ready (rs := [15]) (by kernel_rfl) (by simp) ?_
    refine rdy_val (i := 15) rfl rfl (some 21) rfl (.slice (some ⟨g, 0, none⟩) (s.next.length + 1) c) w2 (rx_app_run (x := .tmp 18) (y := .tmp 20) (by kernel_rfl) (by kernel_rfl) (by kernel_rfl) HRUN.out) e1 (fun hHeld => ?_) rdy_nil
    simp only [Act.put, List.setIfInBounds_toArray, List.set_cons_succ, List.set_cons_zero]
    refine drawn_take (i := 16) (v := .pointer (some ⟨gs, i * 4, none⟩)) (some 22) rfl rfl (by kernel_rfl) (by kernel_rfl) (by kernel_rfl) (fun _ _ _ h => h) (Or.inl ⟨by kernel_rfl, fun wq hw => by go_simp⟩) hHeld ?_
    simp only [Act.put, List.setIfInBounds_toArray, List.set_cons_succ, List.set_cons_zero]
    refine drawn_take (i := 17) (v := .pointer (some ⟨gs, i * 4 + 3, none⟩)) (some 23) rfl rfl (by kernel_rfl) (by kernel_rfl) (by kernel_rfl) (fun _ _ _ h => h) (Or.inl ⟨by kernel_rfl, fun wq hw => by go_simp⟩) hHeld ?_
    simp only [Act.put, List.setIfInBounds_toArray, List.set_cons_succ, List.set_cons_zero]
    refine wpAnyH_ready (rs := [18]) (by kernel_rfl) (by simp) ?_
    refine rx_rdy_unit (i := 18) rfl rfl none rfl (w2.setCell ⟨gs, i * 4 + 3, none⟩ (.slice (some ⟨g, 0, none⟩) (s.next.length + 1) c)) (by go_simp) e4 (fun hHeld => ?_) rdy_nil
    refine wpAnyH_done (by kernel_rfl) ?_ _
    refine NoPanic.normal ?_
    simp only [Act.put]
    go_wp2
    go_end0
    exact ⟨rfl, _, HH1.out, HG.out.trans HH2.out⟩
  · refine rdy_val (i := 14) rfl rfl (some 20) rfl (.slice (some ⟨wd.heap.size, 0, none⟩) 1 1) (wd.alloc (.cells #[.int .i64 (j : Int)] 3)) (by go_simp) a1 (fun hHeld => ?_) rdy_nil
    simp only [Act.put, List.setIfInBounds_toArray, List.set_cons_succ, List.set_cons_zero]
    refine wpAnyH_ready (rs := [12]) (by kernel_rfl) (by simp) ?_
    refine rdy_val (i := 12) rfl rfl (some 18) rfl (V i).2 (wd.alloc (.cells #[.int .i64 (j : Int)] 3)) (by go_simp) a1 (fun hHeld => ?_) rdy_nil
    simp only [Act.put, List.setIfInBounds_toArray, List.set_cons_succ, List.set_cons_zero]
    refine wpAnyH_ready (rs := [15]) (by kernel_rfl) (by simp) ?_
    refine rdy_val (i := 15) rfl rfl (some 21) rfl (.slice (some ⟨g, 0, none⟩) (s.next.length + 1) c) w2 (rx_app_run (x := .tmp 18) (y := .tmp 20) (by kernel_rfl) (by kernel_rfl) (by kernel_rfl) HRUN.out) e1 (fun hHeld => ?_) rdy_nil
    simp only [Act.put, List.setIfInBounds_toArray, List.set_cons_succ, List.set_cons_zero]
    refine drawn_take (i := 16) (v := .pointer (some ⟨gs, i * 4, none⟩)) (some 22) rfl rfl (by kernel_rfl) (by kernel_rfl) (by kernel_rfl) (fun _ _ _ h => h) (Or.inl ⟨by kernel_rfl, fun wq hw => by go_simp⟩) hHeld ?_
    simp only [Act.put, List.setIfInBounds_toArray, List.set_cons_succ, List.set_cons_zero]
    refine drawn_take (i := 17) (v := .pointer (some ⟨gs, i * 4 + 3, none⟩)) (some 23) rfl rfl (by kernel_rfl) (by kernel_rfl) (by kernel_rfl) (fun _ _ _ h => h) (Or.inl ⟨by kernel_rfl, fun wq hw => by go_simp⟩) hHeld ?_
    simp only [Act.put, List.setIfInBounds_toArray, List.set_cons_succ, List.set_cons_zero]
    refine wpAnyH_ready (rs := [18]) (by kernel_rfl) (by simp) ?_
    refine rx_rdy_unit (i := 18) rfl rfl none rfl (w2.setCell ⟨gs, i * 4 + 3, none⟩ (.slice (some ⟨g, 0, none⟩) (s.next.length + 1) c)) (by go_simp) e4 (fun hHeld => ?_) rdy_nil
    refine wpAnyH_done (by kernel_rfl) ?_ _
    refine NoPanic.normal ?_
    simp only [Act.put]
    go_wp2
    go_end0
    exact ⟨rfl, _, HH1.out, HG.out.trans HH2.out⟩
end Go.Proofs.Ytdgkjiiegmnjfaa
