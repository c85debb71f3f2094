/- WalBack: the law's walk. -/
import Derived.Test.YthhnpajaacfapaaDoorMt
import Derived.Test.YthhnpajaacfapaaDoorMq
import Derived.Test.YthhnpajaacfapaaDoorMj
import Derived.Test.YthhnpajaacfapaaDoorMu
import Derived.Test.YthhnpajaacfapaaDoorAppK
namespace Go.Proofs.YthhnpajaacfapaaDoor
open Go.RowKit Go.Maps
set_option linter.unusedVariables false

/-- A record that came in. -/
structure Rc where
  y0 : Int
  y1 : Int
  y2 : Int
  a : Option Addr
  l : Nat
  c : Nat
  zs : List Nat

def Rc.cells (r : Rc) : List Value := [.int .i64 r.y0, .int .i64 r.y1, .int .i64 r.y2, .slice r.a r.l r.c]

def Rls (w : World) (a : Option Addr) (len : Nat) (l : List Rc) : Prop :=
  l.length = len ∧ len ≤ maxLen ∧ (a = none → len = 0) ∧ (∀ r ∈ l, Bs w r.a r.l r.zs ∧ r.l ≤ r.c) ∧ ∀ x, a = some x → ∀ (j : Nat) (r : Rc), l[j]? = some r → ∀ (k : Nat) (v : Value), r.cells[k]? = some v → w.cell? (x.add (j * 4 + k)) = some v

theorem Rls.at {w w' : World} {a : Option Addr} {len j : Nat} {l : List Rc} {r : Rc} (h : Rls w a len l) (hb : Below w.heap.size w w') (hr : l[j]? = some r) :
    ∃ b off, a = some ⟨b, off, none⟩ ∧ w'.rangeAt b (off + j * 4) r.cells := by
  obtain ⟨h1, h2, h3, h4, h5⟩ := h
  cases a with
  | none =>
    have := h3 rfl
    have := (List.getElem?_eq_some_iff.1 hr).1
    omega
  | some x =>
    obtain ⟨b, off, spot⟩ := x
    obtain ⟨s0, hs0⟩ : ∃ s0, l[0]? = some s0 := ⟨_, List.getElem?_eq_getElem (by have := (List.getElem?_eq_some_iff.1 hr).1; omega)⟩
    have hspot : spot = none := by simpa [Addr.add] using World.cell?_spot (h5 _ rfl 0 s0 hs0 0 _ rfl)
    subst hspot
    refine ⟨b, off, rfl, fun k v hv => ?_⟩
    have h6 := h5 _ rfl j r hr k v hv
    rw [add_none] at h6
    rw [Nat.add_assoc]
    exact (hb.cell (block_lt_of_cell h6)).trans h6

/-- What is wanted, so far. -/
def WantI (w wr : World) (F : Nat → Prop) (v : Value) (rs : List (List Nat)) : Prop :=
  ∃ vs : List Value, wr.ownsRow w.heap.size 29 1 v rs.length vs ∧ (∀ (i : Nat) (z : List Nat), rs[i]? = some z → ∃ (a : Option Addr) (c : Nat), vs[i]? = some (Value.slice a z.length c) ∧ Bs w a z.length z) ∧ ∀ g, v.ownBlock = some g → ¬ F g

theorem own_keepB {w w' : World} {F : Nat → Prop} {base e size n : Nat} {v : Value} {xs : List Value} (h : w.ownsRow base e size v n xs) (hn : ∀ g, v.ownBlock = some g → ¬ F g) (hk : Keeps F w w') : w'.ownsRow base e size v n xs := by
  obtain ⟨hl, h1⟩ := h
  refine ⟨hl, ?_⟩
  rcases h1 with h1 | ⟨g, cap, cur, hv, hg, hh, r⟩
  · exact .inl h1
  · refine .inr ⟨g, cap, cur, hv, hg, ?_, r⟩
    rw [hk.block g (Array.getElem?_eq_some_iff.1 hh).1 (hn g (by rw [hv]; rfl))]
    exact hh

theorem WantI.gr {w wr w2 : World} {F F2 : Nat → Prop} {v : Value} {rs : List (List Nat)} (h : WantI w wr F v rs) (hG : Gr F F2 wr w2) : WantI w w2 F2 v rs := by
  obtain ⟨vs, h1, h2, h3⟩ := h
  refine ⟨vs, own_keepB h1 h3 hG.1, h2, fun g hg => hG.not ?_ (h3 g hg)⟩
  exact (h1.lt g hg).2

theorem WantI.below {w wr w2 : World} {F : Nat → Prop} {v : Value} {rs : List (List Nat)} (h : WantI w wr F v rs) (hb : Below wr.heap.size wr w2) : WantI w w2 F v rs := h.gr (Gr.of (Keeps.of_below hb))

theorem WantI.tls {w wr : World} {F : Nat → Prop} {v : Value} {rs : List (List Nat)} (h : WantI w wr F v rs) (hb : Below w.heap.size w wr) : ∃ a c, v = .slice a rs.length c ∧ Tls wr a rs.length rs := by
  obtain ⟨vs, h1, h2, _⟩ := h
  rcases h1.2 with ⟨hv, h0⟩ | ⟨g, cap, cur, hv, _, hg, hle, hcm, _, hc⟩
  · refine ⟨none, 0, by rw [hv, h0], rfl, by rw [h0]; exact Nat.zero_le _, fun _ => h0, fun x hx => by cases hx⟩
  · refine ⟨some ⟨g, 0, none⟩, cap, hv, rfl, by omega, (fun e => by cases e), fun x hx j z hz => ?_⟩
    cases hx
    obtain ⟨a, c, e, hB⟩ := h2 j z hz
    refine ⟨a, c, ?_, hB.below hb⟩
    rw [add_none, cell_of_row _ _ _ _ _ _ hg]
    have hj := (List.getElem?_eq_some_iff.1 hz).1
    rw [← hc, List.getElem?_take, if_pos (by omega)] at e
    simpa using e

set_option maxRecDepth 100000 in
set_option maxHeartbeats 2000000 in
theorem half_zero (w : World) (d : Nat) (F : Nat → Prop) (N : Nat) (M : List UInt8 → List Ext) (free fuse : Int) (h : DiskOf w d F N M free fuse) (f : ByteArray) (hf : f.size ≤ maxLen) (h0 : M f.data.toList = []) (ia : Option Addr) (il ic : Nat) (xs : List Int) (hX : Ils w ia il xs) :
    Calls Tryd.prog 8 #[.pointer (some ⟨d, 0, none⟩), .string f, .slice ia il ic] w fun e w' => e = .returned (.tuple #[]) ∧ w' = w := by
  have HE := hidn (extents_disk w d F N M free fuse h f hf 0 (hidn (by rw [h0]; rfl)))
  have hlx := hidn hX.1
  have hil := hX.2.1
  unfold maxLen at hil
  go_enter Tryd.func8, Tryd.ntmps8
  go_wp2_with fail
  refine HE.out.mono ?_
  rintro e w1 ⟨rfl, rfl⟩
  go_wp2_with fail
  go_loopw [14] (fun iv wr => iv = .int .i64 0 ∧ wr = w1) (fun _ _ => 0)
  case atStart => exact ⟨rfl, rfl⟩
  case round =>
    obtain ⟨rfl, rfl⟩ := hrel
    by_cases hi : il = 0
    · have h1 : ¬ (0 : Int) < (il : Int) := by omega
      clear hi
      go_wp2
      go_end0
      exact ⟨rfl, rfl⟩
    · have h1 : (0 : Int) < (il : Int) := by omega
      obtain ⟨x0, hx0⟩ : ∃ x0, xs[0]? = some x0 := ⟨_, List.getElem?_eq_getElem (by rw [hlx.out]; omega)⟩
      obtain ⟨b, off, rfl, hc⟩ := hX.at hx0
      rw [Nat.add_zero] at hc
      clear hi hx0
      go_wp2
      go_end0
      exact ⟨rfl, rfl⟩

theorem upd_leE (M : List UInt8 → List Ext) (s : List UInt8) (l : List Ext) (n : Nat) (h : ∀ t, (M t).length ≤ n) (hl : l.length = (M s).length) (t : List UInt8) : (upd M s l t).length ≤ n := by
  unfold upd
  split
  · rw [hl]; exact h _
  · exact h t

theorem upd_lenE (M : List UInt8 → List Ext) (s : List UInt8) (l : List Ext) (hl : l.length = (M s).length) (t : List UInt8) : (M t).length = (upd M s l t).length := by
  unfold upd
  split
  · next e => rw [hl, e]
  · rfl

/-- The whole state between two records. -/
def BackI (w wr : World) (d : Nat) (at' : Nat) (wv : Value) (rs : List (List Nat)) : Prop :=
  ∃ (M : List UInt8 → List Ext) (F : Nat → Prop), (at' = sumN rs ∧ at' ≤ 5 * rs.length) ∧ LogB M 7 at' ∧ Stores (fun i => getP M (segN 7) (i : Int)) 0 rs ∧ DiskOf wr d F (at' + at') M (300 - (at' : Int) - at') (-1) ∧ Sound5 wr F ∧ (∀ k, F k → w.heap.size ≤ k) ∧ WantI w wr F wv rs ∧ Below w.heap.size w wr

theorem BackI.below {w wr w2 : World} {d at' : Nat} {wv : Value} {rs : List (List Nat)} (h : BackI w wr d at' wv rs) (hb : Below wr.heap.size wr w2) : BackI w w2 d at' wv rs := by
  obtain ⟨M, F, h1, h2, h3, h4, h5, h6, h7, h8⟩ := h
  exact ⟨M, F, h1, h2, h3, h4.below hb, h5.below hb, h6, h7.below hb, h8.trans (hb.mono h8.size)⟩

/-- A record more. -/
theorem BackI.next {w wr w2 w3 : World} {d at' E : Nat} {wv v3 : Value} {rs : List (List Nat)} {z : List Nat} {M : List UInt8 → List Ext} {F F2 : Nat → Prop} {a : Option Addr} {c g : Nat} {vs : List Value}
    (h1 : at' = sumN rs ∧ at' ≤ 5 * rs.length) (h2 : LogB M 7 at') (h3 : Stores (fun i => getP M (segN 7) (i : Int)) 0 rs) (hF2 : ∀ k, F2 k → w.heap.size ≤ k) (hS2 : Sound5 w2 F2) (b2 : Below w.heap.size w w2)
    (hg : g ≤ 4611686018427387904) (hz1 : 1 ≤ z.length) (hz5 : z.length ≤ 500) (hE : E = (z.length + 3) / 106 + 1) (hr12 : rs.length ≤ 11) (hB : Bs w a z.length z)
    (hD : DiskOf w2 d F2 (at' + at' + E + E) (appM M (segN 7) at' g (partsB (recB z))) (300 - (at' : Int) - at' - E - E) (-1))
    (hw1 : w2.ownsRow w.heap.size 29 1 wv rs.length vs) (hw2 : ∀ (i : Nat) (z : List Nat), rs[i]? = some z → ∃ (a : Option Addr) (c : Nat), vs[i]? = some (Value.slice a z.length c) ∧ Bs w a z.length z) (hw3 : ∀ g, wv.ownBlock = some g → ¬ F2 g)
    (o : Obj) (hown : w3.ownsRow w.heap.size 29 1 v3 (rs.length + 1) (vs ++ [.slice a z.length c])) (hgr : (w2.alloc o).grownBy w3 wv.ownBlock) (hgr2 : v3.ownBlock = wv.ownBlock ∨ ∀ g, v3.ownBlock = some g → w2.heap.size ≤ g) (hT : CrcTab w) : BackI w w3 d (at' + E) v3 (rs ++ [z]) := by
  have hPL : (partsB (recB z)).length = E := by rw [recB_parts, hE]
  have hnd : needB (z.length : Int) = E := by rw [needB_yes _ hz1 (by omega), hE]
  have hblk : ∀ k, k < w2.heap.size → (∀ g, wv.ownBlock = some g → k ≠ g) → w3.heap[k]? = w2.heap[k]? := fun k hk hne => by
    rw [hgr.block k (by rw [World.size_alloc]; omega) (fun e => hne k e.symm rfl)]
    exact Below.heap_alloc _ _ _ hk
  have hF3 : ∀ k, F2 k → w3.heap[k]? = w2.heap[k]? := fun k hk => hblk k (hS2.lt k hk) (fun g hg e => hw3 g hg (e ▸ hk))
  have hsz : w2.heap.size ≤ w3.heap.size := by have := hgr.size; rw [World.size_alloc] at this; omega
  have hb3 : Below w.heap.size w w3 := (b2.alloc b2.size o).grown hgr (by rw [World.size_alloc]; have := b2.size; omega) (fun k hk => (hw1.lt k hk).1)
  have htab : CrcTab w3 := hT.below hb3
  have hD3 : DiskOf w3 d F2 (at' + at' + E + E) (appM M (segN 7) at' g (partsB (recB z))) (300 - (at' : Int) - at' - E - E) (-1) := hD.other hF3
  have hLB := h2.app (by omega) g hg z (by rw [hPL]; omega)
  rw [hPL] at hLB
  refine ⟨_, F2, ⟨by rw [sumN_snoc, hnd, h1.1], by rw [List.length_append, List.length_singleton]; omega⟩, hLB, ?_, ?_, ⟨htab, hS2.far, fun k hk => Nat.lt_of_lt_of_le (hS2.lt k hk) hsz⟩, hF2, ?_, hb3⟩
  · have hpre : ∀ i, i < at' → getP (appM M (segN 7) at' g (partsB (recB z))) (segN 7) (i : Int) = getP M (segN 7) (i : Int) := fun i hi => getP_eq (by rw [appM_A, List.getElem?_append_left (by rw [← h2.ok.lA]; exact hi)]) (by rw [appM_B, List.getElem?_append_left (by rw [← h2.ok.lB]; exact hi)])
    have s1 : Stores (fun i => getP (appM M (segN 7) at' g (partsB (recB z))) (segN 7) (i : Int)) 0 rs := h3.congr at' hpre (by omega)
    refine s1.snoc hz1 (by omega) ?_
    rw [Nat.zero_add, ← h1.1]
    exact appM_stored M (segN 7) at' g z h2.ok.lA h2.ok.lB hg (by rw [hPL]; omega)
  · have e1 : at' + E + (at' + E) = at' + at' + E + E := by omega
    have e2 : (300 : Int) - ((at' + E : Nat) : Int) - ((at' + E : Nat) : Int) = 300 - (at' : Int) - at' - E - E := by omega
    rw [e1, e2]
    exact hD3
  · have hvl : vs.length = rs.length := by have := hw1.1; simpa using this
    refine ⟨vs ++ [.slice a z.length c], by rw [List.length_append, List.length_singleton]; exact hown, fun i y hy => ?_, fun g hg hf => ?_⟩
    · by_cases hi : i < rs.length
      · rw [List.getElem?_append_left hi] at hy
        obtain ⟨a', c', e, hB'⟩ := hw2 i y hy
        exact ⟨a', c', by rw [List.getElem?_append_left (by omega)]; exact e, hB'⟩
      · have hi2 : i = rs.length := by
          have := (List.getElem?_eq_some_iff.1 hy).1
          rw [List.length_append, List.length_singleton] at this
          omega
        subst hi2
        rw [List.getElem?_append_right (Nat.le_refl _), Nat.sub_self] at hy
        cases hy
        exact ⟨a, c, by rw [List.getElem?_append_right (by omega), hvl, Nat.sub_self]; rfl, hB⟩
    · have hgl := hS2.lt g hf
      rcases hgr2 with hq | hq
      · exact hw3 g (by rw [← hq]; exact hg) hf
      · have := hq g hg
        omega

/-- Half of a log's file: some of its bytes are turned. -/
theorem halfB (w : World) (d : Nat) (F : Nat → Prop) (N : Nat) (M : List UInt8 → List Ext) (free fuse : Int) (h : DiskOf w d F N M free fuse) (n : Nat) (hL : LogB M 7 n) (hn : n ≤ 1000) (f : ByteArray) (hf : f.size ≤ maxLen) (hlen : (M f.data.toList).length = n) (ia : Option Addr) (il ic : Nat) (xs : List Int) (hX : ∀ wr, Gr F F w wr → Ils wr ia il xs) :
    Calls Tryd.prog 8 #[.pointer (some ⟨d, 0, none⟩), .string f, .slice ia il ic] w fun e w' => e = .returned (.tuple #[]) ∧ ∃ l, l.length = (M f.data.toList).length ∧ DiskOf w' d F N (upd M f.data.toList l) free fuse ∧ Gr F F w w' := by
  have hok : ∀ t, ∀ x ∈ M t, x.ok := by
    intro t x hx
    obtain ⟨bm, D, G, C, _, _, _, _, _, h6, _⟩ := h
    exact (h6 t (fun e => by rw [e] at hx; simp at hx)).2.2 x hx
  by_cases h0 : n = 0
  · have hnil : M f.data.toList = [] := List.length_eq_zero_iff.1 (by rw [hlen, h0])
    refine (half_zero w d F N M free fuse h f hf hnil ia il ic xs (hX w (Gr.refl _ _))).mono ?_
    rintro e w' ⟨rfl, rfl⟩
    exact ⟨rfl, M f.data.toList, rfl, by rw [upd_eq]; exact h, Gr.refl _ _⟩
  · have hb := hL.bad hok f.data.toList
    rw [hlen] at hb
    refine (half_any w d F N M free fuse h f hf n (by omega) (by omega) _ hb ia il ic xs hX).mono ?_
    rintro e w' ⟨rfl, l, hl, hD, hG⟩
    exact ⟨rfl, l, by rw [hl.1, hlen], hD, hG⟩

theorem halfB2 (f2 : ByteArray) (w : World) (d : Nat) (F : Nat → Prop) (N : Nat) (M : List UInt8 → List Ext) (free fuse : Int) (h : DiskOf w d F N M free fuse) (n : Nat) (hL : LogB M 7 n) (hn : n ≤ 1000) (f : ByteArray) (he : f = f2) (hf : f.size ≤ maxLen) (hlen : (M f.data.toList).length = n) (ia : Option Addr) (il ic : Nat) (xs : List Int) (hX : ∀ wr, Gr F F w wr → Ils wr ia il xs) :
    Calls Tryd.prog 8 #[.pointer (some ⟨d, 0, none⟩), .string f2, .slice ia il ic] w fun e w' => e = .returned (.tuple #[]) ∧ ∃ l, l.length = (M f.data.toList).length ∧ DiskOf w' d F N (upd M f.data.toList l) free fuse ∧ Gr F F w w' := by
  rw [← he]
  exact halfB w d F N M free fuse h n hL hn f hf hlen ia il ic xs hX

set_option maxRecDepth 100000 in
set_option maxHeartbeats 8000000 in
theorem walBack_walk (la : Option Addr) (ll lc : Nat) (l : List Rc) (which : Bool) (ia : Option Addr) (il ic : Nat) (xs : List Int) (w : World) (hL : Rls w la ll l) (hX : Ils w ia il xs) (hT : CrcTab w) :
    Calls Tryd.prog 3 #[.slice la ll lc, .bool which, .slice ia il ic] w fun e w' => e = .returned (.bool true) ∧ Below w.heap.size w w' := by
  have HT := hidn hT
  have HLs := hidn hL
  have HXs := hidn hX
  have hll := hidn hL.1
  have hlm := hL.2.1
  unfold maxLen at hlm
  obtain ⟨i0, hi, hz0, hz1, hz2⟩ := infoBs
  clear hT hX hL
  go_enter Tryd.func3, Tryd.ntmps3
  go_wp2_with fail
  refine (new_any _ 300 (by omega)).mono ?_
  rintro e w1 ⟨rfl, hD1, hb1, hs1⟩
  have HI1 : Hid (BackI w w1 (w.heap.size + 1) 0 (.slice none 0 0) []) := hidn ⟨fun _ => [], fun k => w.heap.size ≤ k ∧ k < w.heap.size + 2, ⟨rfl, Nat.zero_le _⟩, logB_new 7, trivial, by simpa using hD1, ⟨HT.out.below hb1, fun hF => by have := HT.out.lt; omega, fun k hk => by omega⟩, fun k hk => hk.1, ⟨[], World.ownsRow_nil _ _ _ _, fun i z hz => by simp at hz, fun g hg => by cases hg⟩, hb1⟩
  clear hD1 hb1 hs1
  go_wp2_with fail
  go_loopw [9, 10, 27] (fun wv av iv wr => ∃ (k at' : Nat) (rs : List (List Nat)), k ≤ ll ∧ iv = .int .i64 (k : Int) ∧ av = .int .i64 (at' : Int) ∧ rs.length ≤ k ∧ rs.length ≤ 12 ∧ Hid (BackI w wr (w.heap.size + 1) at' wv rs)) (fun _ _ iv _ => ll - (intOf iv).toNat)
  case atStart => exact ⟨0, 0, [], Nat.zero_le _, rfl, rfl, Nat.le_refl _, Nat.zero_le _, HI1⟩
  case round =>
    obtain ⟨k, at', rs, hk, rfl, rfl, hrk, hr12, HI⟩ := hrel
    by_cases hlt : k < ll
    · have hlt2 : (k : Int) < (ll : Int) := by omega
      obtain ⟨r, hr⟩ : ∃ r, l[k]? = some r := ⟨_, List.getElem?_eq_getElem (by rw [hll.out]; exact hlt)⟩
      have hbw : Below w.heap.size w wr := by obtain ⟨_, _, _, _, _, _, _, _, _, hb⟩ := HI.out; exact hb
      obtain ⟨b, off, rfl, hrng⟩ := HLs.out.at hbw hr
      obtain ⟨hBr, hrc⟩ := HLs.out.2.2.2.1 r (List.mem_of_getElem? hr)
      obtain ⟨y0, y1, y2, xa, xl, xc, xs0⟩ := r
      simp only [Rc.cells] at hrng
      simp only at hBr hrc
      have hc0 : wr.cell? ⟨b, off + k * 4, none⟩ = some (.int .i64 y0) := hrng 0 _ rfl
      have hc1 : wr.cell? ⟨b, off + k * 4 + 1, none⟩ = some (.int .i64 y1) := hrng 1 _ rfl
      have hc2 : wr.cell? ⟨b, off + k * 4 + 2, none⟩ = some (.int .i64 y2) := hrng 2 _ rfl
      have hc3 : wr.cell? ⟨b, off + k * 4 + 3, none⟩ = some (.slice xa xl xc) := hrng 3 _ rfl
      clear hrng hr
      go_wp2_with fail
      clear hc0 hc1 hc2 hc3
      obtain ⟨m, hm⟩ : ∃ m, m = min xl 500 := ⟨_, rfl⟩
      have HM := hidn hm
      have HBm := hidn (bs_cut hBr m (by omega))
      have hm5 : m ≤ 500 := by omega
      clear hm hBr
      have bwb : Below wr.heap.size wr (wr.alloc (.cells #[.int .i64 y0, .int .i64 y1, .int .i64 y2, .slice xa xl xc] 31)) := (Below.refl _ _).alloc (Nat.le_refl _) _
      refine (cut_any _ _ _ _ xa xl xc hrc m HM).mono ?_
      rintro e w2 ⟨rfl, hb2⟩
      have HI2 := hidn (HI.out.below (bwb.trans (hb2.mono bwb.size)))
      clear bwb hb2 hbw
      have HLT := hidn hlt
      by_cases hgo : k < 12 ∧ 0 < m
      · have hk12 : decide ((k : Int) < 12) = true := by simp; omega
        have hm0 : decide ((0 : Int) < (m : Int)) = true := by simp; omega
        have hm0' : decide (0 < m) = true := by simp; omega
        obtain ⟨M, F, h1, h2, h3, h4, h5, h6, h7, h8⟩ := HI2.out
        have hBF : BsF F w2 xa m (xs0.take m) := ⟨HBm.out.below h8, fun y hy hn hF => by
          have h9 := block_lt_of_cell (HBm.out.2.2.2.2 _ hy 0 hn)
          have e : (y.add 0).block = y.block := by unfold Addr.add; split <;> rfl
          have := h6 _ hF
          omega⟩
        obtain ⟨E, hE⟩ : ∃ E, E = (m + 3) / 106 + 1 := ⟨_, rfl⟩
        have hEb : 1 ≤ E ∧ E ≤ 5 := by omega
        have hat : at' ≤ 55 := by omega
        have HAp := hidn (append_end w2 _ F (at' + at') M _ h4 h5 7 (by omega) at' h2.ok (k + 1) (by omega) xa m xc (xs0.take m) hBF (by omega) (by omega) (by omega) (by omega) E (hidn hE) (by omega) (by omega))
        obtain ⟨k1, hk1⟩ : ∃ k1, k1 = k + 1 := ⟨_, rfl⟩
        have hwk : IntKind.i64.wrap ((k : Int) + 1) = (k1 : Int) := by rw [IntKind.wrap_i64]; omega
        have hwk' : (k : Int) + 1 = (k1 : Int) := by omega
        have hk1b : k1 ≤ 12 := by omega
        rw [← hk1] at HAp
        have HS := hidn (And.intro h1 (And.intro h2 h3))
        have HR := hidn (And.intro h5 (And.intro h6 (And.intro h7 h8)))
        have HE := hidn hE
        have HG := hidn hgo
        have HK1 := hidn hk1
        clear h1 h2 h3 h4 h5 h6 h7 h8 hBF hE HI2 hgo hk1
        go_wp2_with fail
        refine HAp.out.mono ?_
        clear HAp
        rintro e w3 ⟨rfl, F3, hD3, hG3⟩
        obtain ⟨h5, h6, h7, h8⟩ := HR.out
        have hS3 := h5.gr hG3
        have hF3 := hG3.ge h8.size h6
        have b3 := h8.trans (hG3.1.below h8.size h6)
        obtain ⟨vs, hw1, hw2, hw3⟩ := h7.gr hG3
        have hlx : (xs0.take m).length = m := HBm.out.1
        obtain ⟨rl, hrl⟩ : ∃ rl, rl = rs.length := ⟨_, rfl⟩
        have hw1' := hw1
        rw [← hrl] at hw1'
        obtain ⟨va, vc, e9⟩ := own_sliceB hw1'
        have hbA : Below w3.heap.size w3 (w3.alloc (.cells #[.slice xa m xc] 29)) := (Below.refl _ _).alloc (Nat.le_refl _) _
        obtain ⟨g4, c4, w4, hrun, hown4, hgr4, hpl4⟩ := appN (P := Tryd.prog) (w3.alloc (.cells #[.slice xa m xc] 29)) 28 28 29 i0 (.slice none 0 0) 1 24 Tryd.underlying28 hi hz0 hz1 hz2 rfl (by decide) u9 rl vs w.heap.size (hw1'.alloc _) (by rw [World.size_alloc]; have := b3.size; omega) ⟨w3.heap.size, 0, none⟩ 1 1 (by omega) [.slice xa m xc] rfl (fun j u hu => by
          match j, hu with
          | 0, hu => cases hu; rw [add_none]; exact cell_of_row _ _ _ _ _ _ (heap_alloc_new _ _)) (fun u hu => by simp at hu; subst hu; rfl) (by unfold maxLen; omega) (by omega)
        have HN : Hid (BackI w w4 (w.heap.size + 1) (at' + E) (.slice (some ⟨g4, 0, none⟩) (rl + 1) c4) (rs ++ [xs0.take m])) := hidn (by
          have hEE := HE.out
          rw [← hlx] at hEE
          have hown4' := hown4
          rw [hrl, ← hlx] at hown4'
          have hx := BackI.next (w := w) (wr := w2) (w2 := w3) (w3 := w4) (d := w.heap.size + 1) (at' := at') (E := E) (wv := u9) (rs := rs) (z := xs0.take m) (M := M) (F := F) (F2 := F3) (a := xa) (c := xc) (g := k1) (vs := vs) HS.out.1 HS.out.2.1 HS.out.2.2 hF3 hS3 b3 (by omega) (by rw [hlx]; have := HG.out; omega) (by rw [hlx]; omega) hEE (by have := HG.out; omega) (by rw [hlx]; exact HBm.out) hD3 hw1 hw2 hw3 _ hown4' hgr4 (by
            rcases hpl4 with h | h
            · exact .inl h.symm
            · refine .inr fun g hg => ?_
              simp [Value.ownBlock] at hg
              rw [World.size_alloc] at h
              omega) HT.out
          rw [hrl]
          exact hx)
        obtain ⟨an, han⟩ : ∃ an, an = at' + E := ⟨_, rfl⟩
        rw [← han] at HN
        have hwa : IntKind.i64.wrap ((at' : Int) + (E : Int)) = (an : Int) := by rw [IntKind.wrap_i64]; omega
        have hwa' : (at' : Int) + (E : Int) = (an : Int) := by omega
        have hanb : an ≤ 100 := by omega
        have hE1 : decide ((E : Int) < 1) = false := by simp; omega
        have hE1' : decide (E < 1) = false := by simp; omega
        have HRUN := hidn hrun
        have HRL : Hid ((rs ++ [xs0.take m]).length = rl + 1) := hidn (by rw [List.length_append, List.length_singleton, hrl])
        have hrlk : rl ≤ k := by omega
        subst e9
        clear hrun hown4 hgr4 hpl4 hw1 hw1' hw2 hw3 hD3 hG3 hS3 hF3 b3 h5 h6 h7 h8 hbA han hrl hlx
        go_wp2_with (at_builtin; refine wpList_app_run2 rfl _ _ 28 28 rfl rfl (.slice va rl vc) _ _ rfl rfl HRUN.out ?_; clear HRUN)
        go_roundw
        case rel => exact ⟨k1, an, rs ++ [xs0.take m], by have := HLT.out; have := HK1.out; omega, rfl, rfl, by rw [HRL.out]; have := HK1.out; omega, by rw [HRL.out]; have := HG.out; omega, HN⟩
        case measure => simp [intOf]; have := HLT.out; have := HK1.out; omega
      · have hpk : Hid (k < 12 → m = 0) := hidn (fun h => by omega)
        by_cases hk0 : k < 12
        · have hk12 : decide ((k : Int) < 12) = true := by simp; omega
          have hm0 : m = 0 := hpk.out hk0
          subst hm0
          clear hgo hpk
          go_wp2
          go_roundw
          case rel => exact ⟨k + 1, at', rs, HLT.out, by simp, rfl, by omega, hr12, HI2⟩
          case measure => simp [intOf]; have := HLT.out; omega
        · have hk12 : decide ((k : Int) < 12) = false := by simp; omega
          clear hgo hpk
          go_wp2
          go_roundw
          case rel => exact ⟨k + 1, at', rs, HLT.out, by simp, rfl, by omega, hr12, HI2⟩
          case measure => simp [intOf]; have := HLT.out; omega
    · have hlt2 : ¬ (k : Int) < (ll : Int) := by omega
      obtain ⟨M, F, h1, h2, h3, h4, h5, h6, h7, h8⟩ := HI.out
      have hat : at' ≤ 60 := by omega
      obtain ⟨hnA, hnB, hsz7, hnilA, hnilB⟩ := segN_names 7 (by omega)
      have hfA : fileA (segN 7) = ⟨#[119, 55, 46, 97]⟩ := by decide +kernel
      have hfB : fileB (segN 7) = ⟨#[119, 55, 46, 98]⟩ := by decide +kernel
      obtain ⟨f, hfe, hfs⟩ : ∃ f : ByteArray, f = (if which then ⟨#[119, 55, 46, 98]⟩ else ⟨#[119, 55, 46, 97]⟩) ∧ (f = fileA (segN 7) ∨ f = fileB (segN 7)) := by
        cases which with
        | true => exact ⟨_, rfl, .inr hfB.symm⟩
        | false => exact ⟨_, rfl, .inl hfA.symm⟩
      have hfsz : f.size ≤ maxLen := by rw [hfe]; cases which <;> decide
      have hfl : (M f.data.toList).length = at' := by
        rcases hfs with rfl | rfl
        · exact h2.ok.lA.symm
        · exact h2.ok.lB.symm
      have hfnil : [] ≠ f.data.toList := by
        rcases hfs with rfl | rfl
        · exact hnilA
        · exact hnilB
      have HCp := hidn (copy_disk wr _ F _ M _ _ h4 (by omega) (fun t => by have := h2.ok.le t; omega))
      have HS := hidn (And.intro h1 (And.intro h2 h3))
      have HR := hidn (And.intro h4 (And.intro h5 (And.intro h6 (And.intro h7 h8))))
      have HF := hidn (And.intro hfs (And.intro hfl (And.intro hfnil hfsz)))
      have HFE := hidn hfe
      clear h1 h2 h3 h4 h5 h6 h7 h8 HI hfs hfl hfnil hfsz hfe hfA hfB hnA hnB hnilA hnilB hsz7
      have hgo : ∀ ff, ff = f → True := fun _ _ => trivial
      cases which with
      | true =>
        have hff : f = ⟨#[119, 55, 46, 98]⟩ := HFE.out
        have HFF := hidn hff
        clear hff HFE hgo
        go_wp2_with fail
        refine HCp.out.mono ?_
        clear HCp
        rintro e w2 ⟨dc, rfl, ⟨Fc, hDc, hFc⟩, hb2⟩
        obtain ⟨h4, h5, h6, h7, h8⟩ := HR.out
        have b2 := h8.trans (hb2.mono h8.size)
        have h4' := h4.below hb2
        have h5' := h5.below hb2
        have h7' := h7.below hb2
        have HHf := hidn (halfB2 ⟨#[119, 55, 46, 98]⟩ w2 _ F _ M _ _ h4' at' HS.out.2.1 (by omega) f HFF.out HF.out.2.2.2 HF.out.2.1 ia il ic xs (fun wx hG => HXs.out.below (b2.trans (hG.1.below b2.size h6))))
        have HC2 := hidn (And.intro hDc hFc)
        have HB2 := hidn (And.intro h5' (And.intro h7' b2))
        have HSZ := hidn (And.intro h5.lt hb2.size)
        clear h4 h5 h7 h8 h4' h5' h7' hDc hFc hb2 b2
        go_wp2_with fail
        refine HHf.out.mono ?_
        clear HHf
        rintro e w3 ⟨rfl, l3, hl3, hD3, hG3⟩
        obtain ⟨hDc, hFc⟩ := HC2.out
        obtain ⟨h5', h7', b2⟩ := HB2.out
        have b3 := b2.trans (hG3.1.below b2.size h6)
        have hDc3 : DiskOf w3 dc Fc _ M _ _ := hDc.other (fun k hk => hG3.1.block k (hFc k hk).2 (fun hf => by have := HSZ.out.1 k hf; have := (hFc k hk).1; omega))
        have hle3 := upd_leE M f.data.toList l3 1000000 (fun t => by have := HS.out.2.1.ok.le t; omega) hl3
        have hlen3 := upd_lenE M f.data.toList l3 hl3
        have HTd := hidn (told_any w3 (w.heap.size + 1) dc F Fc (at' + at') _ (upd M f.data.toList l3) M _ _ _ _ hD3 hDc3 (by omega) hlen3 hle3)
        have h7'' := h7'.gr hG3
        have HD3 := hidn hD3
        have HR3 := hidn (And.intro (h5'.gr hG3) (And.intro h7'' b3))
        have HL3 := hidn hl3
        clear hDc hFc h5' h7' b2 hDc3 hD3 hG3 hlen3 hle3 h7'' b3 hl3
        go_wp2_with fail
        refine HTd.out.mono ?_
        clear HTd
        rintro e w4 ⟨bo, rfl, hto, hb4⟩
        obtain ⟨hS3, hW3, b3⟩ := HR3.out
        have b4 := b3.trans (hb4.mono b3.size)
        cases bo with
        | false =>
          go_wp2_with fail
          refine (awake18_any _ (HT.out.below b4)).mono ?_
          rintro e w5 ⟨rfl, hb5⟩
          have b5 := b4.trans (hb5.mono b4.size)
          go_wp2
          go_ret
          exact ⟨rfl, b5⟩
        | true =>
          have hTo := hto rfl
          have hget := half_get HS.out.2.1 f HF.out.1 l3 rfl HL3.out (hTo _)
          have hst : Stores (fun i => getP (upd M f.data.toList l3) (segN 7) (i : Int)) 0 rs := HS.out.2.2.congr at' hget (by have := HS.out.1.1; omega)
          have hrd := readP_stores _ _ _ hst
          rw [← HS.out.1.1] at hrd
          have HRd := hidn (read_wal w4 _ F _ _ _ _ (HD3.out.below hb4) (hS3.tab.below hb4) (by rw [upd_other _ _ _ _ HF.out.2.2.1]; exact HS.out.2.1.ok.nil) (segN 7) (by decide +kernel) at' (by omega) ((7 : Nat) : Int) (by omega) (by omega) (wname_below w4 7 (by omega)))
          rw [hrd] at HRd
          have hW4 := hidn (hW3.below hb4)
          have HB4 := hidn b4
          clear hTo hget hst hrd hto hS3 hW3 b3 b4 hb4
          go_wp2_with fail
          refine HRd.out.mono ?_
          clear HRd
          rintro e w5 ⟨hb5, v5, rfl, hTx5⟩
          obtain ⟨ta, tc, rfl, hTl5⟩ := hTx5.tls
          have b5 := HB4.out.trans (hb5.mono HB4.out.size)
          obtain ⟨wa, wc, hwv, hWl⟩ := (hW4.out.below hb5).tls b5
          obtain ⟨rl, hrl⟩ : ∃ rl, rl = rs.length := ⟨_, rfl⟩
          rw [← hrl] at hTl5 hWl hwv ⊢
          have HSm := hidn (sameTexts_same ta wa rl tc wc rs w5 hTl5 hWl)
          have HB5 := hidn b5
          subst hwv
          clear hTx5 hTl5 hWl hb5 b5 hrl hW4
          go_wp2_with fail
          refine HSm.out.mono ?_
          clear HSm
          rintro e w6 ⟨rfl, hw6⟩
          rw [hw6]
          clear hw6
          go_wp2_with fail
          refine (awake18_any _ (HT.out.below HB5.out)).mono ?_
          rintro e w7 ⟨rfl, hb7⟩
          have b7 := HB5.out.trans (hb7.mono HB5.out.size)
          go_wp2
          go_ret
          exact ⟨rfl, b7⟩
      | false =>
        have hff : f = ⟨#[119, 55, 46, 97]⟩ := HFE.out
        have HFF := hidn hff
        clear hff HFE hgo
        go_wp2_with fail
        refine HCp.out.mono ?_
        clear HCp
        rintro e w2 ⟨dc, rfl, ⟨Fc, hDc, hFc⟩, hb2⟩
        obtain ⟨h4, h5, h6, h7, h8⟩ := HR.out
        have b2 := h8.trans (hb2.mono h8.size)
        have h4' := h4.below hb2
        have h5' := h5.below hb2
        have h7' := h7.below hb2
        have HHf := hidn (halfB2 ⟨#[119, 55, 46, 97]⟩ w2 _ F _ M _ _ h4' at' HS.out.2.1 (by omega) f HFF.out HF.out.2.2.2 HF.out.2.1 ia il ic xs (fun wx hG => HXs.out.below (b2.trans (hG.1.below b2.size h6))))
        have HC2 := hidn (And.intro hDc hFc)
        have HB2 := hidn (And.intro h5' (And.intro h7' b2))
        have HSZ := hidn (And.intro h5.lt hb2.size)
        clear h4 h5 h7 h8 h4' h5' h7' hDc hFc hb2 b2
        go_wp2_with fail
        refine HHf.out.mono ?_
        clear HHf
        rintro e w3 ⟨rfl, l3, hl3, hD3, hG3⟩
        obtain ⟨hDc, hFc⟩ := HC2.out
        obtain ⟨h5', h7', b2⟩ := HB2.out
        have b3 := b2.trans (hG3.1.below b2.size h6)
        have hDc3 : DiskOf w3 dc Fc _ M _ _ := hDc.other (fun k hk => hG3.1.block k (hFc k hk).2 (fun hf => by have := HSZ.out.1 k hf; have := (hFc k hk).1; omega))
        have hle3 := upd_leE M f.data.toList l3 1000000 (fun t => by have := HS.out.2.1.ok.le t; omega) hl3
        have hlen3 := upd_lenE M f.data.toList l3 hl3
        have HTd := hidn (told_any w3 (w.heap.size + 1) dc F Fc (at' + at') _ (upd M f.data.toList l3) M _ _ _ _ hD3 hDc3 (by omega) hlen3 hle3)
        have h7'' := h7'.gr hG3
        have HD3 := hidn hD3
        have HR3 := hidn (And.intro (h5'.gr hG3) (And.intro h7'' b3))
        have HL3 := hidn hl3
        clear hDc hFc h5' h7' b2 hDc3 hD3 hG3 hlen3 hle3 h7'' b3 hl3
        go_wp2_with fail
        refine HTd.out.mono ?_
        clear HTd
        rintro e w4 ⟨bo, rfl, hto, hb4⟩
        obtain ⟨hS3, hW3, b3⟩ := HR3.out
        have b4 := b3.trans (hb4.mono b3.size)
        cases bo with
        | false =>
          go_wp2_with fail
          refine (awake18_any _ (HT.out.below b4)).mono ?_
          rintro e w5 ⟨rfl, hb5⟩
          have b5 := b4.trans (hb5.mono b4.size)
          go_wp2
          go_ret
          exact ⟨rfl, b5⟩
        | true =>
          have hTo := hto rfl
          have hget := half_get HS.out.2.1 f HF.out.1 l3 rfl HL3.out (hTo _)
          have hst : Stores (fun i => getP (upd M f.data.toList l3) (segN 7) (i : Int)) 0 rs := HS.out.2.2.congr at' hget (by have := HS.out.1.1; omega)
          have hrd := readP_stores _ _ _ hst
          rw [← HS.out.1.1] at hrd
          have HRd := hidn (read_wal w4 _ F _ _ _ _ (HD3.out.below hb4) (hS3.tab.below hb4) (by rw [upd_other _ _ _ _ HF.out.2.2.1]; exact HS.out.2.1.ok.nil) (segN 7) (by decide +kernel) at' (by omega) ((7 : Nat) : Int) (by omega) (by omega) (wname_below w4 7 (by omega)))
          rw [hrd] at HRd
          have hW4 := hidn (hW3.below hb4)
          have HB4 := hidn b4
          clear hTo hget hst hrd hto hS3 hW3 b3 b4 hb4
          go_wp2_with fail
          refine HRd.out.mono ?_
          clear HRd
          rintro e w5 ⟨hb5, v5, rfl, hTx5⟩
          obtain ⟨ta, tc, rfl, hTl5⟩ := hTx5.tls
          have b5 := HB4.out.trans (hb5.mono HB4.out.size)
          obtain ⟨wa, wc, hwv, hWl⟩ := (hW4.out.below hb5).tls b5
          obtain ⟨rl, hrl⟩ : ∃ rl, rl = rs.length := ⟨_, rfl⟩
          rw [← hrl] at hTl5 hWl hwv ⊢
          have HSm := hidn (sameTexts_same ta wa rl tc wc rs w5 hTl5 hWl)
          have HB5 := hidn b5
          subst hwv
          clear hTx5 hTl5 hWl hb5 b5 hrl hW4
          go_wp2_with fail
          refine HSm.out.mono ?_
          clear HSm
          rintro e w6 ⟨rfl, hw6⟩
          rw [hw6]
          clear hw6
          go_wp2_with fail
          refine (awake18_any _ (HT.out.below HB5.out)).mono ?_
          rintro e w7 ⟨rfl, hb7⟩
          have b7 := HB5.out.trans (hb7.mono HB5.out.size)
          go_wp2
          go_ret
          exact ⟨rfl, b7⟩
end Go.Proofs.YthhnpajaacfapaaDoor
