/- DiskWhole: the law's walk. -/
import Derived.Test.YtoonkkeefppflaaDiskDamD
import Derived.Test.YtoonkkeefppflaaDiskFK
import Derived.Test.YtoonkkeefppflaaDiskAny
import Derived.Test.YtoonkkeefppflaaDiskRem
import Derived.Test.YtoonkkeefppflaaDiskRot
import Derived.Test.YtoonkkeefppflaaStepsDef
import Derived.Test.YtoonkkeefppflaaDiskAwake
namespace Go.Proofs.Ytoonkkeefppflaa
open Go.RowKit Go.Maps
set_option linter.unusedVariables false
def Bls (w : World) (a : Option Addr) (len : Nat) (bs : List Bool) : Prop :=
  bs.length = len ∧ len ≤ maxLen ∧ (a = none → len = 0) ∧ ∀ x, a = some x → ∀ j b, bs[j]? = some b → w.cell? (x.add j) = some (.bool b)
theorem Bls.below {w w' : World} {a : Option Addr} {len : Nat} {bs : List Bool} (h : Bls w a len bs) (hb : Below w.heap.size w w') : Bls w' a len bs := by
  obtain ⟨h1, h2, h3, h4⟩ := h
  refine ⟨h1, h2, h3, fun x hx j b hj => ?_⟩
  have := h4 x hx j b hj
  exact (hb.cell (block_lt_of_cell this)).trans this
theorem Bls.at {w : World} {a : Option Addr} {len j : Nat} {bs : List Bool} {c : Bool} (h : Bls w a len bs) (hj : bs[j]? = some c) : ∃ b off, a = some ⟨b, off, none⟩ ∧ w.cell? ⟨b, off + j, none⟩ = some (.bool c) := by
  obtain ⟨h1, h2, h3, h4⟩ := h
  have hjl : j < bs.length := (List.getElem?_eq_some_iff.1 hj).1
  cases a with
  | none => have := h3 rfl; omega
  | some x =>
    obtain ⟨b, off, spot⟩ := x
    obtain ⟨c0, hc0⟩ : ∃ c0, bs[0]? = some c0 := ⟨_, List.getElem?_eq_getElem (by omega)⟩
    have hspot : spot = none := by simpa [Addr.add] using World.cell?_spot (h4 _ rfl 0 c0 hc0)
    subst hspot
    have := h4 _ rfl j c hj
    rw [add_none] at this
    exact ⟨b, off, rfl, this⟩
/-- All extents of some files are so many at most. -/
def Tot (M : List UInt8 → List Ext) (c : Nat) : Prop := ∀ ts : List (List UInt8), ts.Nodup → (ts.map fun s => (M s).length).sum ≤ c
theorem Tot.upd {M : List UInt8 → List Ext} {c : Nat} (h : Tot M c) (s : List UInt8) (l : List Ext) (hl : l.length ≤ (M s).length + 1) : Tot (upd M s l) (c + 1) := by
  have hz : ∀ ts : List (List UInt8), s ∉ ts → (ts.map fun t => (Go.Proofs.Ytoonkkeefppflaa.upd M s l t).length).sum = (ts.map fun t => (M t).length).sum := by
    intro ts
    induction ts with
    | nil => intro _; rfl
    | cons t r ih =>
      intro hs
      simp at hs
      rw [List.map_cons, List.sum_cons, List.map_cons, List.sum_cons, ih hs.2]
      skip
      rw [upd_other _ _ _ _ (fun e => hs.1 e.symm)]
  have hk : ∀ ts : List (List UInt8), ts.Nodup → (ts.map fun t => (Go.Proofs.Ytoonkkeefppflaa.upd M s l t).length).sum ≤ (ts.map fun t => (M t).length).sum + 1 := by
    intro ts
    induction ts with
    | nil => intro _; exact Nat.zero_le _
    | cons t r ih =>
      intro hnd
      rw [List.nodup_cons] at hnd
      rw [List.map_cons, List.sum_cons, List.map_cons, List.sum_cons]
      by_cases ht : t = s
      · subst ht
        rw [hz r hnd.1]
        skip
        rw [upd_same]
        omega
      · have := ih hnd.2
        skip
        rw [upd_other _ _ _ _ ht]
        omega
  intro ts hnd
  have h1 := hk ts hnd
  have h2 := h ts hnd
  skip
  omega
theorem sum_nil : ∀ ts : List (List UInt8), (ts.map fun _ => ([] : List Ext).length).sum = 0
  | [] => rfl
  | t :: r => by rw [List.map_cons, List.sum_cons, sum_nil r]; rfl
theorem tot_nil : Tot (fun _ => []) 0 := fun ts _ => Nat.le_of_eq (sum_nil ts)
theorem Tot.mono {M : List UInt8 → List Ext} {c c' : Nat} (h : Tot M c) (hc : c ≤ c') : Tot M c' := fun ts hn => Nat.le_trans (h ts hn) hc
/-- A disk no extent of which is damaged. -/
def WholeI (base d j : Nat) (w : World) : Prop :=
  ∃ (F : Nat → Prop) (N : Nat) (M : List UInt8 → List Ext) (free : Int), DiskOf w d F N M free (-1) ∧ (∀ k, F k → base ≤ k) ∧ (∀ k, F k → k < w.heap.size) ∧ N ≤ min j 40 ∧ 0 ≤ free ∧ free ≤ 20 + 41 * (min j 40 : Nat) ∧ (∀ s, (M s).length ≤ min j 40) ∧ Tot M (min j 40) ∧ ∀ s, ∀ x ∈ M s, x.dur = x.syn
theorem WholeI.below {base d j : Nat} {w w' : World} (h : WholeI base d j w) (hb : Below w.heap.size w w') : WholeI base d j w' := by
  obtain ⟨F, N, M, free, h1, h2, h3, h4⟩ := h
  exact ⟨F, N, M, free, h1.below hb, h2, fun k hk => Nat.lt_of_lt_of_le (h3 k hk) hb.size, h4⟩
theorem WholeI.skip {base d j : Nat} {w : World} (h : WholeI base d j w) : WholeI base d (j + 1) w := by
  obtain ⟨F, N, M, free, h1, h2, h3, h4, h5, h6, h7, h8, h9⟩ := h
  exact ⟨F, N, M, free, h1, h2, h3, by omega, h5, by omega, fun s => Nat.le_trans (h7 s) (by omega), h8.mono (by omega), h9⟩
theorem whole_next {base d j N N' : Nat} {F F' : Nat → Prop} {M M' : List UInt8 → List Ext} {free free' : Int} {w w' : World} (hj : j < 40) (hbase : base ≤ w.heap.size) (h2 : ∀ k, F k → base ≤ k) (h3 : ∀ k, F k → k < w.heap.size) (h4 : N ≤ min j 40) (h5 : 0 ≤ free) (h6 : free ≤ 20 + 41 * (min j 40 : Nat)) (h7 : ∀ s, (M s).length ≤ min j 40) (h8 : Tot M (min j 40)) (h9 : ∀ s, ∀ x ∈ M s, x.dur = x.syn)
    (hD : DiskOf w' d F' N' M' free' (-1)) (hG : Gr F F' w w') (hN : N' ≤ N + 1) (hf0 : 0 ≤ free') (hf1 : free' ≤ free + 41) (s : List UInt8) (l : List Ext) (hM : M' = M ∨ (M' = upd M s l ∧ l.length ≤ (M s).length + 1 ∧ ∀ x ∈ l, x.dur = x.syn)) : WholeI base d (j + 1) w' := by
  refine ⟨F', N', M', free', hD, hG.ge hbase h2, hG.lt h3, by omega, hf0, by omega, ?_, ?_, ?_⟩
  · intro t
    have := h7 t
    rcases hM with rfl | ⟨rfl, hl, _⟩
    · omega
    · by_cases ht : t = s
      · rw [ht, upd_same]
        have := h7 s
        omega
      · rw [upd_other _ _ _ _ ht]; omega
  · rcases hM with rfl | ⟨rfl, hl, _⟩
    · exact h8.mono (by omega)
    · exact (h8.upd s l hl).mono (by omega)
  · rcases hM with rfl | ⟨rfl, _, hw⟩
    · exact h9
    · intro t x hx
      by_cases ht : t = s
      · rw [ht, upd_same] at hx; exact hw x hx
      · rw [upd_other _ _ _ _ ht] at hx; exact h9 t x hx
def kpv (ks : List Kp) : List Value := ks.flatMap fun k => [.string k.nm, .int .i64 k.i, .int .i64 k.n]
theorem kpv_snoc (ks : List Kp) (k : Kp) : kpv (ks ++ [k]) = kpv ks ++ [.string k.nm, .int .i64 k.i, .int .i64 k.n] := by simp [kpv]
theorem kpv_get : ∀ (ks : List Kp) (j : Nat) (k : Kp), ks[j]? = some k → (kpv ks)[j * 3]? = some (.string k.nm) ∧ (kpv ks)[j * 3 + 1]? = some (.int .i64 k.i) ∧ (kpv ks)[j * 3 + 2]? = some (.int .i64 k.n)
  | [], j, k, h => by simp at h
  | x :: r, 0, k, h => by
    simp at h
    subst h
    exact ⟨rfl, rfl, rfl⟩
  | x :: r, j + 1, k, h => by
    have ih := kpv_get r j k (by simpa using h)
    have e : kpv (x :: r) = [.string x.nm, .int .i64 x.i, .int .i64 x.n] ++ kpv r := rfl
    rw [e, List.getElem?_append_right (by simp; omega), List.getElem?_append_right (by simp; omega), List.getElem?_append_right (by simp; omega)]
    simp only [List.length_cons, List.length_nil]
    rw [show (j + 1) * 3 - (0 + 1 + 1 + 1) = j * 3 by omega, show (j + 1) * 3 + 1 - (0 + 1 + 1 + 1) = j * 3 + 1 by omega, show (j + 1) * 3 + 2 - (0 + 1 + 1 + 1) = j * 3 + 2 by omega]
    exact ih
/-- What a crash shall keep, as far as it is listed: whole extents. -/
def KO (base : Nat) (v : Value) (c : Nat) (w : World) : Prop :=
  ∃ ks : List Kp, ks.length ≤ c ∧ (∀ k ∈ ks, k.nm.size ≤ maxLen ∧ (Lit.int .i64 k.i).wf = true ∧ k.n = 128) ∧ w.ownsRow base 40 3 v ks.length (kpv ks)
theorem KO.mono {base c c' : Nat} {v : Value} {w : World} (h : KO base v c w) (hc : c ≤ c') : KO base v c' w := by
  obtain ⟨ks, h1, h2⟩ := h
  exact ⟨ks, by omega, h2⟩
theorem KO.kps {base c : Nat} {v : Value} {w : World} (h : KO base v c w) (hc : c ≤ 1000) : ∃ a len cap ks, v = .slice a len cap ∧ Kps w a len ks ∧ ∀ k ∈ ks, k.n = 128 := by
  obtain ⟨ks, h1, h2, hrow⟩ := h
  have hrow' := hrow
  rcases hrow.2 with ⟨hv, h0⟩ | ⟨g, cap, cur, hv, _⟩
  · refine ⟨none, 0, 0, ks, hv, ⟨h0, by decide, fun _ => rfl, fun k hk => ?_, fun x hx => by cases hx⟩, fun k hk => (h2 k hk).2.2⟩
    have := List.length_eq_zero_iff.1 h0
    rw [this] at hk
    cases hk
  · refine ⟨some ⟨g, 0, none⟩, ks.length, cap, ks, hv, ⟨rfl, by omega, (fun h => by cases h), fun k hk => ⟨(h2 k hk).1, (h2 k hk).2.1, by rw [(h2 k hk).2.2]; decide⟩, fun x hx j k hk => ?_⟩, fun k hk => (h2 k hk).2.2⟩
    cases hx
    rw [hv] at hrow'
    obtain ⟨e1, e2, e3⟩ := kpv_get ks j k hk
    exact ⟨hrow'.cells (g := g) rfl _ _ e1, hrow'.cells (g := g) rfl _ _ e2, hrow'.cells (g := g) rfl _ _ e3⟩
theorem spots_none {M : List UInt8 → List Ext} (h : ∀ s, ∀ x ∈ M s, x.bad = false) (ts : List (List UInt8)) : spotsOf M ts = [] := by
  unfold spotsOf
  rw [List.flatMap_eq_nil_iff]
  intro s _
  unfold spotsIn badAt
  rw [List.map_eq_nil_iff, List.filter_eq_nil_iff]
  intro i _ hb
  cases hx : (M s)[i]? with
  | none => rw [hx] at hb; simp at hb
  | some x =>
    rw [hx] at hb
    simp only [Option.map_some, Option.getD_some] at hb
    rw [h s x (List.mem_of_getElem? hx)] at hb
    cases hb
theorem kf_two {ks : List Kp} (h : ∀ k ∈ ks, k.n = 128) (s : List UInt8) (i : Int) : kfOf ks s i = 0 ∨ kfOf ks s i = 128 := by
  unfold kfOf kget
  cases hf : ks.find? fun k => decide (k.nm.data.toList = s ∧ k.i = i) with
  | none => exact .inl rfl
  | some k => exact .inr (h k (List.mem_of_find?_eq_some hf))
theorem fell_whole {x : Ext} (hx : x.dur = x.syn) (hok : x.ok) (k : Int) (hk : k = 0 ∨ k = 128) : (x.fell k).bad = false := by
  unfold Ext.fell
  cases hw : x.waits with
  | false =>
    simp only [Bool.false_eq_true, if_false]
    unfold Ext.bad
    rw [decide_eq_true hx]
    rfl
  | true =>
    simp only [if_true]
    rcases hk with rfl | rfl
    · have e : clampK 0 = 0 := by decide
      rw [e]
      unfold Ext.bad Ext.crashed
      simp only [List.take_zero, List.nil_append, List.drop_zero]
      rw [decide_eq_true hx]
      rfl
    · have e : clampK 128 = 128 := by decide
      rw [e]
      have e2 : (x.crashed 128).dur = x.wri := by
        show x.wri.take 128 ++ x.dur.drop 128 = x.wri
        rw [List.take_of_length_le (by rw [hok.2.2.1]; omega), List.drop_of_length_le (by rw [hok.1.1]; omega), List.append_nil]
      unfold Ext.bad
      rw [e2, show (x.crashed 128).wri = x.wri from rfl, decide_eq_true (show x.wri = x.wri from rfl)]
      simp
theorem fellL_bad {M : List UInt8 → List Ext} {ks : List Kp} (h : ∀ k ∈ ks, k.n = 128) (h9 : ∀ s, ∀ x ∈ M s, x.dur = x.syn) (hok : ∀ s, ∀ x ∈ M s, x.ok) : ∀ s, ∀ x ∈ fellL (kfOf ks s) (M s), x.bad = false := by
  intro s y hy
  unfold fellL at hy
  rw [List.mem_mapIdx] at hy
  obtain ⟨i, hi, rfl⟩ := hy
  exact fell_whole (h9 s _ (List.getElem_mem hi)) (hok s _ (List.getElem_mem hi)) _ (kf_two h s i)
theorem DiskOf.oks {w : World} {d N : Nat} {F : Nat → Prop} {M : List UInt8 → List Ext} {free fuse : Int} (h : DiskOf w d F N M free fuse) : ∀ s, ∀ x ∈ M s, x.ok := by
  obtain ⟨bm, D, G, C, h1, h2, h3, h4, h5, h6, h7⟩ := h
  intro s x hx
  exact (h6 s (fun e => by rw [e] at hx; cases hx)).2.2 x hx
theorem knInfo : ∃ i0 z, Try.prog.info? 40 = some i0 ∧ i0.zero = some z ∧ i0.size = 3 ∧ i0.bytes = 32 ∧ z.cells.size = 3 := by
  have h : (Try.prog.info? 40).map (fun i => (i.zero, i.size, i.bytes)) = some (some (.agg #[.string ⟨#[]⟩, .int .i64 0, .int .i64 0]), 3, 32) := by kernel_rfl
  cases hi : Try.prog.info? 40 with
  | none => rw [hi] at h; cases h
  | some i0 =>
    rw [hi] at h
    simp only [Option.map_some, Option.some.injEq, Prod.mk.injEq] at h
    exact ⟨i0, _, rfl, h.1, h.2.1, h.2.2, rfl⟩
theorem ds_Full {o : Oper} {a : Act} {w : World} {ts : Array TypeId} {x0 : Nat} {v0 : Value} (ho : o.op = Op.call { callee := Callee.value (Operand.func 10), args := #[.tmp x0], argTypes := ts }) (hx0 : a.eval (.tmp x0) = v0) : (execOp a.eval o).run Try.prog w = .ok (.enter 10 #[v0]) w := by
  simp [go_sem, execOp, ho, resolve, invoke]
  simpa [Act.eval] using hx0
theorem ds_Write {o : Oper} {a : Act} {w : World} {ts : Array TypeId} {x0 x1 x2 x3 : Nat} {v0 v1 v2 v3 : Value} (ho : o.op = Op.call { callee := Callee.value (Operand.func 9), args := #[.tmp x0, .tmp x1, .tmp x2, .tmp x3], argTypes := ts }) (hx0 : a.eval (.tmp x0) = v0) (hx1 : a.eval (.tmp x1) = v1) (hx2 : a.eval (.tmp x2) = v2) (hx3 : a.eval (.tmp x3) = v3) : (execOp a.eval o).run Try.prog w = .ok (.enter 9 #[v0, v1, v2, v3]) w := by
  simp [go_sem, execOp, ho, resolve, invoke]
  exact ⟨by simpa [Act.eval] using hx0, by simpa [Act.eval] using hx1, by simpa [Act.eval] using hx2, by simpa [Act.eval] using hx3⟩
set_option maxHeartbeats 4000000 in
set_option maxRecDepth 100000 in
theorem diskWhole_walk (la : Option Addr) (ll lc : Nat) (sts : List Stp) (ka : Option Addr) (kl kc : Nat) (bs : List Bool) (w : World) (hM : Sts w la ll sts) (hK : Bls w ka kl bs) :
    Calls Try.prog 3 #[.slice la ll lc, .slice ka kl kc] w fun e w' => e = .returned (.bool true) ∧ Below w.heap.size w w' := by
  have hpn := fun (wx : World) (p : Option Addr) => run_eql_pointer_nil (P := Try.prog) wx 24 p (by kernel_rfl)
  have HMs := hidn hM
  have hml := hM.2.1
  unfold maxLen at hml
  have HLn := hidn hM.1
  have HK := hidn hK
  have hkl := hK.2.1
  unfold maxLen at hkl
  clear hM hK
  go_enter Try.func3, Try.ntmps3
  go_wp2_with fail
  refine (new_any _ 20 (by omega)).mono ?_
  rintro e w1 ⟨rfl, hD1, hb1, hs1⟩
  have HI1 : Hid (WholeI w.heap.size (w.heap.size + 1) 0 w1) := hidn ⟨_, 0, _, _, hD1, fun k hk => hk.1, fun k hk => by have := hk.2; omega, by omega, by omega, by omega, fun s => by simp, tot_nil, fun s x hx => by cases hx⟩
  have HB1 := hidn hb1
  clear hD1 hb1 hs1
  go_wp2_with fail
  /-MARK-/
  go_loopw [27] (fun iv wr => ∃ j : Nat, j ≤ ll ∧ iv = .int .i64 (j : Int) ∧ Hid (WholeI w.heap.size (w.heap.size + 1) j wr) ∧ Below w.heap.size w wr) (fun iv _ => ll - (intOf iv).toNat)
  case atStart => exact ⟨0, Nat.zero_le _, rfl, HI1, HB1.out⟩
  case round =>
    obtain ⟨j, hj, rfl, hI, hb⟩ := hrel
    by_cases hlt : j < ll
    · have hlt2 : (j : Int) < (ll : Int) := by omega
      obtain ⟨s, hs⟩ : ∃ s, sts[j]? = some s := ⟨_, List.getElem?_eq_getElem (by rw [HLn.out]; exact hlt)⟩
      obtain ⟨mb, mo, rfl, c0, c1, c2, c3, c4, c5, c6, c7⟩ := (HMs.out.below hb).at hs
      obtain ⟨hsn, hsB⟩ := HMs.out.2.2.2.1 s (List.mem_of_getElem? hs)
      have HSB := hidn (hsB.below hb)
      clear hs hsB
      obtain ⟨op, si, at2, n3, nm, sa, sl, sc, zs, mk, ka2, kl2, kc2⟩ := s
      simp only at c0 c1 c2 c3 c4 c5 c6 c7 hsn HSB
      have hbS : Below wr.heap.size wr (wr.alloc (.cells #[.int .i64 op, .int .i64 si, .int .i64 at2, .int .i64 n3, .string nm, .slice sa sl sc, .int .u8 mk, .slice ka2 kl2 kc2] 31)) := (Below.refl _ _).alloc (Nat.le_refl _) _
      have HIS := hidn (hI.out.below hbS)
      have HBS := hidn (hb.trans (hbS.mono hb.size))
      have HSS := hidn (HSB.out.below hbS)
      have HRS := hidn (heap_alloc_new wr (.cells #[.int .i64 op, .int .i64 si, .int .i64 at2, .int .i64 n3, .string nm, .slice sa sl sc, .int .u8 mk, .slice ka2 kl2 kc2] 31))
      have HbS0 := hidn hbS
      have HI0 := hI
      have HB0 := hidn hb
      clear hI hb HSB hbS
      obtain ⟨q, hq⟩ : ∃ q, wrap64 ((IntKind.u64.wrap op).tmod 7) = q := ⟨_, rfl⟩
      by_cases h40 : j < 40
      · have h40i : (j : Int) < 40 := by omega
        by_cases h4 : q < 4
        · by_cases q2 : q = 2
          · subst q2
            go_wp2_with fail
            obtain ⟨F, N, M, free, k1, k2, k3, k4, k5, k6, k7, k8, k9⟩ := HIS.out
            by_cases hne : M nm.data.toList = []
            · refine (sync_none _ _ F N M free (-1) k1 nm hsn hne).mono ?_
              rintro e w5 ⟨rfl, rfl⟩
              have HIz := hidn HIS.out.skip
              clear k1 k2 k3 k4 k5 k6 k7 k8 k9 hne
              go_wp2_with fail
              exact ⟨⟨j + 1, by omega, by go_num, HIz, HBS.out⟩, by simp [intOf]; omega⟩
            · refine (sync_disk _ _ F N M free (-1) k1 nm hsn hne (by omega) (by omega) (by omega)).mono ?_
              rintro e w5 ⟨rfl, hD5, hG5⟩
              rw [show burnt (-1) = -1 by decide] at hD5
              have HIz := hidn (whole_next h40 HBS.out.size k2 k3 k4 k5 k6 k7 k8 k9 hD5 hG5 (by omega) k5 (by omega) nm.data.toList _ (.inr ⟨rfl, by rw [List.length_map]; omega, fun x hx => by
                obtain ⟨y, hy, rfl⟩ := List.mem_map.1 hx
                unfold Ext.synced
                split
                · rfl
                · exact k9 _ y hy⟩))
              have HBz := hidn (HBS.out.trans (hG5.1.below HBS.out.size k2))
              clear k1 k2 k3 k4 k5 k6 k7 k8 k9 hne hD5 hG5
              go_wp2_with fail
              exact ⟨⟨j + 1, by omega, by go_num, HIz, HBz.out⟩, by simp [intOf]; omega⟩
          · have q2b : (q == 2) = false := beq_eq_false_iff_ne.2 q2
            by_cases q3 : q = 3
            · subst q3
              clear q2
              go_wp2_with fail
              obtain ⟨F, N, M, free, k1, k2, k3, k4, k5, k6, k7, k8, k9⟩ := HIS.out
              by_cases hne : M nm.data.toList = []
              · refine (remove_none _ _ F N M free (-1) k1 nm hsn hne).mono ?_
                rintro e w5 ⟨rfl, rfl⟩
                have HIz := hidn HIS.out.skip
                clear k1 k2 k3 k4 k5 k6 k7 k8 k9 hne
                go_wp2_with fail
                exact ⟨⟨j + 1, by omega, by go_num, HIz, HBS.out⟩, by simp [intOf]; omega⟩
              · have h7 := k7 nm.data.toList
                refine (remove_disk _ _ F N M free k1 nm hsn _ (hidn rfl) hne k5 (by omega) (by omega)).mono ?_
                rintro e w5 ⟨rfl, hD5, hG5⟩
                have HIz := hidn (whole_next h40 HBS.out.size k2 k3 k4 k5 k6 k7 k8 k9 hD5 hG5 (by omega) (by omega) (by omega) nm.data.toList [] (.inr ⟨rfl, by simp, fun x hx => by cases hx⟩))
                have HBz := hidn (HBS.out.trans (hG5.1.below HBS.out.size k2))
                clear k1 k2 k3 k4 k5 k6 k7 k8 k9 hne hD5 hG5 h7
                go_wp2_with fail
                exact ⟨⟨j + 1, by omega, by go_num, HIz, HBz.out⟩, by simp [intOf]; omega⟩
            · have q3b : (q == 3) = false := beq_eq_false_iff_ne.2 q3
              clear q2 q3
              go_wp2_with fail
              clear hq q2b q3b c0 c1 c2 c3 c4 c5 c6 c7 h4
              generalize hwS : wr.alloc (.cells #[.int .i64 op, .int .i64 si, .int .i64 at2, .int .i64 n3, .string nm, .slice sa sl sc, .int .u8 mk, .slice ka2 kl2 kc2] 31) = wS at *
              have HRd : Hid (wS.drew.heap[wr.heap.size]? = some (.cells #[.int .i64 op, .int .i64 si, .int .i64 at2, .int .i64 n3, .string nm, .slice sa sl sc, .int .u8 mk, .slice ka2 kl2 kc2] 31 (0, 0))) := HRS
              have HBd := hidn HBS.out.drew
              have HSd := hidn (HSS.out.below (Below.refl _ _).drew)
              have HD0 : Hid (Below wr.heap.size wr wS.drew) := hidn HbS0.out.drew
              clear HIS HBS HSS HRS hwS HbS0
              refine wp_region_noPanic ?_
              refine wp_region_held_drew (S := fun w' => w'.heap[wr.heap.size]? = some (.cells #[.int .i64 op, .int .i64 si, .int .i64 at2, .int .i64 n3, .string nm, .slice sa sl sc, .int .u8 mk, .slice ka2 kl2 kc2] 31 (0, 0))) (by kernel_rfl) HRd.out (fun hHeld => ?_)
              generalize wS.drew = wd at *
              refine drawn_take (i := 0) (v := .pointer (some ⟨w.heap.size + 1, 0, none⟩)) (some 44) rfl rfl (by kernel_rfl) (by kernel_rfl) (by kernel_rfl) (fun _ _ _ h => h) (Or.inl ⟨by kernel_rfl, fun wq hw => by go_simp⟩) hHeld ?_
              simp only [Act.put, List.setIfInBounds_toArray, List.set_cons_succ, List.set_cons_zero]
              refine drawn_take (i := 1) (v := .pointer (some ⟨wr.heap.size, 4, none⟩)) (some 45) rfl rfl (by kernel_rfl) (by kernel_rfl) (by kernel_rfl) (fun _ _ _ h => h) (Or.inl ⟨by kernel_rfl, fun wq hw => by go_simp⟩) hHeld ?_
              simp only [Act.put, List.setIfInBounds_toArray, List.set_cons_succ, List.set_cons_zero]
              refine drawn_take (i := 2) (v := .string nm) (some 46) rfl rfl (by kernel_rfl) (by kernel_rfl) (by kernel_rfl) (fun _ _ _ h => h) (Or.inl ⟨by kernel_rfl, fun wq hw => by have q : wq.cell? ⟨wr.heap.size, 4, none⟩ = some (.string nm) := cell_of_row _ _ _ _ _ _ hw; go_simp⟩) hHeld ?_
              simp only [Act.put, List.setIfInBounds_toArray, List.set_cons_succ, List.set_cons_zero]
              refine drawn_take (i := 3) (v := .pointer (some ⟨wr.heap.size, 1, none⟩)) (some 47) rfl rfl (by kernel_rfl) (by kernel_rfl) (by kernel_rfl) (fun _ _ _ h => h) (Or.inl ⟨by kernel_rfl, fun wq hw => by go_simp⟩) hHeld ?_
              simp only [Act.put, List.setIfInBounds_toArray, List.set_cons_succ, List.set_cons_zero]
              refine drawn_take (i := 4) (v := .int .i64 si) (some 48) rfl rfl (by kernel_rfl) (by kernel_rfl) (by kernel_rfl) (fun _ _ _ h => h) (Or.inl ⟨by kernel_rfl, fun wq hw => by have q : wq.cell? ⟨wr.heap.size, 1, none⟩ = some (.int .i64 si) := cell_of_row _ _ _ _ _ _ hw; go_simp⟩) hHeld ?_
              simp only [Act.put, List.setIfInBounds_toArray, List.set_cons_succ, List.set_cons_zero]
              refine drawn_take (i := 5) (v := .agg #[.int .i64 op, .int .i64 si, .int .i64 at2, .int .i64 n3, .string nm, .slice sa sl sc, .int .u8 mk, .slice ka2 kl2 kc2]) (some 49) rfl rfl (by kernel_rfl) (by kernel_rfl) (by kernel_rfl) (fun _ _ _ h => h) (Or.inl ⟨by kernel_rfl, fun wq hw => by have q0 : wq.cell? ⟨wr.heap.size, 0, none⟩ = some (.int .i64 op) := cell_of_row _ _ _ _ _ _ hw; have q1 : wq.cell? ⟨wr.heap.size, 1, none⟩ = some (.int .i64 si) := cell_of_row _ _ _ _ _ _ hw; have q2 : wq.cell? ⟨wr.heap.size, 2, none⟩ = some (.int .i64 at2) := cell_of_row _ _ _ _ _ _ hw; have q3 : wq.cell? ⟨wr.heap.size, 3, none⟩ = some (.int .i64 n3) := cell_of_row _ _ _ _ _ _ hw; have q4 : wq.cell? ⟨wr.heap.size, 4, none⟩ = some (.string nm) := cell_of_row _ _ _ _ _ _ hw; have q5 : wq.cell? ⟨wr.heap.size, 5, none⟩ = some (.slice sa sl sc) := cell_of_row _ _ _ _ _ _ hw; have q6 : wq.cell? ⟨wr.heap.size, 6, none⟩ = some (.int .u8 mk) := cell_of_row _ _ _ _ _ _ hw; have q7 : wq.cell? ⟨wr.heap.size, 7, none⟩ = some (.slice ka2 kl2 kc2) := cell_of_row _ _ _ _ _ _ hw; go_simp⟩) hHeld ?_
              simp only [Act.put, List.setIfInBounds_toArray, List.set_cons_succ, List.set_cons_zero]
              refine wpAnyH_ready (rs := [6]) (by kernel_rfl) (by simp) ?_
              refine rdy_call (i := 6) rfl rfl (some 50) rfl 10 #[.agg #[.int .i64 op, .int .i64 si, .int .i64 at2, .int .i64 n3, .string nm, .slice sa sl sc, .int .u8 mk, .slice ka2 kl2 kc2]] (ds_Full (ts := #[31]) (x0 := 49) (by kernel_rfl) (by kernel_rfl)) (fun r w' => ∃ b, r = .slice (some ⟨b, 0, none⟩) 128 128 ∧ wd.heap.size ≤ b ∧ b < w'.heap.size ∧ Bs w' (some ⟨b, 0, none⟩) 128 (padTo zs) ∧ Below wd.heap.size wd w') ((full_pad wd _ _ _ _ _ _ _ sa sl sc zs HSd.out).mono fun e w' h => by obtain ⟨b, rfl, h⟩ := h; exact ⟨_, rfl, b, rfl, h⟩) (fun r wf hR => ?_) rdy_nil
              obtain ⟨fb, rfl, hfb, hfl, hBf, bf⟩ := hR
              refine ⟨(bf.block _ (Array.getElem?_eq_some_iff.1 hHeld).1).trans hHeld, fun hHeld => ?_⟩
              simp only [Act.put, List.setIfInBounds_toArray, List.set_cons_succ, List.set_cons_zero]
              obtain ⟨F, N, M, free, k1, k2, k3, k4, k5, k6, k7, k8, k9⟩ := HI0.out
              have hd0 : wr.heap.size ≤ wd.heap.size := HD0.out.size
              have bfw := HD0.out.trans (bf.mono hd0)
              have hBfF : BsF F wf (some ⟨fb, 0, none⟩) 128 (padTo zs) := ⟨hBf, fun x hx _ hF => by
                cases hx
                have h : fb < wr.heap.size := k3 _ hF
                omega⟩
              have HBf := hidn (HBd.out.trans (bf.mono HBd.out.size))
              have h7 := k7 nm.data.toList
              refine wpAnyH_ready (rs := [7]) (by kernel_rfl) (by simp) ?_
              refine rdy_call (i := 7) rfl rfl (some 51) rfl 9 #[.pointer (some ⟨w.heap.size + 1, 0, none⟩), .string nm, .int .i64 si, .slice (some ⟨fb, 0, none⟩) 128 128] (ds_Write (ts := #[24, 9, 3, 28]) (x0 := 44) (x1 := 46) (x2 := 48) (x3 := 50) (by kernel_rfl) (by kernel_rfl) (by kernel_rfl) (by kernel_rfl) (by kernel_rfl)) (fun r w' => WrAny wf (w.heap.size + 1) F N M free nm.data.toList (padTo zs) w') ((write_any wf (w.heap.size + 1) F N M free (k1.below bfw) nm hsn si fb 128 (padTo zs) hBfF (by omega) (by omega) k5 (by omega)).mono fun e w' h => by obtain ⟨r, rfl, h⟩ := h; exact ⟨_, rfl, h⟩) (fun r wz hR => ?_) rdy_nil
              obtain ⟨F', N', M', free', q1, q2, q3, q4, q5, q6⟩ := hR
              have hkeep : wz.heap[wr.heap.size]? = some (.cells #[.int .i64 op, .int .i64 si, .int .i64 at2, .int .i64 n3, .string nm, .slice sa sl sc, .int .u8 mk, .slice ka2 kl2 kc2] 31 (0, 0)) := (q2.1.block _ (Array.getElem?_eq_some_iff.1 hHeld).1 (fun hF => by have h : wr.heap.size < wr.heap.size := k3 _ hF; omega)).trans hHeld
              have HBz := hidn (HBf.out.trans (q2.1.below HBf.out.size k2))
              have k3' : ∀ k, F k → k < wf.heap.size := fun k hk => by have := k3 k hk; have := bfw.size; omega
              have HIz : Hid (WholeI w.heap.size (w.heap.size + 1) (j + 1) wz) := hidn (by
                rcases q6 with rfl | ⟨i, x, hx, rfl⟩ | rfl
                · exact whole_next h40 HBf.out.size k2 k3' k4 k5 k6 k7 k8 k9 q1 q2 q3 q4 (by omega) [] [] (.inl rfl)
                · refine whole_next h40 HBf.out.size k2 k3' k4 k5 k6 k7 k8 k9 q1 q2 q3 q4 (by omega) nm.data.toList _ (.inr ⟨rfl, by rw [List.length_set]; omega, fun y hy => ?_⟩)
                  rcases List.mem_or_eq_of_mem_set hy with hy | rfl
                  · exact k9 _ y hy
                  · exact k9 _ x (List.mem_of_getElem? hx)
                · refine whole_next h40 HBf.out.size k2 k3' k4 k5 k6 k7 k8 k9 q1 q2 q3 q4 (by omega) nm.data.toList _ (.inr ⟨rfl, by rw [List.length_append]; simp, fun y hy => ?_⟩)
                  rcases List.mem_append.1 hy with hy | hy
                  · exact k9 _ y hy
                  · rw [List.mem_singleton.1 hy]; rfl)
              refine ⟨hkeep, fun hHeld => ?_⟩
              simp only [Act.put, List.setIfInBounds_toArray, List.set_cons_succ, List.set_cons_zero]
              refine wpAnyH_done (by kernel_rfl) ?_ _
              refine NoPanic.normal ?_
              clear hHeld hkeep q1 q2 q3 q4 q5 q6 k1 k2 k3 k4 k5 k6 k7 k8 k9 hBfF hBf bf bfw hd0 h7 k3'
              go_wp2_with fail
              exact ⟨⟨j + 1, by omega, by go_num, HIz, HBz.out⟩, by simp [intOf]; omega⟩
        · have HIz := hidn HIS.out.skip
          go_wp2_with fail
          exact ⟨⟨j + 1, by omega, by go_num, HIz, HBS.out⟩, by simp [intOf]; omega⟩
      · have h40i : ¬ (j : Int) < 40 := by omega
        have HIz := hidn HIS.out.skip
        go_wp2_with fail
        exact ⟨⟨j + 1, by omega, by go_num, HIz, HBS.out⟩, by simp [intOf]; omega⟩
    · have hlt2 : ¬ (j : Int) < (ll : Int) := by omega
      obtain ⟨F, N, M, free, k1, k2, k3, k4, k5, k6, k7, k8, k9⟩ := hI.out
      have HB := hidn hb
      clear hI hb HI1 HB1 HMs
      go_wp2_with fail
      refine (list_disk _ _ F N M free (-1) k1 (by omega)).mono ?_
      rintro e w5 ⟨v, ts, rfl, hnm, hrow, b5⟩
      obtain ⟨sa, sc, hsv⟩ : ∃ sa sc, v = .slice sa ts.length sc := by
        rcases hrow.2 with ⟨h1, h2⟩ | ⟨g, cap, cur, h1, _⟩
        · exact ⟨none, 0, by rw [h1, h2]⟩
        · exact ⟨_, _, h1⟩
      subst hsv
      obtain ⟨L, hL⟩ : ∃ L, L = ts.length := ⟨_, rfl⟩
      have hLm : L ≤ maxLen := by
        rcases hrow.2 with ⟨h1, h2⟩ | ⟨g, cap, cur, h1, _, _, h3, h4, _⟩
        · omega
        · omega
      have HROW := hidn hrow
      rw [← hL]
      rw [← hL] at HROW
      have HL := hidn hL
      unfold maxLen at hLm
      have HTs := hidn (k8 ts hnm.1)
      have HD5 := hidn (k1.below b5)
      have HB5 := hidn (HB.out.trans (b5.mono HB.out.size))
      clear hrow hL
      obtain ⟨i0, z, hi, hz, hzs, hby, hzc⟩ := knInfo
      have HDX := hidn (fun (wx : World) (hx : Below w5.heap.size w5 wx) => HD5.out.below hx)
      have HBX := hidn (fun (wx : World) (hx : Below w5.heap.size w5 wx) => HB5.out.trans (hx.mono HB5.out.size))
      have HK2 := hidn k2
      have HK3 := hidn (fun k (hk : F k) => Nat.lt_of_lt_of_le (k3 k hk) b5.size)
      have HK9 := hidn k9
      have HK8 := hidn k8
      have HN4 := hidn k4
      clear k1 k2 k3 k4 k5 k6 k7 k8 k9 HD5 b5 HB
      go_wp2_with fail
      clear hlt hlt2 hj HLn hml
      go_loopw [10, 11, 68] (fun sv nv kv wr => ∃ (j c : Nat) (v : Value), j ≤ L ∧ sv = v ∧ nv = .int .i64 (c : Int) ∧ kv = .int .i64 (j : Int) ∧ Hid (c = ((ts.take j).map fun s => (M s).length).sum) ∧ Hid (KO w5.heap.size v c wr) ∧ Below w5.heap.size w5 wr) (fun _ _ kv _ => L - (intOf kv).toNat)
      case atStart => exact ⟨0, 0, _, Nat.zero_le _, rfl, rfl, rfl, hidn rfl, hidn ⟨[], Nat.le_refl _, (fun k hk => by cases hk), World.ownsRow_nil _ _ _ _⟩, Below.refl _ _⟩
      case round =>
        obtain ⟨j, c, v, hj, rfl, rfl, rfl, hc, hKO, hb⟩ := hrel
        by_cases hlt : j < L
        · have hlt2 : (j : Int) < (L : Int) := by omega
          obtain ⟨g, rfl⟩ : ∃ g, sa = some ⟨g, 0, none⟩ := by
            rcases HROW.out.2 with ⟨h1, h2⟩ | ⟨g, cap, cur, h1, _⟩
            · omega
            · cases h1; exact ⟨g, rfl⟩
          obtain ⟨s, hs⟩ : ∃ s, ts[j]? = some s := ⟨_, List.getElem?_eq_getElem (by rw [← HL.out]; exact hlt)⟩
          have hsm := hnm.2.2.2 s (List.mem_of_getElem? hs)
          obtain ⟨sb, rfl⟩ : ∃ sb : ByteArray, s = sb.data.toList := ⟨⟨s.toArray⟩, rfl⟩
          have hsz : sb.size ≤ maxLen := by rw [Array.length_toList] at hsm; exact hsm
          have cN : wr.cell? ⟨g, j, none⟩ = some (.string sb) := by
            have := (own_below HROW.out hb).cells (g := g) rfl j (.string sb) (by rw [List.getElem?_map, hs]; simp [encStr])
            simpa [add_none] using this
          obtain ⟨n, hn⟩ : ∃ n, n = (M sb.data.toList).length := ⟨_, rfl⟩
          have HN := hidn hn
          have hsum : Hid (((ts.take (j + 1)).map fun s => (M s).length).sum = c + n) := hidn (by
            rw [List.take_add_one, hs, hc.out, hn]
            simp)
          have hc40 : c + n ≤ 40 := by
            have h1 := hsum.out
            have h2 : (ts.map fun s => (M s).length).sum = ((ts.take (j + 1)).map fun s => (M s).length).sum + ((ts.drop (j + 1)).map fun s => (M s).length).sum := by
              rw [← List.sum_append, ← List.map_append, List.take_append_drop]
            have h3 := HTs.out
            omega
          clear hn hs hsm
          go_wp2_with fail
          refine (extents_disk _ _ F N M free (-1) (HDX.out _ hb) sb hsz n HN).mono ?_
          rintro e wq ⟨rfl, rfl⟩
          go_wp2_with fail
          generalize u10 = sv0 at *
          clear cN
          go_loopw [10, 11, 75] (fun sv nv kv wr => ∃ (i c' : Nat) (v : Value), i ≤ n ∧ sv = v ∧ nv = .int .i64 (c' : Int) ∧ kv = .int .i64 (i : Int) ∧ c' = c + i ∧ Hid (KO w5.heap.size v c' wr) ∧ Below w5.heap.size w5 wr) (fun _ _ kv _ => n - (intOf kv).toNat)
          case atStart => exact ⟨0, c, _, Nat.zero_le _, rfl, rfl, rfl, rfl, hKO, hb⟩
          case round =>
            obtain ⟨i, c', v, hil, rfl, rfl, rfl, hci, hKO2, hb2⟩ := hrel
            by_cases hin : i < n
            · have hin2 : (i : Int) < (n : Int) := by omega
              have HCI := hidn hci
              have hc41 : c' ≤ 40 := by omega
              clear hci
              have HBw := hidn (HBX.out wr hb2)
              by_cases hck : c' < kl
              · have hck2 : (c' : Int) < (kl : Int) := by omega
                obtain ⟨kb, hkb⟩ : ∃ kb, bs[c']? = some kb := ⟨_, List.getElem?_eq_getElem (by rw [HK.out.1]; exact hck)⟩
                obtain ⟨bb, bo, rfl, cb⟩ := (HK.out.below HBw.out).at hkb
                clear hkb
                cases kb with
                | false =>
                  have HKz := hidn (hKO2.out.mono (Nat.le_succ c'))
                  go_wp2_with fail
                  exact ⟨⟨i + 1, c' + 1, _, by omega, rfl, by go_num, by go_num, by rw [HCI.out]; omega, HKz, hb2⟩, by simp [intOf]; omega⟩
                | true =>
                  obtain ⟨ks, hk1, hk2, hown⟩ := hKO2.out
                  obtain ⟨sx, sy, hsv⟩ : ∃ sx sy, u10 = .slice sx ks.length sy := by
                    rcases hown.2 with ⟨h1, h2⟩ | ⟨g, cap, cur, h1, _⟩
                    · exact ⟨none, 0, by rw [h1, h2]⟩
                    · exact ⟨_, _, h1⟩
                  subst hsv
                  have own4 := own_below hown ((Below.refl _ wr).alloc (Nat.le_refl _) (.cells #[.string sb, .int .i64 (i : Int), .int .i64 128] 40))
                  have hs5 : w5.heap.size ≤ wr.heap.size := hb2.size
                  have HWI : Hid ((Lit.int .i64 (i : Int)).wf = true) := hidn (wf_nat (by omega))
                  have HK22 := hidn hk2
                  obtain ⟨kn, hkn⟩ : ∃ kn, kn = ks.length := ⟨_, rfl⟩
                  rw [← hkn]
                  rw [← hkn] at own4 hk1
                  have HKN := hidn hkn
                  clear hown hKO2 hk2 hkn
                  go_wp2_with (at_builtin; refine wpList_append_own _ rfl _ _ 29 rfl w5.heap.size 40 i0 z 3 32 Try.underlying29 hi hz hzs hby hzc (by decide) _ kn (kpv ks) rfl own4 ⟨wr.heap.size, 0, none⟩ 1 1 [.string sb, .int .i64 (i : Int), .int .i64 128] rfl rfl ?c1 ?c2 ?c3 ?c4 ?c5 ?_)
                  case c1 =>
                    intro i u hi
                    match i, hi with
                    | 0, hi => simp at hi; subst hi; simp [Addr.add]
                    | 1, hi => simp at hi; subst hi; simp [Addr.add]
                    | 2, hi => simp at hi; subst hi; simp [Addr.add]
                  case c2 =>
                    intro u hu
                    simp at hu
                    rcases hu with rfl | rfl | rfl <;> rfl
                  case c3 => unfold maxLen; omega
                  case c4 => omega
                  case c5 => simp; omega
                  intro v' w7 own5 hgrow3 _
                  have HKz : Hid (KO w5.heap.size v' (c' + 1) w7) := hidn ⟨ks ++ [⟨sb, (i : Int), 128⟩], by rw [List.length_append]; simp; have := HKN.out; omega, fun k hk => by
                    rcases List.mem_append.1 hk with h | h
                    · exact HK22.out k h
                    · rw [List.mem_singleton.1 h]; exact ⟨hsz, HWI.out, rfl⟩, by
                    rw [kpv_snoc, List.length_append]
                    rw [HKN.out] at own5
                    exact own5⟩
                  have B7 : Below w5.heap.size w5 w7 := (hb2.alloc hs5 _).grown hgrow3 (by simp; omega) (fun k hk => (own4.lt k hk).1)
                  clear own4 own5 hgrow3 HK22 HKN
                  go_wp2_with fail
                  exact ⟨⟨i + 1, c' + 1, _, by omega, rfl, by go_num, by go_num, by rw [HCI.out]; omega, HKz, B7⟩, by simp [intOf]; omega⟩
              · have hck2 : ¬ (c' : Int) < (kl : Int) := by omega
                have HKz := hidn (hKO2.out.mono (Nat.le_succ c'))
                go_wp2_with fail
                exact ⟨⟨i + 1, c' + 1, _, by omega, rfl, by go_num, by go_num, by rw [HCI.out]; omega, HKz, hb2⟩, by simp [intOf]; omega⟩
            · have hin2 : ¬ (i : Int) < (n : Int) := by omega
              obtain rfl : i = n := by omega
              have HCC : Hid (c' = ((ts.take (j + 1)).map fun s => (M s).length).sum) := hidn (by rw [hsum.out]; exact hci)
              clear hci
              go_wp2_with fail
              exact ⟨⟨j + 1, c', _, by omega, rfl, rfl, by go_num, HCC, hKO2, hb2⟩, by simp [intOf]; omega⟩
        · have hlt2 : ¬ (j : Int) < (L : Int) := by omega
          have hc40 : c ≤ 1000 := by
            have h1 := hc.out
            have h2 : (ts.map fun s => (M s).length).sum = ((ts.take j).map fun s => (M s).length).sum + ((ts.drop j).map fun s => (M s).length).sum := by
              rw [← List.sum_append, ← List.map_append, List.take_append_drop]
            have h3 := HTs.out
            omega
          obtain ⟨ka', kn', kc', kks, rfl, hKps, hK128⟩ := hKO.out.kps hc40
          have HKps := hidn hKps
          have HK128 := hidn hK128
          have HBw := hidn (HBX.out wr hb)
          have HDw := hidn (HDX.out wr hb)
          have HK3w := hidn (fun k (hk : F k) => Nat.lt_of_lt_of_le (HK3.out k hk) hb.size)
          clear hKps hK128 hKO
          have HBAD : Hid (∀ s, ∀ x ∈ M s, x.bad = false) := hidn (fun s x hx => by
            unfold Ext.bad
            rw [decide_eq_true (HK9.out s x hx)]
            rfl)
          go_wp2_with fail
          refine (damaged_disk _ _ F N M free (-1) HDw.out (by have := HN4.out; omega) (fun ts h => Nat.le_trans (HK8.out ts h) (by omega))).mono ?_
          rintro e wa ⟨va, rfl, ⟨tsa, hna, hra⟩, ba⟩
          rw [spots_none HBAD.out] at hra
          obtain ⟨aa, ac, rfl⟩ : ∃ aa ac, va = .slice aa 0 ac := by
            rcases hra.2 with ⟨h1, h2⟩ | ⟨g, cap, cur, h1, _⟩
            · exact ⟨none, 0, h1⟩
            · exact ⟨_, cap, h1⟩
          have HDa := hidn (HDw.out.below ba)
          have HBa := hidn (HBw.out.trans (ba.mono HBw.out.size))
          have HK3a := hidn (fun k (hk : F k) => Nat.lt_of_lt_of_le (HK3w.out k hk) ba.size)
          have HKpa := hidn (HKps.out.below ba)
          clear hra hna ba
          go_wp2_with fail
          refine (crash_disk _ _ F N M free (-1) HDa.out HK3a.out ka' kn' kc' (kfOf kks) (firstKept_any _ ka' kn' kc' kks HKpa.out)).mono ?_
          rintro e wc ⟨rfl, hDc, hGc⟩
          have HDc := hidn hDc
          have HBc := hidn (HBa.out.trans (hGc.1.below HBa.out.size HK2.out))
          have HBADc : Hid (∀ s, ∀ x ∈ (fun s => fellL (kfOf kks s) (M s)) s, x.bad = false) := hidn (fellL_bad HK128.out HK9.out HDa.out.oks)
          have HTc : Hid (∀ ts : List (List UInt8), ts.Nodup → (ts.map fun s => ((fun s => fellL (kfOf kks s) (M s)) s).length).sum ≤ 1000000) := hidn (fun ts h => by
            have h1 : (ts.map fun s => ((fun s => fellL (kfOf kks s) (M s)) s).length) = ts.map fun s => (M s).length := List.map_congr_left (fun s _ => fellL_length _ _)
            rw [h1]
            exact Nat.le_trans (HK8.out ts h) (by omega))
          clear hDc hGc
          go_wp2_with fail
          refine (damaged_disk _ _ F N _ free (-1) HDc.out (by have := HN4.out; omega) HTc.out).mono ?_
          rintro e wb ⟨vb', rfl, ⟨tsa, hna, hra⟩, bb⟩
          rw [spots_none HBADc.out] at hra
          obtain ⟨aa2, ac2, rfl⟩ : ∃ aa ac, vb' = .slice aa 0 ac := by
            rcases hra.2 with ⟨h1, h2⟩ | ⟨g, cap, cur, h1, _⟩
            · exact ⟨none, 0, h1⟩
            · exact ⟨_, cap, h1⟩
          have HBb := hidn (HBc.out.trans (bb.mono HBc.out.size))
          clear hra hna bb
          go_wp2_with fail
          refine (awake3_any _).mono ?_
          rintro e wz ⟨rfl, bz⟩
          have HBz := hidn (HBb.out.trans (bz.mono HBb.out.size))
          clear bz
          go_wp2_with fail
          exact bodyPost_ret (v := .bool true) (by simp [results, Try.results3, go_sem]) rfl ⟨rfl, HBz.out⟩
end Go.Proofs.Ytoonkkeefppflaa
