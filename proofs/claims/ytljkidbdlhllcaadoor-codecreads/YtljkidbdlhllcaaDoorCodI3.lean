/- dryrotref11.Decode: it ends; what it takes is samples whose bytes are the given ones. -/
import Derived.Test.YtljkidbdlhllcaaDoorCodI2
namespace Go.Proofs.YtljkidbdlhllcaaDoor
open Go.RowKit Go.Joins
set_option linter.unusedVariables false
set_option linter.unusedSimpArgs false

theorem rd_iint {o : Oper} {a : Act} {w : World} {ts : Array TypeId} {x0 : Nat} {v0 : Value} (ho : o.op = Op.call { callee := Callee.value (Operand.func 36), args := #[.tmp x0], argTypes := ts }) (hx0 : a.eval (.tmp x0) = v0) : (execOp a.eval o).run Tryd.prog w = .ok (.enter 36 #[v0]) w := by
  simp [go_sem, execOp, ho, resolve, invoke]
  simpa [Act.eval] using hx0
theorem rd_ixor {o : Oper} {a : Act} {w : World} {ts : Array TypeId} {x0 : Nat} {v0 : Value} (ho : o.op = Op.call { callee := Callee.value (Operand.func 37), args := #[.tmp x0], argTypes := ts }) (hx0 : a.eval (.tmp x0) = v0) : (execOp a.eval o).run Tryd.prog w = .ok (.enter 37 #[v0]) w := by
  simp [go_sem, execOp, ho, resolve, invoke]
  simpa [Act.eval] using hx0
/-- What stands while a sample is read: the reader r, the sample's block sp, the samples before. -/
def DJ (W3 w' : World) (r sp : Nat) (S : Option Addr × Nat) (ys : List Nat) (lv : Value) (l : List Sam) (q : Nat) (b : Bool) (t v : Int) : Prop :=
  II w' r S ys q b ∧ w'.heap[sp]? = some (.cells #[.int .i64 t, .int .u64 v] 26 (0, 0)) ∧ w'.ownsRow (r + 1) 26 2 lv l.length (vsm l) ∧ Kr r W3 w' ∧ W3.heap.size = r + 1 ∧ r + 1 ≤ sp ∧ lv.ownBlock ≠ some sp ∧ (∀ x, S.1 = some x → x.block < r)
theorem DJ.kr {W3 w' w'' : World} {r sp : Nat} {S : Option Addr × Nat} {ys : List Nat} {lv : Value} {l : List Sam} {q q' : Nat} {b b' : Bool} {t v : Int} (h : DJ W3 w' r sp S ys lv l q b t v) (hi : II w'' r S ys q' b') (hk : Kr r w' w'') : DJ W3 w'' r sp S ys lv l q' b' t v := by
  obtain ⟨h1, h2, h3, h4, h5, h6, h7, h8⟩ := h
  exact ⟨hi, (hk.2.2.2.2 sp (Array.getElem?_eq_some_iff.1 h2).1 (by omega)).trans h2, own_kr h3 (by omega) hk, h4.trans hk, h5, h6, h7, h8⟩
theorem DJ.drew {W3 w' : World} {r sp : Nat} {S : Option Addr × Nat} {ys : List Nat} {lv : Value} {l : List Sam} {q : Nat} {b : Bool} {t v : Int} (h : DJ W3 w' r sp S ys lv l q b t v) : DJ W3 w'.drew r sp S ys lv l q b t v :=
  h.kr (h.1.below (Below.refl _ w').drew) (Kr.of_below (Below.refl _ w').drew)
theorem DJ.set {W3 w' : World} {r sp : Nat} {S : Option Addr × Nat} {ys : List Nat} {lv : Value} {l : List Sam} {q : Nat} {b : Bool} {t v : Int} (h : DJ W3 w' r sp S ys lv l q b t v) :
    (∀ t', DJ W3 (w'.setCell ⟨sp, 0, none⟩ (.int .i64 t')) r sp S ys lv l q b t' v) ∧ ∀ v', DJ W3 (w'.setCell ⟨sp, 1, none⟩ (.int .u64 v')) r sp S ys lv l q b t v' := by
  obtain ⟨⟨i1, i2, i3, i4, i5⟩, h2, h3, h4, h5, h6, h7, h8⟩ := h
  have hne : r ≠ sp := by omega
  have hS : ∀ x, S.1 = some x → x.block ≠ sp := fun x hx => by have := h8 x hx; omega
  have hb : ∀ o u, Below W3.heap.size w' (w'.setCell ⟨sp, o, none⟩ u) := fun o u => (Below.refl _ w').setCell (p := ⟨sp, o, none⟩) (by show W3.heap.size ≤ sp; omega) u
  exact ⟨fun t' => ⟨⟨(Below.heap_setCell _ _ _ _ hne).trans i1, bs_setCell i2 hS _, i3, i4, i5⟩, block_setCell h2 _, own_setCell h3 h7 _, h4.thenBelow (hb _ _), h5, h6, h7, h8⟩,
    fun v' => ⟨⟨(Below.heap_setCell _ _ _ _ hne).trans i1, bs_setCell i2 hS _, i3, i4, i5⟩, block_setCell h2 _, own_setCell h3 h7 _, h4.thenBelow (hb _ _), h5, h6, h7, h8⟩⟩
theorem DJ.at {W3 w' : World} {r sp g cap : Nat} {S : Option Addr × Nat} {ys : List Nat} {n : Nat} {l : List Sam} {q : Nat} {b : Bool} {t v : Int} (h : DJ W3 w' r sp S ys (.slice (some ⟨g, 0, none⟩) n cap) l q b t v) {j : Nat} (hj : j < l.length) :
    w'.cell? ⟨g, j * 2, none⟩ = some (.int .i64 (samD l j).t) ∧ w'.cell? ⟨g, j * 2 + 1, none⟩ = some (.int .u64 ((samD l j).v : Int)) := by
  have hown := h.2.2.1
  obtain ⟨a', c', hv⟩ := own_slice hown
  injection hv with _ hn _
  subst hn
  obtain ⟨g1, g2⟩ := vsm_get l j hj
  have c1 := hown.cellAt (j * 2) (by omega)
  have c2 := hown.cellAt (j * 2 + 1) (by omega)
  rw [g1] at c1
  rw [g2] at c2
  exact ⟨c1, c2⟩
theorem ii_belowB {S : Option Addr × Nat} {w w' : World} {r B : Nat} {zs : List Nat} {q : Nat} {bad : Bool} (h : II w r S zs q bad) (hr : r < B) (hS : ∀ x, S.1 = some x → x.block < B) (hb : Below B w w') : II w' r S zs q bad := by
  obtain ⟨h1, ⟨b1, b2, b3, b4, b5⟩, h3⟩ := h
  refine ⟨(hb.block r hr).trans h1, ⟨b1, b2, b3, b4, fun x hx j hj => ?_⟩, h3⟩
  have hx' : (x.add j).block < B := by rw [show (x.add j).block = x.block from by unfold Addr.add; split <;> rfl]; exact hS x hx
  exact (hb.cell hx').trans (b5 x hx j hj)
/-- What the document's Decode answers. -/
def RDPost (w w' : World) (zs : List Nat) (e : Ending) : Prop :=
  (e = .returned (.tuple #[.slice none 0 0, .int .i64 5]) ∨ ∃ (l : List Sam) (v : Value), e = .returned (.tuple #[v, .int .i64 0]) ∧ canS l = true ∧ SamsOK l ∧ IsPack zs (encS l) ∧ w'.ownsRow w.heap.size 26 2 v l.length (vsm l)) ∧ Below w.heap.size w w'
theorem samsOK_app {l : List Sam} {s : Sam} (h : SamsOK l) (hs : SamOK s) : SamsOK (l ++ [s]) := by
  intro i
  by_cases h1 : i < l.length
  · rw [samD_app_lt h1]; exact h i
  · by_cases h2 : i = l.length
    · rw [h2, samD_app_at]; exact hs
    · have : samD (l ++ [s]) i = ⟨0, 0⟩ := by
        unfold samD
        rw [List.getD_eq_getElem?_getD, List.getElem?_eq_none (by simp; omega)]
        rfl
      rw [this]; exact samOK_zero

set_option maxHeartbeats 4000000 in
set_option maxRecDepth 100000 in
theorem rdec_weak (a : Option Addr) (len cap : Nat) (zs : List Nat) (w : World) (h : Bs w a len zs) (hl : len ≤ 1000000000) (hcap : len ≤ cap) (hcm : cap ≤ maxLen) :
    Calls Tryd.prog 19 #[.slice a len cap] w fun e w' => RDPost w w' zs e := by
  unfold maxLen at hcm
  by_cases h2 : len < 2
  · have hlt : (len : Int) < 2 := by omega
    go_enter Tryd.func19, Tryd.ntmps19
    go_wp2_with fail
    go_ret2
    exact ⟨.inl rfl, Below.refl _ _⟩
  · have hlt : ¬ (len : Int) < 2 := by omega
    obtain ⟨i0, hi, hz0, hz1, hz2⟩ := info_parts Tryd.infoSam
    obtain ⟨b, off, rfl, hbw, hc⟩ := h.pos (by omega)
    have hz := h.2.2.1
    have hzl := h.1
    have h2c : (2 : Int) ≤ (cap : Int) := by omega
    have h2l : (2 : Int) ≤ (len : Int) := by omega
    obtain ⟨n, hn⟩ : ∃ n, n = getB 0 (zs.take 2) := ⟨_, rfl⟩
    have hnb : n ≤ 65535 := by
      rw [hn]
      have := getB_lt (zs.take 2) (fun x hx => hz x (List.mem_of_mem_take hx))
      rw [List.length_take, hzl, show min 2 len = 2 from by omega] at this
      omega
    have HZL := hidn hzl
    have HN := hidn hn
    clear hzl hn
    obtain ⟨ra, hra⟩ : ∃ ra, (if cap = 2 then some (⟨b, off, none⟩ : Addr) else some ⟨b, off + 2, none⟩) = ra := ⟨_, rfl⟩
    have hrb : ∀ x, ra = some x → x.block = b := by
      intro x hx
      rw [← hra] at hx
      split at hx <;> (cases hx; rfl)
    have hBr : Bs w ra (len - 2) (zs.drop 2) := by
      obtain ⟨h1, h3, h4, h5, h6⟩ := h
      refine ⟨by rw [List.length_drop, h1], by omega, fun x hx => h4 x (List.mem_of_mem_drop hx), ?_, fun x hx j hj => ?_⟩
      · intro hn; rw [← hra] at hn; split at hn <;> cases hn
      · rw [← hra, if_neg (by omega)] at hx
        cases hx
        rw [add_none, show off + 2 + j = off + (2 + j) from by omega, hc (2 + j) (by omega)]
        simp [List.getD_eq_getElem?_getD, List.getElem?_drop]
    go_enter Tryd.func19, Tryd.ntmps19
    go_wp2_with fail
    refine (refGet_some b off 2 cap (zs.take 2) _ (fun x hx => hz x (List.mem_of_mem_take hx)) (by rw [List.length_take, HZL.out]; omega) (by omega) (by omega) (fun j hj => ?_)).mono ?_
    · rw [hc j (by omega)]
      simp [List.getD_eq_getElem?_getD, hj]
    rintro e w1 ⟨rfl, rfl⟩
    rw [← HN.out]
    have hnw : IntKind.i64.wrap (n : Int) = (n : Int) := i64_nat _ (by omega)
    obtain ⟨m, hm⟩ : ∃ m, m = len - 2 := ⟨_, rfl⟩
    obtain ⟨cm, hcm2⟩ : ∃ cm, cm = cap - 2 := ⟨_, rfl⟩
    rw [← hm] at hBr
    have HM := hidn hm
    have HCM := hidn hcm2
    have HRA := hidn hra
    have hml : m ≤ 1000000000 := by omega
    have hlen2 : (zs.drop 2).length = m := by rw [List.length_drop, HZL.out, HM.out]
    obtain ⟨ys, hys⟩ : ∃ ys, ys = zs.drop 2 := ⟨_, rfl⟩
    rw [← hys] at hBr hlen2
    have HYS := hidn hys
    have HL2 := hidn hlen2
    obtain ⟨r, hr⟩ : ∃ r, r = w1.heap.size := ⟨_, rfl⟩
    have hII : II (w1.alloc (.cells #[.slice ra m cm, .int .i64 0, .bool false] 64)) r (ra, cm) ys 0 false := by
      refine ⟨?_, ?_, Nat.zero_le _, by rw [hlen2]; exact hml, fun x hx => by rw [hrb x hx]; omega⟩
      · rw [hr, hlen2]
        exact heap_alloc_new w1 _
      · rw [hlen2]
        exact hBr.below ((Below.refl _ _).alloc (Nat.le_refl _) _)
    have B3 : Below w1.heap.size w1 (w1.alloc (.cells #[.slice ra m cm, .int .i64 0, .bool false] 64)) := (Below.refl _ _).alloc (Nat.le_refl _) _
    have hsz3 : (w1.alloc (.cells #[.slice ra m cm, .int .i64 0, .bool false] 64)).heap.size = r + 1 := by rw [hr]; simp
    have hSb : ∀ x, ra = some x → x.block < r := fun x hx => by rw [hrb x hx]; omega
    have HR := hidn hr
    have HBW := hidn (h.below B3)
    clear hm hcm2 hc hr hlen2 hys hBr
    go_wp2_with fail
    clear hra
    rw [← HM.out, ← HCM.out, ← HR.out]
    generalize hW3 : w1.alloc (.cells #[.slice ra m cm, .int .i64 0, .bool false] 64) = W3 at *
    clear hW3
    go_loopw [7, 27] (fun lv iv wr => ∃ (l : List Sam) (q : Nat) (b : Bool), l.length ≤ n ∧ iv = .int .i64 (l.length : Int) ∧ wr.ownsRow (r + 1) 26 2 lv l.length (vsm l) ∧ SamsOK l ∧ II wr r (ra, cm) ys q b ∧ Kr r W3 wr) (fun _ iv _ => n - (intOf iv).toNat)
    case atStart => exact ⟨[], 0, false, Nat.zero_le _, rfl, World.ownsRow_nil _ _ _ _, fun i => samOK_zero, hII, Kr.refl _ _⟩
    case round =>
      obtain ⟨l, q, bd, hk, rfl, hown, hso, hii, hkr⟩ := hrel
      obtain ⟨la, lc, rfl⟩ := own_slice hown
      obtain ⟨k, hke⟩ : ∃ k, k = l.length := ⟨_, rfl⟩
      rw [← hke] at hown hk ⊢
      have HK := hidn hke
      have hsz := hkr.2.2.2.1
      rw [hsz3] at hsz
      by_cases hlt2 : k < n
      · have hkn : (k : Int) < (n : Int) := by omega
        obtain ⟨sp, hsp⟩ : ∃ sp, sp = wr.heap.size := ⟨_, rfl⟩
        have hD : DJ W3 (wr.alloc (.cells #[.int .i64 0, .int .u64 0] 26)) r sp (ra, cm) ys (.slice la k lc) l q bd 0 0 := by
          refine ⟨hii.below ((Below.refl _ _).alloc (Nat.le_refl _) _), by rw [hsp]; exact heap_alloc_new wr _, by rw [← hke]; exact hown.alloc _, hkr.trans (Kr.of_below ((Below.refl _ _).alloc (Nat.le_refl _) _)), hsz3, by omega, fun h => ?_, hSb⟩
          have := (hown.lt _ h).2
          omega
        have HSP := hidn hsp
        clear hsp hown hii hkr hke
        by_cases hk0 : k = 0
        · have hkz : ((k : Int) == 0) = true := by simp; omega
          clear hk0
          go_wp2_with fail
          rw [← HSP.out]
          generalize hW4 : wr.alloc (.cells #[.int .i64 0, .int .u64 0] 26) = W4 at *
          refine (itake_any r ys q 64 bd _ hD.1 (by omega)).mono ?_
          rintro e w2 ⟨x2, q2, b2, rfl, hx2, i2, k2, _⟩
          obtain ⟨n2, hn1, hn2, hn3, hn4⟩ := i64_of_u64 x2 hx2
          have hD2 := hD.kr i2 k2
          have hD3 := hD2.set.1 n2
          have c2 : w2.cell? ⟨sp, 0, none⟩ = some (.int .i64 0) := cell_of_row _ _ _ _ _ _ hD2.2.1
          have f2 : w2.frozen? ⟨sp, 0, none⟩ = false := unfrozen_of_block hD2.2.1 _
          clear hD hD2 i2 k2 hx2 hW4
          go_wp2_with fail
          generalize w2.setCell ⟨sp, 0, none⟩ (.int .i64 n2) = W5 at *
          refine (itake_any r ys q2 64 b2 _ hD3.1 (by omega)).mono ?_
          rintro e w6 ⟨x6, q6, b6, rfl, hx6, i6, k6, _⟩
          have hx6' : x6 < 18446744073709551616 := hx6
          have hD6 := hD3.kr i6 k6
          have hD7 := hD6.set.2 (x6 : Int)
          have c6 : w6.cell? ⟨sp, 1, none⟩ = some (.int .u64 0) := cell_of_row _ _ _ _ _ _ hD6.2.1
          have f6 : w6.frozen? ⟨sp, 1, none⟩ = false := unfrozen_of_block hD6.2.1 _
          clear hD3 hD6 i6 k6 hx6
          generalize hW7 : w6.setCell ⟨sp, 1, none⟩ (.int .u64 (x6 : Int)) = W7 at *
          have hown8 := hD7.2.2.1
          have hii8 := hD7.1
          have hkr8 := hD7.2.2.2.1
          rw [← HK.out] at hown8
          have x0 : W7.cell? ⟨sp, 0, none⟩ = some (.int .i64 n2) := cell_of_row _ _ _ _ _ _ hD7.2.1
          have x1 : W7.cell? ⟨sp, 1, none⟩ = some (.int .u64 (x6 : Int)) := cell_of_row _ _ _ _ _ _ hD7.2.1
          have xb : W7.cell? ⟨r, 2, none⟩ = some (.bool b6) := cell_of_row _ _ _ _ _ _ hii8.1
          have hs8 := hkr8.2.2.2.1
          have HS8 := hidn hs8
          rw [hsz3] at hs8
          have HOK8 : Hid (SamsOK (l ++ [(⟨n2, x6⟩ : Sam)])) := hidn (samsOK_app hso ⟨(And.intro hn3 hn4).1, (And.intro hn3 hn4).2, hx6'⟩)
          have HBW8 : Hid (Below w1.heap.size w1 W7) := hidn (B3.trans (hkr8.below (by rw [← HR.out, hsz3]; omega) (by rw [← HR.out]; exact Nat.le_refl _)))
          cases b6 with
          | true =>
            go_wp2_with fail
            exact bodyPost_ret (v := .tuple #[.slice none 0 0, .int .i64 5]) (by simp [results, Tryd.results19, go_sem]) rfl ⟨.inl rfl, HBW8.out⟩
          | false =>
            clear hD7
            go_wp2_with (at_builtin; refine wpList_append_own _ rfl _ _ 22 rfl (r + 1) 26 i0 (.agg #[.int .i64 0, .int .u64 0]) 2 16 Tryd.underlying22 hi hz0 hz1 hz2 rfl (by decide) _ _ _ rfl (hown8.alloc _) ⟨W7.heap.size, 0, none⟩ 1 1 [.int .i64 n2, .int .u64 (x6 : Int)] rfl rfl ?c1 ?c2 ?c3 ?c4 ?c5 ?_)
            case c1 =>
              intro j u hj
              match j, hj with
              | 0, hj => simp at hj; subst hj; simp [Addr.add]
              | 1, hj => simp at hj; subst hj; simp [Addr.add]
            case c2 => intro u hu; simp at hu; rcases hu with rfl | rfl <;> rfl
            case c3 => unfold maxLen; omega
            case c4 => omega
            case c5 => simp; omega
            intro v9 W9 hown9 hgrow9 _
            have hb9 : Below (r + 1) W7 W9 := ((Below.refl (r + 1) W7).alloc hs8 _).grown hgrow9 (by simp; omega) (fun k hk => (hown8.lt k hk).1)
            have HF : Hid (W9.ownsRow (r + 1) 26 2 v9 (l ++ [(⟨n2, x6⟩ : Sam)]).length (vsm (l ++ [(⟨n2, x6⟩ : Sam)])) ∧ II W9 r (ra, cm) ys q6 false ∧ Kr r W3 W9) := hidn ⟨by
                rw [List.length_append, List.length_singleton, ← HK.out, vsm_app]
                exact hown9, ii_belowB hii8 (by omega) (fun x hx => by have := hSb x hx; omega) hb9, hkr8.thenBelow (by rw [hsz3]; exact hb9)⟩
            clear hown8 hown9 hgrow9 hii8 hkr8 hb9
            go_wp2_with fail
            go_roundw
            case rel => exact ⟨l ++ [(⟨n2, x6⟩ : Sam)], q6, false, by rw [List.length_append, List.length_singleton, ← HK.out]; omega, by rw [List.length_append, List.length_singleton, ← HK.out]; go_num, HF.out.1, HOK8.out, HF.out.2.1, HF.out.2.2⟩
            case measure => simp [intOf]; omega
        · have hkz : ((k : Int) == 0) = false := by simp; omega
          obtain ⟨j, hj⟩ : ∃ j, k = j + 1 := ⟨k - 1, by omega⟩
          have hji : (k : Int) - 1 = (j : Int) := by omega
          have hjl : j < l.length := by rw [← HK.out]; omega
          have hjk : (j : Int) < (k : Int) := by omega
          obtain ⟨g, rfl⟩ : ∃ g, la = some ⟨g, 0, none⟩ := by
            rcases hD.2.2.1.2 with ⟨h1, h2⟩ | ⟨g, c', cur, h1, _⟩
            · rw [← HK.out] at h2; omega
            · injection h1 with h1 _ _; exact ⟨g, h1⟩
          obtain ⟨tj, htj⟩ : ∃ tj, tj = (samD l j).t := ⟨_, rfl⟩
          obtain ⟨vj, hvj⟩ : ∃ vj, vj = (samD l j).v := ⟨_, rfl⟩
          have hvjl : vj < 18446744073709551616 := by rw [hvj]; exact (hso j).2.2
          have HAT : Hid (∀ w' q b t v, DJ W3 w' r sp (ra, cm) ys (.slice (some ⟨g, 0, none⟩) k lc) l q b t v → w'.cell? ⟨g, j * 2, none⟩ = some (.int .i64 tj) ∧ w'.cell? ⟨g, j * 2 + 1, none⟩ = some (.int .u64 (vj : Int))) := hidn (fun w' q b t v hd => by rw [htj, hvj]; exact hd.at hjl)
          clear hk0 htj hvj
          by_cases hk1 : k = 1
          · have hkz1 : ((k : Int) == 1) = true := by simp; omega
            have hk0i : (0 : Int) < (k : Int) := by omega
            have hj0 : j = 0 := by omega
            subst hj0
            have HK1 := hidn hk1
            clear hk1 hj hji
            go_wp2_with fail
            rw [← HSP.out]
            have hDe := hD.drew
            generalize hW4 : (wr.alloc (.cells #[.int .i64 0, .int .u64 0] 26)).drew = We at *
            clear hD
            refine wp_region_noPanic ?_
            refine wp_region_held_drew (S := fun w' => w'.cell? ⟨g, 0, none⟩ = some (.int .i64 tj)) (by kernel_rfl) (by rw [hW4]; exact (HAT.out _ _ _ _ _ hDe).1) (fun hHeld => ?_)
            rw [hW4] at hHeld ⊢
            refine drawn_take (i := 0) (v := .slice (some ⟨g, 0, none⟩) k lc) (some 77) rfl rfl (by kernel_rfl) (by kernel_rfl) (by kernel_rfl) (fun _ _ _ h => h) (Or.inl ⟨by kernel_rfl, fun wq hw => by go_simp⟩) hHeld ?_
            simp only [Act.put, List.setIfInBounds_toArray, List.set_cons_succ, List.set_cons_zero]
            refine drawn_take (i := 1) (v := .pointer (some ⟨g, 0, none⟩)) (some 78) rfl rfl (by kernel_rfl) (by kernel_rfl) (by kernel_rfl) (fun _ _ _ h => h) (Or.inl ⟨by kernel_rfl, fun wq hw => by go_simp; intro h9; omega⟩) hHeld ?_
            simp only [Act.put, List.setIfInBounds_toArray, List.set_cons_succ, List.set_cons_zero]
            refine drawn_take (i := 2) (v := .pointer (some ⟨g, 0, none⟩)) (some 79) rfl rfl (by kernel_rfl) (by kernel_rfl) (by kernel_rfl) (fun _ _ _ h => h) (Or.inl ⟨by kernel_rfl, fun wq hw => by go_simp⟩) hHeld ?_
            simp only [Act.put, List.setIfInBounds_toArray, List.set_cons_succ, List.set_cons_zero]
            refine drawn_take (i := 3) (v := .int .i64 tj) (some 80) rfl rfl (by kernel_rfl) (by kernel_rfl) (by kernel_rfl) (fun _ _ _ h => h) (Or.inl ⟨by kernel_rfl, fun wq hw => by have q9 := hw; go_simp⟩) hHeld ?_
            simp only [Act.put, List.setIfInBounds_toArray, List.set_cons_succ, List.set_cons_zero]
            refine drawn_take (i := 4) (v := .pointer (some ⟨r, 0, none⟩)) (some 81) rfl rfl (by kernel_rfl) (by kernel_rfl) (by kernel_rfl) (fun _ _ _ h => h) (Or.inl ⟨by kernel_rfl, fun wq hw => by go_simp⟩) hHeld ?_
            simp only [Act.put, List.setIfInBounds_toArray, List.set_cons_succ, List.set_cons_zero]
            refine wpAnyH_ready (rs := [5]) (by kernel_rfl) (by simp) ?_
            refine rdy_call (i := 5) rfl rfl (some 82) rfl 36 #[.pointer (some ⟨r, 0, none⟩)] (rd_iint (x0 := 81) (ts := #[62]) (by kernel_rfl) (by kernel_rfl)) (fun v w' => ∃ (d : Int) (q' : Nat) (b' : Bool), v = .int .i64 d ∧ II w' r (ra, cm) ys q' b' ∧ Kr r We w') ((iint_any r ys q bd _ hDe.1).mono fun e w' h => by obtain ⟨d, q', b', h1, _, h2⟩ := h; exact ⟨_, h1, d, q', b', rfl, h2⟩) (fun r w9 hR => ?_) rdy_nil
            obtain ⟨d, q2, b2, rfl, i2, k2⟩ := hR
            have hD2 := hDe.kr i2 k2
            refine ⟨(HAT.out _ _ _ _ _ hD2).1, fun hHeld => ?_⟩
            simp only [Act.put, List.setIfInBounds_toArray, List.set_cons_succ, List.set_cons_zero]
            have tnr := wrap64_rng (tj + d)
            refine drawn_take (i := 6) (v := .int .i64 (wrap64 (tj + d))) (some 83) rfl rfl (by kernel_rfl) (by kernel_rfl) (by kernel_rfl) (fun _ _ _ h => h) (Or.inl ⟨by kernel_rfl, fun wq hw => by go_simp; exact i64_w64 _⟩) hHeld ?_
            simp only [Act.put, List.setIfInBounds_toArray, List.set_cons_succ, List.set_cons_zero]
            generalize wrap64 (tj + d) = tn at *
            refine drawn_take (i := 7) (v := .pointer (some ⟨sp, 0, none⟩)) (some 84) rfl rfl (by kernel_rfl) (by kernel_rfl) (by kernel_rfl) (fun _ _ _ h => h) (Or.inl ⟨by kernel_rfl, fun wq hw => by go_simp⟩) hHeld ?_
            simp only [Act.put, List.setIfInBounds_toArray, List.set_cons_succ, List.set_cons_zero]
            have c2 : w9.cell? ⟨sp, 0, none⟩ = some (.int .i64 0) := cell_of_row _ _ _ _ _ _ hD2.2.1
            have f2 : w9.frozen? ⟨sp, 0, none⟩ = false := unfrozen_of_block hD2.2.1 _
            have hD3 := hD2.set.1 tn
            refine wpAnyH_ready (rs := [8]) (by kernel_rfl) (by simp) ?_
            refine rdy_unit (i := 8) rfl rfl none rfl (w9.setCell ⟨sp, 0, none⟩ (.int .i64 tn)) (by go_simp) ((HAT.out _ _ _ _ _ hD3).1) (fun hHeld => ?_) rdy_nil
            simp only [Act.put]
            refine wpAnyH_done (by kernel_rfl) ?_ _
            refine NoPanic.normal ?_
            clear hHeld
            clear c2 f2 hD2 i2 k2 hDe hW4
            generalize w9.setCell ⟨sp, 0, none⟩ (.int .i64 tn) = W5 at *
            go_wp2_with fail
            have hDf := hD3.drew
            generalize hW6 : W5.drew = Wf at *
            clear hD3
            refine wp_region_noPanic ?_
            refine wp_region_held_drew (S := fun w' => w'.cell? ⟨g, 1, none⟩ = some (.int .u64 (vj : Int))) (by kernel_rfl) (by rw [hW6]; exact (HAT.out _ _ _ _ _ hDf).2) (fun hHeld => ?_)
            rw [hW6] at hHeld ⊢
            refine drawn_take (i := 0) (v := .slice (some ⟨g, 0, none⟩) k lc) (some 85) rfl rfl (by kernel_rfl) (by kernel_rfl) (by kernel_rfl) (fun _ _ _ h => h) (Or.inl ⟨by kernel_rfl, fun wq hw => by go_simp⟩) hHeld ?_
            simp only [Act.put, List.setIfInBounds_toArray, List.set_cons_succ, List.set_cons_zero]
            refine drawn_take (i := 1) (v := .pointer (some ⟨g, 0, none⟩)) (some 86) rfl rfl (by kernel_rfl) (by kernel_rfl) (by kernel_rfl) (fun _ _ _ h => h) (Or.inl ⟨by kernel_rfl, fun wq hw => by go_simp; intro h9; omega⟩) hHeld ?_
            simp only [Act.put, List.setIfInBounds_toArray, List.set_cons_succ, List.set_cons_zero]
            refine drawn_take (i := 2) (v := .pointer (some ⟨g, 1, none⟩)) (some 87) rfl rfl (by kernel_rfl) (by kernel_rfl) (by kernel_rfl) (fun _ _ _ h => h) (Or.inl ⟨by kernel_rfl, fun wq hw => by go_simp⟩) hHeld ?_
            simp only [Act.put, List.setIfInBounds_toArray, List.set_cons_succ, List.set_cons_zero]
            refine drawn_take (i := 3) (v := .int .u64 (vj : Int)) (some 88) rfl rfl (by kernel_rfl) (by kernel_rfl) (by kernel_rfl) (fun _ _ _ h => h) (Or.inl ⟨by kernel_rfl, fun wq hw => by have q9 := hw; go_simp⟩) hHeld ?_
            simp only [Act.put, List.setIfInBounds_toArray, List.set_cons_succ, List.set_cons_zero]
            refine drawn_take (i := 4) (v := .pointer (some ⟨r, 0, none⟩)) (some 89) rfl rfl (by kernel_rfl) (by kernel_rfl) (by kernel_rfl) (fun _ _ _ h => h) (Or.inl ⟨by kernel_rfl, fun wq hw => by go_simp⟩) hHeld ?_
            simp only [Act.put, List.setIfInBounds_toArray, List.set_cons_succ, List.set_cons_zero]
            refine wpAnyH_ready (rs := [5]) (by kernel_rfl) (by simp) ?_
            refine rdy_call (i := 5) rfl rfl (some 90) rfl 37 #[.pointer (some ⟨r, 0, none⟩)] (rd_ixor (x0 := 89) (ts := #[62]) (by kernel_rfl) (by kernel_rfl)) (fun v w' => ∃ (x q' : Nat) (b' : Bool), v = .int .u64 (x : Int) ∧ x < 18446744073709551616 ∧ II w' r (ra, cm) ys q' b' ∧ Kr r Wf w') ((ixor_any r ys q2 b2 _ hDf.1).mono fun e w' h => by obtain ⟨x, q', b', h1, h2⟩ := h; exact ⟨_, h1, x, q', b', rfl, h2⟩) (fun r w9 hR => ?_) rdy_nil
            obtain ⟨x, q6, b6, rfl, hxl, i6, k6⟩ := hR
            have hD6 := hDf.kr i6 k6
            refine ⟨(HAT.out _ _ _ _ _ hD6).2, fun hHeld => ?_⟩
            simp only [Act.put, List.setIfInBounds_toArray, List.set_cons_succ, List.set_cons_zero]
            have hxor : bits BinOp.xor IntKind.u64 (vj : Int) (x : Int) = ((vj ^^^ x : Nat) : Int) := bits_xor_u .u64 rfl _ _ hvjl hxl
            obtain ⟨vn, hvn⟩ : ∃ vn, vn = vj ^^^ x := ⟨_, rfl⟩
            have vnl : vn < 18446744073709551616 := by rw [hvn]; exact Nat.xor_lt_two_pow (n := 64) hvjl hxl
            rw [← hvn] at hxor
            clear hvn
            refine drawn_take (i := 6) (v := .int .u64 (vn : Int)) (some 91) rfl rfl (by kernel_rfl) (by kernel_rfl) (by kernel_rfl) (fun _ _ _ h => h) (Or.inl ⟨by kernel_rfl, fun wq hw => by go_simp⟩) hHeld ?_
            simp only [Act.put, List.setIfInBounds_toArray, List.set_cons_succ, List.set_cons_zero]
            refine drawn_take (i := 7) (v := .pointer (some ⟨sp, 1, none⟩)) (some 92) rfl rfl (by kernel_rfl) (by kernel_rfl) (by kernel_rfl) (fun _ _ _ h => h) (Or.inl ⟨by kernel_rfl, fun wq hw => by go_simp⟩) hHeld ?_
            simp only [Act.put, List.setIfInBounds_toArray, List.set_cons_succ, List.set_cons_zero]
            have c6 : w9.cell? ⟨sp, 1, none⟩ = some (.int .u64 0) := cell_of_row _ _ _ _ _ _ hD6.2.1
            have f6 : w9.frozen? ⟨sp, 1, none⟩ = false := unfrozen_of_block hD6.2.1 _
            have hD7 := hD6.set.2 (vn : Int)
            refine wpAnyH_ready (rs := [8]) (by kernel_rfl) (by simp) ?_
            refine rdy_unit (i := 8) rfl rfl none rfl (w9.setCell ⟨sp, 1, none⟩ (.int .u64 (vn : Int))) (by go_simp) ((HAT.out _ _ _ _ _ hD7).2) (fun hHeld => ?_) rdy_nil
            simp only [Act.put]
            refine wpAnyH_done (by kernel_rfl) ?_ _
            refine NoPanic.normal ?_
            clear hHeld
            clear c6 f6 hD6 i6 k6 hDf hW6 hxor
            generalize w9.setCell ⟨sp, 1, none⟩ (.int .u64 (vn : Int)) = W7 at *
            have hown8 := hD7.2.2.1
            have hii8 := hD7.1
            have hkr8 := hD7.2.2.2.1
            rw [← HK.out] at hown8
            have x0 : W7.cell? ⟨sp, 0, none⟩ = some (.int .i64 tn) := cell_of_row _ _ _ _ _ _ hD7.2.1
            have x1 : W7.cell? ⟨sp, 1, none⟩ = some (.int .u64 (vn : Int)) := cell_of_row _ _ _ _ _ _ hD7.2.1
            have xb : W7.cell? ⟨r, 2, none⟩ = some (.bool b6) := cell_of_row _ _ _ _ _ _ hii8.1
            have hs8 := hkr8.2.2.2.1
            have HS8 := hidn hs8
            rw [hsz3] at hs8
            have HOK8 : Hid (SamsOK (l ++ [(⟨tn, vn⟩ : Sam)])) := hidn (samsOK_app hso ⟨tnr.1, tnr.2, vnl⟩)
            have HBW8 : Hid (Below w1.heap.size w1 W7) := hidn (B3.trans (hkr8.below (by rw [← HR.out, hsz3]; omega) (by rw [← HR.out]; exact Nat.le_refl _)))
            cases b6 with
            | true =>
              go_wp2_with fail
              exact bodyPost_ret (v := .tuple #[.slice none 0 0, .int .i64 5]) (by simp [results, Tryd.results19, go_sem]) rfl ⟨.inl rfl, HBW8.out⟩
            | false =>
              clear hD7
              go_wp2_with (at_builtin; refine wpList_append_own _ rfl _ _ 22 rfl (r + 1) 26 i0 (.agg #[.int .i64 0, .int .u64 0]) 2 16 Tryd.underlying22 hi hz0 hz1 hz2 rfl (by decide) _ _ _ rfl (hown8.alloc _) ⟨W7.heap.size, 0, none⟩ 1 1 [.int .i64 tn, .int .u64 (vn : Int)] rfl rfl ?c1 ?c2 ?c3 ?c4 ?c5 ?_)
              case c1 =>
                intro j u hj
                match j, hj with
                | 0, hj => simp at hj; subst hj; simp [Addr.add]
                | 1, hj => simp at hj; subst hj; simp [Addr.add]
              case c2 => intro u hu; simp at hu; rcases hu with rfl | rfl <;> rfl
              case c3 => unfold maxLen; omega
              case c4 => omega
              case c5 => simp; omega
              intro v9 W9 hown9 hgrow9 _
              have hb9 : Below (r + 1) W7 W9 := ((Below.refl (r + 1) W7).alloc hs8 _).grown hgrow9 (by simp; omega) (fun k hk => (hown8.lt k hk).1)
              have HF : Hid (W9.ownsRow (r + 1) 26 2 v9 (l ++ [(⟨tn, vn⟩ : Sam)]).length (vsm (l ++ [(⟨tn, vn⟩ : Sam)])) ∧ II W9 r (ra, cm) ys q6 false ∧ Kr r W3 W9) := hidn ⟨by
                  rw [List.length_append, List.length_singleton, ← HK.out, vsm_app]
                  exact hown9, ii_belowB hii8 (by omega) (fun x hx => by have := hSb x hx; omega) hb9, hkr8.thenBelow (by rw [hsz3]; exact hb9)⟩
              clear hown8 hown9 hgrow9 hii8 hkr8 hb9
              go_wp2_with fail
              go_roundw
              case rel => exact ⟨l ++ [(⟨tn, vn⟩ : Sam)], q6, false, by rw [List.length_append, List.length_singleton, ← HK.out]; omega, by rw [List.length_append, List.length_singleton, ← HK.out]; go_num, HF.out.1, HOK8.out, HF.out.2.1, HF.out.2.2⟩
              case measure => simp [intOf]; omega
          · have hkz1 : ((k : Int) == 1) = false := by simp; omega
            obtain ⟨i, hij⟩ : ∃ i, j = i + 1 := ⟨j - 1, by omega⟩
            have hii2 : (k : Int) - 2 = (i : Int) := by omega
            have hik : (i : Int) < (k : Int) := by omega
            obtain ⟨ti, hti⟩ : ∃ ti, ti = (samD l i).t := ⟨_, rfl⟩
            have HAI : Hid (∀ w' q b t v, DJ W3 w' r sp (ra, cm) ys (.slice (some ⟨g, 0, none⟩) k lc) l q b t v → w'.cell? ⟨g, i * 2, none⟩ = some (.int .i64 ti)) := hidn (fun w' q b t v hd => by rw [hti]; exact (hd.at (by omega)).1)
            clear hk1 hj hij hti
            go_wp2_with fail
            rw [← HSP.out]
            have hDe := hD.drew
            generalize hW4 : (wr.alloc (.cells #[.int .i64 0, .int .u64 0] 26)).drew = We at *
            clear hD
            refine wp_region_noPanic ?_
            refine wp_region_held_drew (S := fun w' => w'.cell? ⟨g, j * 2, none⟩ = some (.int .i64 tj) ∧ w'.cell? ⟨g, i * 2, none⟩ = some (.int .i64 ti)) (by kernel_rfl) (by rw [hW4]; exact ⟨(HAT.out _ _ _ _ _ hDe).1, HAI.out _ _ _ _ _ hDe⟩) (fun hHeld => ?_)
            rw [hW4] at hHeld ⊢
            refine drawn_take (i := 0) (v := .slice (some ⟨g, 0, none⟩) k lc) (some 32) rfl rfl (by kernel_rfl) (by kernel_rfl) (by kernel_rfl) (fun _ _ _ h => h) (Or.inl ⟨by kernel_rfl, fun wq hw => by go_simp⟩) hHeld ?_
            simp only [Act.put, List.setIfInBounds_toArray, List.set_cons_succ, List.set_cons_zero]
            refine drawn_take (i := 1) (v := .int .i64 (k : Int)) (some 33) rfl rfl (by kernel_rfl) (by kernel_rfl) (by kernel_rfl) (fun _ _ _ h => h) (Or.inl ⟨by kernel_rfl, fun wq hw => by go_simp⟩) hHeld ?_
            simp only [Act.put, List.setIfInBounds_toArray, List.set_cons_succ, List.set_cons_zero]
            refine drawn_take (i := 2) (v := .int .i64 (j : Int)) (some 34) rfl rfl (by kernel_rfl) (by kernel_rfl) (by kernel_rfl) (fun _ _ _ h => h) (Or.inl ⟨by kernel_rfl, fun wq hw => by go_simp; exact i64_nat _ (by omega)⟩) hHeld ?_
            simp only [Act.put, List.setIfInBounds_toArray, List.set_cons_succ, List.set_cons_zero]
            refine drawn_take (i := 3) (v := .pointer (some ⟨g, j * 2, none⟩)) (some 35) rfl rfl (by kernel_rfl) (by kernel_rfl) (by kernel_rfl) (fun _ _ _ h => h) (Or.inl ⟨by kernel_rfl, fun wq hw => by go_simp⟩) hHeld ?_
            simp only [Act.put, List.setIfInBounds_toArray, List.set_cons_succ, List.set_cons_zero]
            refine drawn_take (i := 4) (v := .pointer (some ⟨g, j * 2, none⟩)) (some 36) rfl rfl (by kernel_rfl) (by kernel_rfl) (by kernel_rfl) (fun _ _ _ h => h) (Or.inl ⟨by kernel_rfl, fun wq hw => by go_simp⟩) hHeld ?_
            simp only [Act.put, List.setIfInBounds_toArray, List.set_cons_succ, List.set_cons_zero]
            refine drawn_take (i := 5) (v := .int .i64 tj) (some 37) rfl rfl (by kernel_rfl) (by kernel_rfl) (by kernel_rfl) (fun _ _ _ h => h) (Or.inl ⟨by kernel_rfl, fun wq hw => by have q9 := hw.1; go_simp⟩) hHeld ?_
            simp only [Act.put, List.setIfInBounds_toArray, List.set_cons_succ, List.set_cons_zero]
            refine drawn_take (i := 6) (v := .slice (some ⟨g, 0, none⟩) k lc) (some 38) rfl rfl (by kernel_rfl) (by kernel_rfl) (by kernel_rfl) (fun _ _ _ h => h) (Or.inl ⟨by kernel_rfl, fun wq hw => by go_simp⟩) hHeld ?_
            simp only [Act.put, List.setIfInBounds_toArray, List.set_cons_succ, List.set_cons_zero]
            refine drawn_take (i := 7) (v := .int .i64 (k : Int)) (some 39) rfl rfl (by kernel_rfl) (by kernel_rfl) (by kernel_rfl) (fun _ _ _ h => h) (Or.inl ⟨by kernel_rfl, fun wq hw => by go_simp⟩) hHeld ?_
            simp only [Act.put, List.setIfInBounds_toArray, List.set_cons_succ, List.set_cons_zero]
            refine drawn_take (i := 8) (v := .int .i64 (j : Int)) (some 40) rfl rfl (by kernel_rfl) (by kernel_rfl) (by kernel_rfl) (fun _ _ _ h => h) (Or.inl ⟨by kernel_rfl, fun wq hw => by go_simp; exact i64_nat _ (by omega)⟩) hHeld ?_
            simp only [Act.put, List.setIfInBounds_toArray, List.set_cons_succ, List.set_cons_zero]
            refine drawn_take (i := 9) (v := .pointer (some ⟨g, j * 2, none⟩)) (some 41) rfl rfl (by kernel_rfl) (by kernel_rfl) (by kernel_rfl) (fun _ _ _ h => h) (Or.inl ⟨by kernel_rfl, fun wq hw => by go_simp⟩) hHeld ?_
            simp only [Act.put, List.setIfInBounds_toArray, List.set_cons_succ, List.set_cons_zero]
            refine drawn_take (i := 10) (v := .pointer (some ⟨g, j * 2, none⟩)) (some 42) rfl rfl (by kernel_rfl) (by kernel_rfl) (by kernel_rfl) (fun _ _ _ h => h) (Or.inl ⟨by kernel_rfl, fun wq hw => by go_simp⟩) hHeld ?_
            simp only [Act.put, List.setIfInBounds_toArray, List.set_cons_succ, List.set_cons_zero]
            refine drawn_take (i := 11) (v := .int .i64 tj) (some 43) rfl rfl (by kernel_rfl) (by kernel_rfl) (by kernel_rfl) (fun _ _ _ h => h) (Or.inl ⟨by kernel_rfl, fun wq hw => by have q9 := hw.1; go_simp⟩) hHeld ?_
            simp only [Act.put, List.setIfInBounds_toArray, List.set_cons_succ, List.set_cons_zero]
            refine drawn_take (i := 12) (v := .slice (some ⟨g, 0, none⟩) k lc) (some 44) rfl rfl (by kernel_rfl) (by kernel_rfl) (by kernel_rfl) (fun _ _ _ h => h) (Or.inl ⟨by kernel_rfl, fun wq hw => by go_simp⟩) hHeld ?_
            simp only [Act.put, List.setIfInBounds_toArray, List.set_cons_succ, List.set_cons_zero]
            refine drawn_take (i := 13) (v := .int .i64 (k : Int)) (some 45) rfl rfl (by kernel_rfl) (by kernel_rfl) (by kernel_rfl) (fun _ _ _ h => h) (Or.inl ⟨by kernel_rfl, fun wq hw => by go_simp⟩) hHeld ?_
            simp only [Act.put, List.setIfInBounds_toArray, List.set_cons_succ, List.set_cons_zero]
            refine drawn_take (i := 14) (v := .int .i64 (i : Int)) (some 46) rfl rfl (by kernel_rfl) (by kernel_rfl) (by kernel_rfl) (fun _ _ _ h => h) (Or.inl ⟨by kernel_rfl, fun wq hw => by go_simp; exact i64_nat _ (by omega)⟩) hHeld ?_
            simp only [Act.put, List.setIfInBounds_toArray, List.set_cons_succ, List.set_cons_zero]
            refine drawn_take (i := 15) (v := .pointer (some ⟨g, i * 2, none⟩)) (some 47) rfl rfl (by kernel_rfl) (by kernel_rfl) (by kernel_rfl) (fun _ _ _ h => h) (Or.inl ⟨by kernel_rfl, fun wq hw => by go_simp⟩) hHeld ?_
            simp only [Act.put, List.setIfInBounds_toArray, List.set_cons_succ, List.set_cons_zero]
            refine drawn_take (i := 16) (v := .pointer (some ⟨g, i * 2, none⟩)) (some 48) rfl rfl (by kernel_rfl) (by kernel_rfl) (by kernel_rfl) (fun _ _ _ h => h) (Or.inl ⟨by kernel_rfl, fun wq hw => by go_simp⟩) hHeld ?_
            simp only [Act.put, List.setIfInBounds_toArray, List.set_cons_succ, List.set_cons_zero]
            refine drawn_take (i := 17) (v := .int .i64 ti) (some 49) rfl rfl (by kernel_rfl) (by kernel_rfl) (by kernel_rfl) (fun _ _ _ h => h) (Or.inl ⟨by kernel_rfl, fun wq hw => by have q9 := hw.2; go_simp⟩) hHeld ?_
            simp only [Act.put, List.setIfInBounds_toArray, List.set_cons_succ, List.set_cons_zero]
            refine drawn_take (i := 18) (v := .int .i64 (wrap64 (tj - ti))) (some 50) rfl rfl (by kernel_rfl) (by kernel_rfl) (by kernel_rfl) (fun _ _ _ h => h) (Or.inl ⟨by kernel_rfl, fun wq hw => by go_simp; exact i64_w64 _⟩) hHeld ?_
            simp only [Act.put, List.setIfInBounds_toArray, List.set_cons_succ, List.set_cons_zero]
            refine drawn_take (i := 19) (v := .int .i64 (wrap64 (tj + wrap64 (tj - ti)))) (some 51) rfl rfl (by kernel_rfl) (by kernel_rfl) (by kernel_rfl) (fun _ _ _ h => h) (Or.inl ⟨by kernel_rfl, fun wq hw => by go_simp; exact i64_w64 _⟩) hHeld ?_
            simp only [Act.put, List.setIfInBounds_toArray, List.set_cons_succ, List.set_cons_zero]
            refine drawn_take (i := 20) (v := .pointer (some ⟨r, 0, none⟩)) (some 52) rfl rfl (by kernel_rfl) (by kernel_rfl) (by kernel_rfl) (fun _ _ _ h => h) (Or.inl ⟨by kernel_rfl, fun wq hw => by go_simp⟩) hHeld ?_
            simp only [Act.put, List.setIfInBounds_toArray, List.set_cons_succ, List.set_cons_zero]
            refine wpAnyH_ready (rs := [21]) (by kernel_rfl) (by simp) ?_
            refine rdy_call (i := 21) rfl rfl (some 53) rfl 36 #[.pointer (some ⟨r, 0, none⟩)] (rd_iint (x0 := 52) (ts := #[62]) (by kernel_rfl) (by kernel_rfl)) (fun v w' => ∃ (d : Int) (q' : Nat) (b' : Bool), v = .int .i64 d ∧ II w' r (ra, cm) ys q' b' ∧ Kr r We w') ((iint_any r ys q bd _ hDe.1).mono fun e w' h => by obtain ⟨d, q', b', h1, _, h2⟩ := h; exact ⟨_, h1, d, q', b', rfl, h2⟩) (fun r w9 hR => ?_) rdy_nil
            obtain ⟨d, q2, b2, rfl, i2, k2⟩ := hR
            have hD2 := hDe.kr i2 k2
            refine ⟨⟨(HAT.out _ _ _ _ _ hD2).1, HAI.out _ _ _ _ _ hD2⟩, fun hHeld => ?_⟩
            simp only [Act.put, List.setIfInBounds_toArray, List.set_cons_succ, List.set_cons_zero]
            have tnr := wrap64_rng (wrap64 (tj + wrap64 (tj - ti)) + d)
            refine drawn_take (i := 22) (v := .int .i64 (wrap64 (wrap64 (tj + wrap64 (tj - ti)) + d))) (some 54) rfl rfl (by kernel_rfl) (by kernel_rfl) (by kernel_rfl) (fun _ _ _ h => h) (Or.inl ⟨by kernel_rfl, fun wq hw => by go_simp; exact i64_w64 _⟩) hHeld ?_
            simp only [Act.put, List.setIfInBounds_toArray, List.set_cons_succ, List.set_cons_zero]
            generalize wrap64 (wrap64 (tj + wrap64 (tj - ti)) + d) = tn at *
            refine drawn_take (i := 23) (v := .pointer (some ⟨sp, 0, none⟩)) (some 55) rfl rfl (by kernel_rfl) (by kernel_rfl) (by kernel_rfl) (fun _ _ _ h => h) (Or.inl ⟨by kernel_rfl, fun wq hw => by go_simp⟩) hHeld ?_
            simp only [Act.put, List.setIfInBounds_toArray, List.set_cons_succ, List.set_cons_zero]
            have c2 : w9.cell? ⟨sp, 0, none⟩ = some (.int .i64 0) := cell_of_row _ _ _ _ _ _ hD2.2.1
            have f2 : w9.frozen? ⟨sp, 0, none⟩ = false := unfrozen_of_block hD2.2.1 _
            have hD3 := hD2.set.1 tn
            refine wpAnyH_ready (rs := [24]) (by kernel_rfl) (by simp) ?_
            refine rdy_unit (i := 24) rfl rfl none rfl (w9.setCell ⟨sp, 0, none⟩ (.int .i64 tn)) (by go_simp) (⟨(HAT.out _ _ _ _ _ hD3).1, HAI.out _ _ _ _ _ hD3⟩) (fun hHeld => ?_) rdy_nil
            simp only [Act.put]
            refine wpAnyH_done (by kernel_rfl) ?_ _
            refine NoPanic.normal ?_
            clear hHeld
            clear c2 f2 hD2 i2 k2 hDe hW4
            generalize w9.setCell ⟨sp, 0, none⟩ (.int .i64 tn) = W5 at *
            go_wp2_with fail
            have hDf := hD3.drew
            generalize hW6 : W5.drew = Wf at *
            clear hD3
            refine wp_region_noPanic ?_
            refine wp_region_held_drew (S := fun w' => w'.cell? ⟨g, j * 2 + 1, none⟩ = some (.int .u64 (vj : Int))) (by kernel_rfl) (by rw [hW6]; exact (HAT.out _ _ _ _ _ hDf).2) (fun hHeld => ?_)
            rw [hW6] at hHeld ⊢
            refine drawn_take (i := 0) (v := .slice (some ⟨g, 0, none⟩) k lc) (some 56) rfl rfl (by kernel_rfl) (by kernel_rfl) (by kernel_rfl) (fun _ _ _ h => h) (Or.inl ⟨by kernel_rfl, fun wq hw => by go_simp⟩) hHeld ?_
            simp only [Act.put, List.setIfInBounds_toArray, List.set_cons_succ, List.set_cons_zero]
            refine drawn_take (i := 1) (v := .int .i64 (k : Int)) (some 57) rfl rfl (by kernel_rfl) (by kernel_rfl) (by kernel_rfl) (fun _ _ _ h => h) (Or.inl ⟨by kernel_rfl, fun wq hw => by go_simp⟩) hHeld ?_
            simp only [Act.put, List.setIfInBounds_toArray, List.set_cons_succ, List.set_cons_zero]
            refine drawn_take (i := 2) (v := .int .i64 (j : Int)) (some 58) rfl rfl (by kernel_rfl) (by kernel_rfl) (by kernel_rfl) (fun _ _ _ h => h) (Or.inl ⟨by kernel_rfl, fun wq hw => by go_simp; exact i64_nat _ (by omega)⟩) hHeld ?_
            simp only [Act.put, List.setIfInBounds_toArray, List.set_cons_succ, List.set_cons_zero]
            refine drawn_take (i := 3) (v := .pointer (some ⟨g, j * 2, none⟩)) (some 59) rfl rfl (by kernel_rfl) (by kernel_rfl) (by kernel_rfl) (fun _ _ _ h => h) (Or.inl ⟨by kernel_rfl, fun wq hw => by go_simp⟩) hHeld ?_
            simp only [Act.put, List.setIfInBounds_toArray, List.set_cons_succ, List.set_cons_zero]
            refine drawn_take (i := 4) (v := .pointer (some ⟨g, j * 2 + 1, none⟩)) (some 60) rfl rfl (by kernel_rfl) (by kernel_rfl) (by kernel_rfl) (fun _ _ _ h => h) (Or.inl ⟨by kernel_rfl, fun wq hw => by go_simp⟩) hHeld ?_
            simp only [Act.put, List.setIfInBounds_toArray, List.set_cons_succ, List.set_cons_zero]
            refine drawn_take (i := 5) (v := .int .u64 (vj : Int)) (some 61) rfl rfl (by kernel_rfl) (by kernel_rfl) (by kernel_rfl) (fun _ _ _ h => h) (Or.inl ⟨by kernel_rfl, fun wq hw => by have q9 := hw; go_simp⟩) hHeld ?_
            simp only [Act.put, List.setIfInBounds_toArray, List.set_cons_succ, List.set_cons_zero]
            refine drawn_take (i := 6) (v := .pointer (some ⟨r, 0, none⟩)) (some 62) rfl rfl (by kernel_rfl) (by kernel_rfl) (by kernel_rfl) (fun _ _ _ h => h) (Or.inl ⟨by kernel_rfl, fun wq hw => by go_simp⟩) hHeld ?_
            simp only [Act.put, List.setIfInBounds_toArray, List.set_cons_succ, List.set_cons_zero]
            refine wpAnyH_ready (rs := [7]) (by kernel_rfl) (by simp) ?_
            refine rdy_call (i := 7) rfl rfl (some 63) rfl 37 #[.pointer (some ⟨r, 0, none⟩)] (rd_ixor (x0 := 62) (ts := #[62]) (by kernel_rfl) (by kernel_rfl)) (fun v w' => ∃ (x q' : Nat) (b' : Bool), v = .int .u64 (x : Int) ∧ x < 18446744073709551616 ∧ II w' r (ra, cm) ys q' b' ∧ Kr r Wf w') ((ixor_any r ys q2 b2 _ hDf.1).mono fun e w' h => by obtain ⟨x, q', b', h1, h2⟩ := h; exact ⟨_, h1, x, q', b', rfl, h2⟩) (fun r w9 hR => ?_) rdy_nil
            obtain ⟨x, q6, b6, rfl, hxl, i6, k6⟩ := hR
            have hD6 := hDf.kr i6 k6
            refine ⟨(HAT.out _ _ _ _ _ hD6).2, fun hHeld => ?_⟩
            simp only [Act.put, List.setIfInBounds_toArray, List.set_cons_succ, List.set_cons_zero]
            have hxor : bits BinOp.xor IntKind.u64 (vj : Int) (x : Int) = ((vj ^^^ x : Nat) : Int) := bits_xor_u .u64 rfl _ _ hvjl hxl
            obtain ⟨vn, hvn⟩ : ∃ vn, vn = vj ^^^ x := ⟨_, rfl⟩
            have vnl : vn < 18446744073709551616 := by rw [hvn]; exact Nat.xor_lt_two_pow (n := 64) hvjl hxl
            rw [← hvn] at hxor
            clear hvn
            refine drawn_take (i := 8) (v := .int .u64 (vn : Int)) (some 64) rfl rfl (by kernel_rfl) (by kernel_rfl) (by kernel_rfl) (fun _ _ _ h => h) (Or.inl ⟨by kernel_rfl, fun wq hw => by go_simp⟩) hHeld ?_
            simp only [Act.put, List.setIfInBounds_toArray, List.set_cons_succ, List.set_cons_zero]
            refine drawn_take (i := 9) (v := .pointer (some ⟨sp, 1, none⟩)) (some 65) rfl rfl (by kernel_rfl) (by kernel_rfl) (by kernel_rfl) (fun _ _ _ h => h) (Or.inl ⟨by kernel_rfl, fun wq hw => by go_simp⟩) hHeld ?_
            simp only [Act.put, List.setIfInBounds_toArray, List.set_cons_succ, List.set_cons_zero]
            have c6 : w9.cell? ⟨sp, 1, none⟩ = some (.int .u64 0) := cell_of_row _ _ _ _ _ _ hD6.2.1
            have f6 : w9.frozen? ⟨sp, 1, none⟩ = false := unfrozen_of_block hD6.2.1 _
            have hD7 := hD6.set.2 (vn : Int)
            refine wpAnyH_ready (rs := [10]) (by kernel_rfl) (by simp) ?_
            refine rdy_unit (i := 10) rfl rfl none rfl (w9.setCell ⟨sp, 1, none⟩ (.int .u64 (vn : Int))) (by go_simp) ((HAT.out _ _ _ _ _ hD7).2) (fun hHeld => ?_) rdy_nil
            simp only [Act.put]
            refine wpAnyH_done (by kernel_rfl) ?_ _
            refine NoPanic.normal ?_
            clear hHeld
            clear c6 f6 hD6 i6 k6 hDf hW6 hxor
            generalize w9.setCell ⟨sp, 1, none⟩ (.int .u64 (vn : Int)) = W7 at *
            have hown8 := hD7.2.2.1
            have hii8 := hD7.1
            have hkr8 := hD7.2.2.2.1
            rw [← HK.out] at hown8
            have x0 : W7.cell? ⟨sp, 0, none⟩ = some (.int .i64 tn) := cell_of_row _ _ _ _ _ _ hD7.2.1
            have x1 : W7.cell? ⟨sp, 1, none⟩ = some (.int .u64 (vn : Int)) := cell_of_row _ _ _ _ _ _ hD7.2.1
            have xb : W7.cell? ⟨r, 2, none⟩ = some (.bool b6) := cell_of_row _ _ _ _ _ _ hii8.1
            have hs8 := hkr8.2.2.2.1
            have HS8 := hidn hs8
            rw [hsz3] at hs8
            have HOK8 : Hid (SamsOK (l ++ [(⟨tn, vn⟩ : Sam)])) := hidn (samsOK_app hso ⟨tnr.1, tnr.2, vnl⟩)
            have HBW8 : Hid (Below w1.heap.size w1 W7) := hidn (B3.trans (hkr8.below (by rw [← HR.out, hsz3]; omega) (by rw [← HR.out]; exact Nat.le_refl _)))
            cases b6 with
            | true =>
              go_wp2_with fail
              exact bodyPost_ret (v := .tuple #[.slice none 0 0, .int .i64 5]) (by simp [results, Tryd.results19, go_sem]) rfl ⟨.inl rfl, HBW8.out⟩
            | false =>
              clear hD7
              go_wp2_with (at_builtin; refine wpList_append_own _ rfl _ _ 22 rfl (r + 1) 26 i0 (.agg #[.int .i64 0, .int .u64 0]) 2 16 Tryd.underlying22 hi hz0 hz1 hz2 rfl (by decide) _ _ _ rfl (hown8.alloc _) ⟨W7.heap.size, 0, none⟩ 1 1 [.int .i64 tn, .int .u64 (vn : Int)] rfl rfl ?c1 ?c2 ?c3 ?c4 ?c5 ?_)
              case c1 =>
                intro j u hj
                match j, hj with
                | 0, hj => simp at hj; subst hj; simp [Addr.add]
                | 1, hj => simp at hj; subst hj; simp [Addr.add]
              case c2 => intro u hu; simp at hu; rcases hu with rfl | rfl <;> rfl
              case c3 => unfold maxLen; omega
              case c4 => omega
              case c5 => simp; omega
              intro v9 W9 hown9 hgrow9 _
              have hb9 : Below (r + 1) W7 W9 := ((Below.refl (r + 1) W7).alloc hs8 _).grown hgrow9 (by simp; omega) (fun k hk => (hown8.lt k hk).1)
              have HF : Hid (W9.ownsRow (r + 1) 26 2 v9 (l ++ [(⟨tn, vn⟩ : Sam)]).length (vsm (l ++ [(⟨tn, vn⟩ : Sam)])) ∧ II W9 r (ra, cm) ys q6 false ∧ Kr r W3 W9) := hidn ⟨by
                  rw [List.length_append, List.length_singleton, ← HK.out, vsm_app]
                  exact hown9, ii_belowB hii8 (by omega) (fun x hx => by have := hSb x hx; omega) hb9, hkr8.thenBelow (by rw [hsz3]; exact hb9)⟩
              clear hown8 hown9 hgrow9 hii8 hkr8 hb9
              go_wp2_with fail
              go_roundw
              case rel => exact ⟨l ++ [(⟨tn, vn⟩ : Sam)], q6, false, by rw [List.length_append, List.length_singleton, ← HK.out]; omega, by rw [List.length_append, List.length_singleton, ← HK.out]; go_num, HF.out.1, HOK8.out, HF.out.2.1, HF.out.2.2⟩
              case measure => simp [intOf]; omega
      · have hke2 : ¬ (k : Int) < (n : Int) := by omega
        have B4 : Below w1.heap.size w1 wr := B3.trans (hkr.below (by rw [← HR.out, hsz3]; omega) (by rw [← HR.out]; exact Nat.le_refl _))
        rw [hke] at hown
        obtain ⟨la', lc', hv, _, hSm⟩ := sm_of_own hown hso
        injection hv with e1 _ e3
        subst e1 e3
        rw [← hke] at hSm
        have hBw := h.below B4
        have HOWN := hidn hown
        clear hke hown hii hkr
        cases hcan : canS l with
        | false =>
          go_wp2_with fail
          refine (renc_no la k lc l _ hSm hcan).mono ?_
          rintro e w5 ⟨rfl, b5⟩
          have B5 := hidn (B4.trans (b5.mono B4.size))
          clear b5
          go_wp2_with fail
          exact bodyPost_ret (v := .tuple #[.slice none 0 0, .int .i64 5]) (by simp [results, Tryd.results19, go_sem]) rfl ⟨.inl rfl, B5.out⟩
        | true =>
          go_wp2_with fail
          refine (renc_yes la k lc l _ hSm hcan).mono ?_
          rintro e w5 ⟨v5, z5, rfl, pk5, own5, b5⟩
          have B5 := B4.trans (b5.mono B4.size)
          obtain ⟨a5, c5, rfl⟩ := own_slice own5
          obtain ⟨a5', c5', hv, hBs5⟩ := bs_of_own own5 pk5.2.1
          injection hv with e1 _ e3
          subst e1 e3
          have hBw5 := hBw.below b5
          have s1 := hBs5.str (cap := c5)
          have s2 := hBw5.str (cap := cap)
          have hzz : ((strB z5).toList == (strB zs).toList) = decide (z5 = zs) := by
            rw [Bool.eq_iff_iff, beq_iff_eq, strB_inj hBs5.2.2.1 hBw5.2.2.1]; simp
          have HO5 : Hid (w5.ownsRow w1.heap.size 26 2 (.slice la l.length lc) l.length (vsm l)) := hidn (by
            have ho5 := own_kr (base := r + 1) HOWN.out (Nat.lt_succ_self r) (Kr.of_below b5)
            obtain ⟨hl5, h5⟩ := ho5
            refine ⟨hl5, ?_⟩
            rcases h5 with h5 | ⟨g5, c5, cur5, hv5, hg5, rs5⟩
            · exact .inl h5
            · exact .inr ⟨g5, c5, cur5, hv5, by rw [← HR.out]; omega, rs5⟩)
          have HB5 := hidn B5
          have HPK := hidn pk5
          rw [HK.out]
          generalize z5.length = zn at *
          generalize strB z5 = S1 at *
          generalize strB zs = S2 at *
          clear own5 b5 hBs5 hBw5 hBw hSm
          by_cases heq : z5 = zs
          · rw [decide_eq_true heq] at hzz
            have HPK2 : Hid (IsPack zs (encS l)) := hidn (by rw [← heq]; exact pk5)
            clear heq
            go_wp2_with fail
            exact bodyPost_ret (v := .tuple #[.slice la l.length lc, .int .i64 0]) (by simp [results, Tryd.results19, go_sem]) rfl ⟨.inr ⟨l, _, rfl, hcan, hso, HPK2.out, HO5.out⟩, HB5.out⟩
          · rw [decide_eq_false heq] at hzz
            clear heq
            go_wp2_with fail
            exact bodyPost_ret (v := .tuple #[.slice none 0 0, .int .i64 5]) (by simp [results, Tryd.results19, go_sem]) rfl ⟨.inl rfl, HB5.out⟩
end Go.Proofs.YtljkidbdlhllcaaDoor
