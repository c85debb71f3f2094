/- postings: the document's Unpack. -/
import Derived.Test.YthmknpdhgfmogaaPhD
namespace Go.Proofs.Ythmknpdhgfmogaa
open Go.RowKit Go.Joins
set_option linter.unusedVariables false

/-- What the document's Unpack leaves. -/
def RuP (w : World) (zs : List Nat) (e : Ending) (w' : World) : Prop :=
  Below w.heap.size w w' ∧ ((refUnp zs = none ∧ e = .returned (.tuple #[.slice none 0 0, .int .i64 5])) ∨
    ∃ l v, refUnp zs = some l ∧ e = .returned (.tuple #[v, .int .i64 0]) ∧ w'.ownsRow w.heap.size 3 1 v (up l).length (ivs (up l)))

theorem own_lower {w : World} {base base' e size n : Nat} {v : Value} {xs : List Value} (h : w.ownsRow base' e size v n xs) (hb : base ≤ base') : w.ownsRow base e size v n xs := by
  refine ⟨h.1, ?_⟩
  rcases h.2 with hn | ⟨g, cap, cur, e, hbb, rest⟩
  · exact .inl hn
  · exact .inr ⟨g, cap, cur, e, Nat.le_trans hb hbb, rest⟩

theorem ru_fail {w w' : World} {zs : List Nat} (hb : Below w.heap.size w w') (h : refUnp zs = none) : RuP w zs (.returned (.tuple #[.slice none 0 0, .int .i64 5])) w' := ⟨hb, .inl ⟨h, rfl⟩⟩

theorem up_snoc2 (xs : List Nat) (y : Nat) : up (xs ++ [y]) = up xs ++ [(y : Int)] := by simp [up]

theorem own_capI {w : World} {base e n : Nat} {a : Option Addr} {c : Nat} {xs : List Value} (h : w.ownsRow base e 1 (.slice a n c) n xs) : n ≤ c ∧ c ≤ maxLen := by
  rcases h.2 with ⟨e, h0⟩ | ⟨g, cap, cur, e, _, _, h1, h2, _⟩
  · cases e
    exact ⟨Nat.le_refl _, Nat.zero_le _⟩
  · cases e
    exact ⟨h1, h2⟩

set_option maxHeartbeats 8000000 in
set_option maxRecDepth 100000 in
theorem refUnpack_any (a : Option Addr) (len cap : Nat) (zs : List Nat) (w : World) (h : Bs w a len zs) (hlc : len ≤ cap) (hcm : cap ≤ maxLen) :
    Calls Try.prog 15 #[.slice a len cap] w (RuP w zs) := by
  have hxB : ∀ x, a = some x → 0 < len → x.block < w.heap.size := fun x hx h0 => by
    subst hx
    have := h.2.2.2.2 _ rfl 0 h0
    have hb := block_lt_of_cell this
    unfold Addr.add at hb
    simpa using hb
  have HT0 := hidn (refTake_any a len cap zs w h hlc hcm w.heap.size hxB)
  have HB := hidn h
  have hunf : ∀ cnt z ok, tkR zs = (cnt, z, ok) → refUnp zs = if ok = false ∨ 100000 < cnt then none else match runF (some (0, [], z)) ((cnt + 7) / 8) with
    | none => none
    | some (last, fs, z) => match runL fs (some ([], z)) cnt with
      | none => none
      | some (l, z') => if canP (up l) = true ∧ packB l = zs then some l else none := fun cnt z ok he => by unfold refUnp; rw [he]; rfl
  obtain ⟨p, hp⟩ : ∃ p, p = tkR zs := ⟨_, rfl⟩
  have htl := tkR_lt zs
  have HTP : Hid (∀ e w', TkP w.heap.size w zs e w' → ∃ a l c, e = .returned (.tuple #[.int .i64 (p.1 : Int), .slice a l c, .bool p.2.2]) ∧ Bs w' a l p.2.1 ∧ l ≤ c ∧ c ≤ maxLen ∧ Below w.heap.size w w' ∧ ∀ x, a = some x → 0 < l → x.block < w.heap.size) := hidn (by rw [hp]; exact fun e w' h => h)
  rw [← hp] at htl
  have hun := hunf p.1 p.2.1 p.2.2 hp.symm
  obtain ⟨count, z0, ok0⟩ := p
  simp only at HTP htl hun
  have HUN := hidn hun
  clear h hxB hunf hp hun
  go_enter Try.func15, Try.ntmps15
  go_wp2_with fail
  refine HT0.out.mono ?_
  intro e w1 ht
  obtain ⟨a1, l1, c1, rfl, hB1, hlc1, hcm1, hb1, hx1⟩ := HTP.out e w1 ht
  have HB1 := hidn hb1
  have HR1 : Hid (BsB w1 w.heap.size a1 l1 z0) := hidn ⟨hB1, hx1⟩
  clear ht hB1 hb1 hx1
  cases ok0 with
  | false =>
    have HN : Hid (refUnp zs = none) := hidn (by rw [HUN.out, if_pos (.inl rfl)])
    go_wp2_with fail
    go_ret2
    exact ru_fail HB1.out HN.out
  | true =>
    by_cases hbig : 100000 < count
    · have hbig2 : (100000 : Int) < (count : Int) := by omega
      have HN : Hid (refUnp zs = none) := hidn (by rw [HUN.out, if_pos (.inr hbig)])
      go_wp2_with fail
      go_ret2
      exact ru_fail HB1.out HN.out
    · have hbig2 : ¬ (100000 : Int) < (count : Int) := by omega
      have HF1 : Hid (∀ k, k ≤ (count + 7) / 8 → runF (some (0, [], z0)) k = none → refUnp zs = none) := hidn (fun k hk hn => by
        have := runF_none _ k hn ((count + 7) / 8 - k)
        rw [show k + ((count + 7) / 8 - k) = (count + 7) / 8 from by omega] at this
        rw [HUN.out, if_neg (by simp; omega), this])
      have HF2 : Hid (∀ la fs z i, runF (some (0, [], z0)) ((count + 7) / 8) = some (la, fs, z) → i ≤ count → runL fs (some ([], z)) i = none → refUnp zs = none) := hidn (fun la fs z i h1 hi hn => by
        have := runL_none fs _ i hn (count - i)
        rw [show i + (count - i) = count from by omega] at this
        rw [HUN.out, if_neg (by simp; omega), h1]
        simp only
        rw [this])
      have HF3 : Hid (∀ la fs z l y, runF (some (0, [], z0)) ((count + 7) / 8) = some (la, fs, z) → runL fs (some ([], z)) count = some (l, y) → refUnp zs = if canP (up l) = true ∧ packB l = zs then some l else none) := hidn (fun la fs z l y h1 h2 => by
        rw [HUN.out, if_neg (by simp; omega), h1]
        simp only
        rw [h2])
      have HOK := hidn (runF_ok z0)
      clear HUN HTP HT0
      go_wp2_with fail
      go_loopw [5, 7, 8, 9] (fun rv fv lv iv wr => ∃ (k fr la rl rc fl fc : Nat) (ra fa : Option Addr) (fs z : List Nat), Hid (fr = 8 * k) ∧ fr < count + 8 ∧ iv = .int .i64 (fr : Int) ∧ lv = .int .i64 (la : Int) ∧ la ≤ 2147483647 ∧ rv = .slice ra rl rc ∧ rl ≤ rc ∧ rc ≤ maxLen ∧ fv = .slice fa fl fc ∧ Hid (fl = (up fs).length) ∧ fl ≤ 13000 ∧ Hid (runF (some (0, [], z0)) k = some (la, fs, z)) ∧ Hid (wr.ownsRow w.heap.size 3 1 (.slice fa fl fc) (up fs).length (ivs (up fs))) ∧ Hid (BsB wr w.heap.size ra rl z) ∧ Hid (Below w.heap.size w wr)) (fun _ _ _ iv _ => count + 8 - (intOf iv).toNat)
      case atStart => exact ⟨0, 0, 0, l1, c1, 0, 0, a1, none, [], z0, hidn rfl, by omega, rfl, rfl, by omega, rfl, hlc1, hcm1, rfl, hidn rfl, by omega, hidn rfl, hidn (World.ownsRow_nil _ _ _ _), HR1, HB1⟩
      case round =>
        obtain ⟨k, fr, la, rl, rc, fl, fc, ra, fa, fs, z, HFR, hfr, rfl, rfl, hla, rfl, hrc, hrm, rfl, HFL, hfl, HRF, HO, HZ, HBB⟩ := hrel
        by_cases hlt : fr < count
        · have hlt2 : (fr : Int) < (count : Int) := by omega
          have HT1 := hidn (refTake_any ra rl rc z wr HZ.out.1 hrc hrm w.heap.size HZ.out.2)
          have hn1 := tkR_lt z
          obtain ⟨p1, hp1⟩ : ∃ p1, p1 = tkR z := ⟨_, rfl⟩
          have HTP1 : Hid (∀ e w', TkP w.heap.size wr z e w' → ∃ a l c, e = .returned (.tuple #[.int .i64 (p1.1 : Int), .slice a l c, .bool p1.2.2]) ∧ Bs w' a l p1.2.1 ∧ l ≤ c ∧ c ≤ maxLen ∧ Below wr.heap.size wr w' ∧ ∀ x, a = some x → 0 < l → x.block < w.heap.size) := hidn (by rw [hp1]; exact fun e w' h => h)
          have HST : Hid (runF (some (0, [], z0)) (k + 1) = if p1.2.2 = false ∨ (tkR p1.2.1).2.2 = false ∨ 2147483647 < p1.1 + la then none else some (la + p1.1, fs ++ [la + p1.1], (tkR p1.2.1).2.1)) := hidn (by show stepF (runF _ k) = _; rw [HRF.out, hp1]; rfl)
          have HFK : Hid (k + 1 ≤ (count + 7) / 8) := hidn (by have := HFR.out; omega)
          rw [← hp1] at hn1
          obtain ⟨n1, z1, ok1⟩ := p1
          simp only at hn1 HTP1 HST
          clear hp1
          go_wp2_with fail
          refine HT1.out.mono ?_
          intro e w2 ht
          obtain ⟨a2, l2, c2, rfl, hB2, hlc2, hcm2, hb2, hx2⟩ := HTP1.out e w2 ht
          have HT2 := hidn (refTake_any a2 l2 c2 z1 w2 hB2 hlc2 hcm2 w.heap.size hx2)
          obtain ⟨p2, hp2⟩ : ∃ p2, p2 = tkR z1 := ⟨_, rfl⟩
          have HTP2 : Hid (∀ e w', TkP w.heap.size w2 z1 e w' → ∃ a l c, e = .returned (.tuple #[.int .i64 (p2.1 : Int), .slice a l c, .bool p2.2.2]) ∧ Bs w' a l p2.2.1 ∧ l ≤ c ∧ c ≤ maxLen ∧ Below w2.heap.size w2 w' ∧ ∀ x, a = some x → 0 < l → x.block < w.heap.size) := hidn (by rw [hp2]; exact fun e w' h => h)
          rw [← hp2] at HST
          obtain ⟨n2, z2, ok2⟩ := p2
          simp only at HTP2 HST
          have HBW := hidn hb2
          clear ht hp2 hB2 hb2 hx2 HT1 HTP1
          go_wp2_with fail
          refine HT2.out.mono ?_
          intro e w3 ht
          obtain ⟨a3, l3, c3, rfl, hB3, hlc3, hcm3, hb3, hx3⟩ := HTP2.out e w3 ht
          have b13 := HBW.out.trans (hb3.mono HBW.out.size)
          have HB3 := hidn (HBB.out.trans (b13.mono HBB.out.size))
          have HO3 := hidn (own_skip HO.out b13)
          have HZ3 : Hid (BsB w3 w.heap.size a3 l3 z2) := hidn ⟨hB3, hx3⟩
          clear ht hB3 hb3 hx3 b13 HT2 HTP2 HO HZ
          cases ok1 with
          | false =>
            have HN : Hid (refUnp zs = none) := hidn (HF1.out (k + 1) HFK.out (by rw [HST.out, if_pos (.inl rfl)]))
            go_wp2_with fail
            go_ret2
            exact ru_fail HB3.out HN.out
          | true =>
            cases ok2 with
            | false =>
              have HN : Hid (refUnp zs = none) := hidn (HF1.out (k + 1) HFK.out (by rw [HST.out, if_pos (.inr (.inl rfl))]))
              go_wp2_with fail
              go_ret2
              exact ru_fail HB3.out HN.out
            | true =>
              obtain ⟨m, hm⟩ : ∃ m, m = 2147483647 - la := ⟨_, rfl⟩
              have hm1 : (2147483647 : Int) - (la : Int) = (m : Int) := by omega
              by_cases hgt : m < n1
              · have hgt2 : (m : Int) < (n1 : Int) := by omega
                have HN : Hid (refUnp zs = none) := hidn (HF1.out (k + 1) HFK.out (by rw [HST.out, if_pos (.inr (.inr (by omega)))]))
                clear hm
                go_wp2_with fail
                go_ret2
                exact ru_fail HB3.out HN.out
              · have hgt2 : ¬ (m : Int) < (n1 : Int) := by omega
                obtain ⟨y, hy⟩ : ∃ y, y = la + n1 := ⟨_, rfl⟩
                have hy1 : (la : Int) + (n1 : Int) = (y : Int) := by omega
                have hyb : y ≤ 2147483647 := by omega
                have HST2 : Hid (runF (some (0, [], z0)) (k + 1) = some (y, fs ++ [y], z2)) := hidn (by rw [HST.out, if_neg (by simp; omega), hy])
                obtain ⟨v', W', hrun, ho', hb'⟩ := appI (l := up fs) HO3.out HB3.out.size (y : Int) (by rw [← HFL.out]; omega)
                rw [← up_snoc2] at ho'
                obtain ⟨fa2, fc2, e2⟩ := own_slice ho'
                subst e2
                have hul2 : (up (fs ++ [y])).length = fl + 1 := by rw [up_snoc2, List.length_append, ← HFL.out]; rfl
                have HUL2 : Hid (fl + 1 = (up (fs ++ [y])).length) := hidn hul2.symm
                rw [hul2] at hrun
                have HO2 : Hid (W'.ownsRow w.heap.size 3 1 (.slice fa2 (fl + 1) fc2) (up (fs ++ [y])).length (ivs (up (fs ++ [y])))) := hidn (by rw [← hul2]; exact ho')
                have HB4 := hidn (HB3.out.trans hb')
                have HZ4 := hidn (HZ3.out.bel hb')
                have HRUN := hidn hrun
                have hflb : fl + 1 ≤ 13000 := by
                  have h1 := (HOK.out (k + 1) _ _ _ HST2.out).2.1
                  have h2 := HUL2.out
                  rw [up_len, h1] at h2
                  have := HFK.out
                  omega
                clear hrun ho' hb' hul2 hm hy hgt
                go_wp2_with (at_builtin; refine wpList_app_run2 rfl _ _ 22 22 rfl rfl _ _ _ rfl rfl HRUN.out ?_; clear HRUN)
                go_roundw
                case rel => exact ⟨k + 1, fr + 8, y, l3, c3, fl + 1, fc2, a3, fa2, fs ++ [y], z2, hidn (by have := HFR.out; omega), by omega, by first | rfl | simp, by first | rfl | simp, hyb, rfl, hlc3, hcm3, rfl, HUL2, hflb, HST2, HO2, HZ4, HB4⟩
                case measure => simp [intOf]; omega
        · have hlt2 : ¬ (fr : Int) < (count : Int) := by omega
          have HKE : Hid (k = (count + 7) / 8) := hidn (by have := HFR.out; omega)
          have hnb := (HOK.out k _ _ _ HRF.out).2.1
          have hfle : fl = (count + 7) / 8 := by rw [HFL.out, up_len, hnb, HKE.out]
          have HFM := hidn ((HOK.out k _ _ _ HRF.out).2.2)
          rw [HKE.out] at HRF
          obtain ⟨wo, hwo⟩ : ∃ wo, wo = wr := ⟨_, rfl⟩
          subst hwo
          obtain ⟨a9, c9, e9, hI9, hc9⟩ := ils_of_own HO.out
          injection e9 with e91 e92 e93
          subst e91 e93
          clear e92
          rw [← HFL.out] at hI9 hc9
          have HI9 := hidn hI9
          have HLK := hidn (runL_ok fs z 4294967296 rfl HFM.out)
          have HNL : Hid (fl = fs.length) := hidn (by rw [HFL.out, up_len])
          clear hI9 hnb HO
          go_wp2_with fail
          go_loopw [5, 15, 72] (fun rv lv iv wr => ∃ (i rl rc ll lc : Nat) (ra la' : Option Addr) (l y : List Nat), i ≤ count ∧ iv = .int .i64 (i : Int) ∧ rv = .slice ra rl rc ∧ rl ≤ rc ∧ rc ≤ maxLen ∧ lv = .slice la' ll lc ∧ Hid (ll = (up l).length) ∧ Hid (ll = i) ∧ ll ≤ 100000 ∧ Hid (runL fs (some ([], z)) i = some (l, y)) ∧ Hid (wr.ownsRow wo.heap.size 3 1 (.slice la' ll lc) (up l).length (ivs (up l))) ∧ Hid (BsB wr w.heap.size ra rl y) ∧ Hid (Below wo.heap.size wo wr)) (fun _ _ iv _ => count - (intOf iv).toNat)
          case atStart => exact ⟨0, rl, rc, 0, 0, ra, none, [], z, by omega, rfl, rfl, hrc, hrm, rfl, hidn rfl, hidn rfl, by omega, hidn rfl, hidn (World.ownsRow_nil _ _ _ _), HZ, hidn (Below.refl _ _)⟩
          case round =>
            obtain ⟨i, rl, rc, ll, lc, ra, la', l, y, hi, rfl, rfl, hrc, hrm, rfl, HLL, HLI, hll, HRL, HO, HZ, HB2⟩ := hrel
            by_cases hil : i < count
            · have hil2 : (i : Int) < (count : Int) := by omega
              obtain ⟨r8, hr8⟩ : ∃ r8, r8 = i % 8 := ⟨_, rfl⟩
              have hr81 : (i : Int) % 8 = (r8 : Int) := by omega
              have HR8 := hidn hr8
              have HWS := hidn (HBB.out.size)
              by_cases h8 : r8 = 0
              · have h82 : ((r8 : Int) == 0) = true := by rw [h8]; rfl
                obtain ⟨q, hq⟩ : ∃ q, q = i / 8 := ⟨_, rfl⟩
                have hq1 : (i : Int) / 8 = (q : Int) := by omega
                have hql : q < fl := by omega
                have hql2 : (q : Int) < (fl : Int) := by omega
                obtain ⟨b, off, ea, hcq⟩ := (HI9.out.below HB2.out).at (up_get (xs := fs) (i := q) (by rw [← HNL.out]; exact hql))
                obtain ⟨v, hv⟩ : ∃ v, v = nD fs q := ⟨_, rfl⟩
                rw [← hv] at hcq
                have HSL : Hid (runL fs (some ([], z)) (i + 1) = some (l ++ [v], y)) := hidn (by
                  show stepL fs i (runL _ _ i) = _
                  rw [HRL.out]
                  unfold stepL
                  simp only
                  rw [if_pos (by rw [← HR8.out]; exact h8), hv, hq])
                obtain ⟨v', W', hrun, ho', hb'⟩ := appI (l := up l) HO.out HB2.out.size (v : Int) (by rw [← HLL.out]; omega)
                rw [← up_snoc2] at ho'
                obtain ⟨la2, lc2, e2⟩ := own_slice ho'
                subst e2
                have hul2 : (up (l ++ [v])).length = ll + 1 := by rw [up_snoc2, List.length_append, ← HLL.out]; rfl
                have HUL2 : Hid (ll + 1 = (up (l ++ [v])).length) := hidn hul2.symm
                rw [hul2] at hrun
                have HO2 : Hid (W'.ownsRow wo.heap.size 3 1 (.slice la2 (ll + 1) lc2) (up (l ++ [v])).length (ivs (up (l ++ [v])))) := hidn (by rw [← hul2]; exact ho')
                have HB4 := hidn (HB2.out.trans hb')
                have HZ4 := hidn (HZ.out.bel (hb'.mono HWS.out))
                have HRUN := hidn hrun
                have HEA := hidn ea
                subst ea
                clear hrun ho' hb' hul2 hv hq hr8 h8 HO HZ HEA hfle
                go_wp2_with (at_builtin; refine wpList_app_run2 rfl _ _ 22 22 rfl rfl _ _ _ rfl rfl HRUN.out ?_; clear HRUN)
                go_roundw
                case rel => exact ⟨i + 1, rl, rc, ll + 1, lc2, ra, la2, l ++ [v], y, by omega, by first | rfl | simp, rfl, hrc, hrm, rfl, HUL2, hidn (by have := HLI.out; omega), by have := HLI.out; omega, HSL, HO2, HZ4, HB4⟩
                case measure => simp [intOf]; omega
              · have h82 : ((r8 : Int) == 0) = false := beq_eq_false_iff_ne.2 (by omega)
                have HT1 := hidn (refTake_any ra rl rc y wr HZ.out.1 hrc hrm w.heap.size HZ.out.2)
                have hn1 := tkR_lt y
                obtain ⟨p1, hp1⟩ : ∃ p1, p1 = tkR y := ⟨_, rfl⟩
                have HTP1 : Hid (∀ e w', TkP w.heap.size wr y e w' → ∃ a l c, e = .returned (.tuple #[.int .i64 (p1.1 : Int), .slice a l c, .bool p1.2.2]) ∧ Bs w' a l p1.2.1 ∧ l ≤ c ∧ c ≤ maxLen ∧ Below wr.heap.size wr w' ∧ ∀ x, a = some x → 0 < l → x.block < w.heap.size) := hidn (by rw [hp1]; exact fun e w' h => h)
                have HST : Hid (runL fs (some ([], z)) (i + 1) = if p1.2.2 = false ∨ 2147483647 < p1.1 then none else some (l ++ [nD l (i - 1) + p1.1 + 1], p1.2.1)) := hidn (by
                  show stepL fs i (runL _ _ i) = _
                  rw [HRL.out]
                  unfold stepL
                  simp only
                  rw [if_neg (by rw [← HR8.out]; exact h8), hp1])
                rw [← hp1] at hn1
                obtain ⟨n1, z1, ok1⟩ := p1
                simp only at hn1 HTP1 HST
                have hi1 : 0 < i := by omega
                obtain ⟨j, hj⟩ : ∃ j, i = j + 1 := ⟨i - 1, by omega⟩
                have hj1 : (i : Int) - 1 = (j : Int) := by omega
                have HJ : Hid (i - 1 = j) := hidn (by omega)
                have hjl : j < ll := by have := HLI.out; omega
                have hjl2 : (j : Int) < (ll : Int) := by omega
                have hj0 : (0 : Int) ≤ (j : Int) := by omega
                have hpb := (HLK.out i l y HRL.out).2 j
                have hpl := (HLK.out i l y HRL.out).1
                obtain ⟨pv, hpv⟩ : ∃ pv, pv = nD l j := ⟨_, rfl⟩
                have hpb2 : pv ≤ 500000000000000 := by rw [hpv]; omega
                have HPV := hidn hpv
                have HPL := hidn hpl
                clear hp1 hj hpb hpv hr8 h8 hpl hfle
                go_wp2_with fail
                refine HT1.out.mono ?_
                intro e w2 ht
                obtain ⟨a2, l2, c2, rfl, hB2, hlc2, hcm2, hb2, hx2⟩ := HTP1.out e w2 ht
                have HB3 := hidn (HB2.out.trans (hb2.mono HB2.out.size))
                have HO3 := hidn (own_skip HO.out hb2)
                have HZ3 : Hid (BsB w2 w.heap.size a2 l2 z1) := hidn ⟨hB2, hx2⟩
                have HB0 := hidn (HBB.out.trans (HB3.out.mono HWS.out))
                clear ht hB2 hb2 hx2 HT1 HTP1 HO HZ
                cases ok1 with
                | false =>
                  have HN : Hid (refUnp zs = none) := hidn (HF2.out la fs z (i + 1) HRF.out (by omega) (by rw [HST.out, if_pos (.inl rfl)]))
                  go_wp2_with fail
                  go_ret2
                  exact ru_fail HB0.out HN.out
                | true =>
                  by_cases hgt : 2147483647 < n1
                  · have hgt2 : (2147483647 : Int) < (n1 : Int) := by omega
                    have HN : Hid (refUnp zs = none) := hidn (HF2.out la fs z (i + 1) HRF.out (by omega) (by rw [HST.out, if_pos (.inr hgt)]))
                    go_wp2_with fail
                    go_ret2
                    exact ru_fail HB0.out HN.out
                  · have hgt2 : ¬ (2147483647 : Int) < (n1 : Int) := by omega
                    obtain ⟨v, hv⟩ : ∃ v, v = pv + n1 + 1 := ⟨_, rfl⟩
                    have hv1 : (pv : Int) + (n1 : Int) + 1 = (v : Int) := by omega
                    have HSL : Hid (runL fs (some ([], z)) (i + 1) = some (l ++ [v], z1)) := hidn (by rw [HST.out, if_neg (by simp; omega), HJ.out, ← HPV.out, hv])
                    obtain ⟨aq, cq, eq, hIq, hcq⟩ := ils_of_own HO3.out
                    injection eq with eq1 eq2 eq3
                    subst eq1 eq3
                    clear eq2
                    obtain ⟨b, off, ea, hcell⟩ := hIq.at (up_get (xs := l) (i := j) (by rw [HPL.out]; have := HJ.out; omega))
                    rw [← HPV.out] at hcell
                    obtain ⟨v', W', hrun, ho', hb'⟩ := appI (l := up l) HO3.out HB3.out.size (v : Int) (by rw [← HLL.out]; omega)
                    rw [← up_snoc2] at ho'
                    obtain ⟨la2, lc2, e2⟩ := own_slice ho'
                    subst e2
                    have hul2 : (up (l ++ [v])).length = ll + 1 := by rw [up_snoc2, List.length_append, ← HLL.out]; rfl
                    have HUL2 : Hid (ll + 1 = (up (l ++ [v])).length) := hidn hul2.symm
                    rw [hul2] at hrun
                    have HO2 : Hid (W'.ownsRow wo.heap.size 3 1 (.slice la2 (ll + 1) lc2) (up (l ++ [v])).length (ivs (up (l ++ [v])))) := hidn (by rw [← hul2]; exact ho')
                    have HB4 := hidn (HB3.out.trans hb')
                    have HZ4 := hidn (HZ3.out.bel (hb'.mono HWS.out))
                    have HRUN := hidn hrun
                    subst ea
                    clear hrun ho' hb' hul2 hv hIq hcq HO3
                    go_wp2_with (at_builtin; refine wpList_app_run2 rfl _ _ 22 22 rfl rfl _ _ _ rfl rfl HRUN.out ?_; clear HRUN)
                    go_roundw
                    case rel => exact ⟨i + 1, l2, c2, ll + 1, lc2, a2, la2, l ++ [v], z1, by omega, by first | rfl | simp, rfl, hlc2, hcm2, rfl, HUL2, hidn (by have := HLI.out; omega), by have := HLI.out; omega, HSL, HO2, HZ4, HB4⟩
                    case measure => simp [intOf]; omega
            · have hil2 : ¬ (i : Int) < (count : Int) := by omega
              have hic : i = count := by omega
              have HRC : Hid (runL fs (some ([], z)) count = some (l, y)) := hidn (by rw [← hic]; exact HRL.out)
              have hres := HF3.out la fs z l y HRF.out HRC.out
              obtain ⟨aq, cq, eq, hIq, hcq⟩ := ils_of_own HO.out
              injection eq with eq1 eq2 eq3
              subst eq1 eq3
              clear eq2
              have hcmq : lc ≤ maxLen := by have q := HO.out; rw [← HLL.out] at q; exact (own_capI q).2
              rw [← HLL.out] at hIq hcq
              have HW0 := hidn (HBB.out.trans (HB2.out.mono HBB.out.size))
              have HOF := hidn (own_lower HO.out HBB.out.size)
              cases hc : canP (up l) with
              | false =>
                have HN : Hid (refUnp zs = none) := hidn (by rw [hres, hc]; rfl)
                have HP := hidn (refPack_no la' ll lc (up l) wr hIq hc)
                clear hres hc hIq hcq hic hcmq HO hfle
                go_wp2_with fail
                refine HP.out.mono ?_
                rintro e w5 ⟨rfl, b5⟩
                have HB5 := hidn (HW0.out.trans (b5.mono HW0.out.size))
                clear b5
                go_wp2_with fail
                go_ret2
                exact ru_fail HB5.out HN.out
              | true =>
                have HP := hidn (refPack_yes la' ll lc l wr hIq (canP_riseN hc) hc hcq (by omega))
                have hres2 : refUnp zs = if packB l = zs then some l else none := by rw [hres, hc]; simp
                have HRES := hidn hres2
                clear hres hres2 hc hIq hcq hic hcmq HO hfle
                go_wp2_with fail
                refine HP.out.mono ?_
                rintro e w5 ⟨b5, v, rfl, own5⟩
                obtain ⟨va, vc, rfl, hbs⟩ := bs_of_own own5 (packB_lt l)
                have HB5 := hidn (HW0.out.trans (b5.mono HW0.out.size))
                have h1 := hbs.str (cap := vc)
                have h2 := (HB.out.below HB5.out).str (cap := cap)
                have HOF5 := hidn (own_skip HOF.out b5)
                by_cases heq : packB l = zs
                · have hz : ((strB (packB l)).toList == (strB zs).toList) = true := by rw [heq]; exact beq_self_eq_true _
                  have hz2 : ((strB (packB l)).toList != (strB zs).toList) = false := by rw [bne, hz]; rfl
                  have HR6 : Hid (refUnp zs = some l) := hidn (by rw [HRES.out, if_pos heq])
                  obtain ⟨pl, hpl⟩ : ∃ pl, pl = (packB l).length := ⟨_, rfl⟩
                  rw [← hpl] at h1 ⊢
                  generalize strB (packB l) = s1 at *
                  generalize strB zs = s2 at *
                  clear heq hpl own5 hbs b5
                  go_wp2_with fail
                  go_ret2
                  exact ⟨HB5.out, .inr ⟨l, _, HR6.out, rfl, HOF5.out⟩⟩
                · have hz : ((strB (packB l)).toList == (strB zs).toList) = false := by
                    rw [beq_eq_false_iff_ne]
                    intro e
                    exact heq ((strB_inj (packB_lt l) HB.out.2.2.1).1 e)
                  have hz2 : ((strB (packB l)).toList != (strB zs).toList) = true := by rw [bne, hz]; rfl
                  have HR6 : Hid (refUnp zs = none) := hidn (by rw [HRES.out, if_neg heq])
                  obtain ⟨pl, hpl⟩ : ∃ pl, pl = (packB l).length := ⟨_, rfl⟩
                  rw [← hpl] at h1 ⊢
                  generalize strB (packB l) = s1 at *
                  generalize strB zs = s2 at *
                  clear heq hpl own5 hbs b5
                  go_wp2_with fail
                  go_ret2
                  exact ru_fail HB5.out HR6.out
end Go.Proofs.Ythmknpdhgfmogaa
