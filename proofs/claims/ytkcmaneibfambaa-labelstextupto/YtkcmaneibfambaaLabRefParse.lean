/- dryrotref07.Parse at any text. -/
import Derived.Test.YtkcmaneibfambaaLabRefWord
import Derived.Test.YtkcmaneibfambaaLabParseAny
namespace Go.Proofs.Ytkcmaneibfambaa
open Go.RowKit Go.Joins
set_option linter.unusedVariables false

theorem head_of {y : ByteArray} (hl : 0 < y.size) {c : UInt8} {z : Int} (h : ((y[0]'hl).toNat : Int) = z) (hz : z = (c.toNat : Int)) : y.data.toList = c :: y.data.toList.drop 1 := by
  have h1 := drop_cons (byte_is hl h hz)
  rwa [List.drop_zero] at h1
theorem head_ne {y : ByteArray} (hl : 0 < y.size) {c : UInt8} {z : Int} (h : ((y[0]'hl).toNat : Int) ≠ z) (hz : z = (c.toNat : Int)) : ∀ t, y.data.toList ≠ c :: t := by
  intro t ht
  obtain ⟨d, hd, hb⟩ := byte_at hl
  rw [ht] at hd
  simp at hd
  subst hd
  exact h (by rw [hb, hz])
theorem empty_ne {y : ByteArray} (hl : y.size = 0) (c : UInt8) : ∀ t, y.data.toList ≠ c :: t := by
  intro t ht
  rw [Lib.size_eq, ht] at hl
  simp at hl

set_option maxHeartbeats 8000000 in
set_option maxRecDepth 100000 in
theorem rparse_loop (s : ByteArray) (P : Option (List Lab)) (w : World) (hs : s.size ≤ 1048576) (h0 : 0 < s.size) (hq : ((s[0]'h0).toNat : Int) = 123) (hP : P = pj (s.size - 1 + 1) [] (s.data.toList.drop 1)) :
    Calls Try.prog 27 #[.string s] w (ParsePost P w) := by
  obtain ⟨i0, z, hi, hz, hzs, hby, hzc⟩ := labZero
  have HNIL := hidn (show ∀ i, (labD ([] : List Lab) i).1.size ≤ maxLen ∧ (labD ([] : List Lab) i).2.size ≤ maxLen from fun i => by unfold labD; simp)
  have g0 : ((s.size : Int) == 0) = false := beq_eq_false_iff_ne.2 (by omega)
  have d0 : (((s[0]'h0).toNat : Int) == 123) = true := beq_iff_eq.2 hq
  have d0b : (((s[0]'h0).toNat : Int) != 123) = false := by rw [bne, d0]; rfl
  have h1 : 1 ≤ s.size := h0
  obtain ⟨R0, hR0⟩ : ∃ R0, s.extract 1 s.size = R0 := ⟨_, rfl⟩
  have HR0 := hidn hR0
  have hR0l : R0.data.toList = s.data.toList.drop 1 := by rw [← hR0]; have := uq_ext s 0; rw [Nat.zero_add] at this; rw [this]; rfl
  have hR0s : R0.size = s.size - 1 := by rw [← hR0, ByteArray.size_extract]; omega
  have H1 : Hid (∃ f, R0.size < f + 1 ∧ P = pj (f + 1) [] R0.data.toList) := hidn ⟨s.size - 1, by omega, by rw [hR0l]; exact hP⟩
  have hR0b : R0.size ≤ 1048576 := by omega
  clear hP hR0l hR0s hR0 hq
  go_enter Try.func27, Try.ntmps27
  go_wp2
  rw [HR0.out]
  go_loopw [0, 4] (fun r o wr => ∃ (k : Nat) (d : List Lab) (R : ByteArray) (ov : Value), r = .string R ∧ o = ov ∧ k + R.size ≤ 1048576 ∧ Hid (d.length = k) ∧ wr.ownsRow w.heap.size 39 2 ov k (labV d) ∧ Hid (∀ i, (labD d i).1.size ≤ maxLen ∧ (labD d i).2.size ≤ maxLen) ∧ Below w.heap.size w wr ∧ Hid (∃ f, R.size < f + 1 ∧ P = pj (f + 1) d R.data.toList)) (fun r o wr => match r with | .string R => R.size | _ => 0)
  case atStart =>
    exact ⟨0, [], R0, _, rfl, rfl, by omega, rfl, World.ownsRow_nil _ _ _ _, HNIL, Below.refl _ _, H1⟩
  case round =>
    obtain ⟨k, d, R, ov, rfl, rfl, hkR, hdl, hown, hds, hbl, hY⟩ := hrel
    have hsw : w.heap.size ≤ wr.heap.size := hbl.size
    obtain ⟨ar, cr, hvr⟩ : ∃ ar cr, u4 = .slice ar k cr := by
      rcases hown.2 with ⟨h1, h2⟩ | ⟨g, cap, cur, h1, _⟩
      · exact ⟨none, 0, by rw [h1, h2]⟩
      · exact ⟨_, _, h1⟩
    subst hvr
    obtain ⟨f, hfR, hP⟩ := hY.out
    have HP := hidn hP
    have HFR := hidn hfR
    clear hP hfR hY
    have hRs : R.size ≤ 1099511627776 := by omega
    obtain ⟨N, hN⟩ : ∃ N, wordN R.data.toList = N := ⟨_, rfl⟩
    have HN := hidn hN
    obtain ⟨x1, hx1⟩ : ∃ x1, R.extract 0 (wordN R.data.toList) = x1 := ⟨_, rfl⟩
    obtain ⟨y, hy⟩ : ∃ y, R.extract (wordN R.data.toList) R.size = y := ⟨_, rfl⟩
    have HX := hidn hx1
    have HYY := hidn hy
    have HX1 : Hid (bA (R.data.toList.take (wordN R.data.toList)) = x1) := hidn (by rw [← hx1, nm_ext])
    have HYL : Hid (y.data.toList = R.data.toList.drop (wordN R.data.toList)) := hidn (by
      rw [← hy, Lib.extract_data, List.take_of_length_le (by rw [List.length_drop, ← Lib.size_eq]; exact Nat.le_refl _)])
    have hys : y.size ≤ R.size := by rw [← hy, ByteArray.size_extract]; omega
    have hx1s : x1.size ≤ R.size := by rw [← hx1, ByteArray.size_extract]; omega
    clear hN hx1 hy
    go_wp2_with fail
    refine (word_any R _ hRs).mono ?_
    rintro e w1 ⟨rfl, b1⟩
    rw [HX.out, HYY.out]
    have B1 := hbl.trans (b1.mono hbl.size)
    have hown1 := own_kept hown b1
    clear hown hbl
    by_cases hy0 : y.size = 0
    · have HPn : Hid (P = none) := hidn (by rw [HP.out]; exact pj_word (fun b hb => empty_ne hy0 61 b (by rw [HYL.out]; exact hb)))
      go_wp2
      exact bodyPost_ret (v := .tuple #[.slice none 0 0, .int .i64 5]) (by simp [results, Try.results27, go_sem]) rfl ⟨B1, .inl ⟨HPn.out, rfl⟩⟩
    have gy : ((y.size : Int) == 0) = false := beq_eq_false_iff_ne.2 (by omega)
    have hly : 0 < y.size := by omega
    have hly1 : 1 ≤ y.size := hly
    by_cases hyq : (((y[0]'hly).toNat : Int) = 61)
    · have hyl := head_of hly hyq (c := 61) rfl
      have dy : (((y[0]'hly).toNat : Int) == 61) = true := beq_iff_eq.2 hyq
      have dyb : (((y[0]'hly).toNat : Int) != 61) = false := by rw [bne, dy]; rfl
      obtain ⟨E, hE⟩ : ∃ E, y.extract 1 y.size = E := ⟨_, rfl⟩
      have HE := hidn hE
      have hEl : E = bA (y.data.toList.drop 1) := by rw [← hE]; have := uq_ext y 0; rw [Nat.zero_add] at this; exact this
      have hEs : E.size ≤ R.size - 1 := by rw [← hE, ByteArray.size_extract]; omega
      have HEs := hidn hEs
      have hEs2 : E.size ≤ 1099511627776 := by omega
      have HCE : Hid (cutE R.data.toList = some (R.data.toList.take (wordN R.data.toList), y.data.toList.drop 1)) := hidn (word_cut (by rw [← HYL.out]; exact hyl))
      have HEL : Hid (bA (y.data.toList.drop 1) = E) := hidn hEl.symm
      clear hyl hyq hE hEl hEs
      go_wp2_with fail
      rw [HE.out]
      refine (refUnq_any E _ hEs2).mono ?_
      rintro e w2 ⟨rfl, b2⟩
      have B2 := B1.trans (b2.mono B1.size)
      have hown2 := own_kept hown1 b2
      clear hown1 B1
      cases hO : uqO E with
      | none =>
        obtain ⟨k1, k2, k3⟩ := uq_none hO
        have HPn : Hid (P = none) := hidn (by rw [HP.out]; exact pj_nouq HCE.out (by rw [HEL.out]; exact hO))
        rw [k1, k2, k3]
        clear hO k1 k2 k3
        go_wp2
        exact bodyPost_ret (v := .tuple #[.slice none 0 0, .int .i64 5]) (by simp [results, Try.results27, go_sem]) rfl ⟨B2, .inl ⟨HPn.out, rfl⟩⟩
      | some p =>
        obtain ⟨v, r⟩ := p
        obtain ⟨k1, k2, k3⟩ := uq_some hO
        obtain ⟨x2, hx2⟩ : ∃ x2 : ByteArray, (⟨v.toArray⟩ : ByteArray) = x2 := ⟨_, rfl⟩
        obtain ⟨T, hT⟩ : ∃ T : ByteArray, (⟨r.toArray⟩ : ByteArray) = T := ⟨_, rfl⟩
        have HX2 : Hid (bA v = x2) := hidn hx2
        have hTl : T.data.toList = r := by rw [← hT]
        have HTl := hidn hTl
        have hlen := uqO_len hO
        have hx2s : x2.size = v.length := by rw [Lib.size_eq, ← hx2]
        have hTs : T.size = r.length := by rw [Lib.size_eq, ← hT]
        have HOE : Hid (uqO (bA (y.data.toList.drop 1)) = some (v, r)) := hidn (by rw [HEL.out]; exact hO)
        have HSD := hidn (sizes_append d (x1, x2) hds.out ⟨by show x1.size ≤ _; unfold maxLen; omega, by show x2.size ≤ _; have := HEs.out; unfold maxLen; omega⟩)
        have HDL : Hid ((d ++ [(x1, x2)]).length = k + 1) := hidn (by rw [List.length_append, hdl.out]; rfl)
        have HTR : Hid (T.size + 1 ≤ R.size) := hidn (by have := HEs.out; omega)
        rw [k1, k2, k3, hx2, hT]
        clear hO k1 k2 k3 hx2 hT hlen hx2s hTs hTl
        by_cases hT0 : T.size = 0
        · have HPn : Hid (P = none) := hidn (by
            have h1 : r = [] := List.length_eq_zero_iff.1 (by rw [← HTl.out, ← Lib.size_eq]; exact hT0)
            rw [HP.out, pj_last HCE.out HOE.out (fun t ht => by rw [h1] at ht; cases ht), h1, endP_empty])
          go_wp2
          exact bodyPost_ret (v := .tuple #[.slice none 0 0, .int .i64 5]) (by simp [results, Try.results27, go_sem]) rfl ⟨B2, .inl ⟨HPn.out, rfl⟩⟩
        have gT : ((T.size : Int) == 0) = false := beq_eq_false_iff_ne.2 (by omega)
        have hlT : 0 < T.size := by omega
        have hlT1 : 1 ≤ T.size := hlT
        by_cases hk8 : 8 ≤ k
        · have HPn : Hid (P = none) := hidn (by rw [HP.out]; exact pj_long (by rw [hdl.out]; exact hk8))
          have hk8i : (8 : Int) ≤ (k : Int) := by omega
          go_wp2
          exact bodyPost_ret (v := .tuple #[.slice none 0 0, .int .i64 5]) (by simp [results, Try.results27, go_sem]) rfl ⟨B2, .inl ⟨HPn.out, rfl⟩⟩
        have hk8i : ¬ (8 : Int) ≤ (k : Int) := by omega
        have hk8n : k < 8 := by omega
        obtain ⟨R2, hR2⟩ : ∃ R2, T.extract 1 T.size = R2 := ⟨_, rfl⟩
        have HR2 := hidn hR2
        have HR2l : Hid (R2.data.toList = r.drop 1) := hidn (by rw [← hR2, ← HTl.out]; have := uq_ext T 0; rw [Nat.zero_add] at this; rw [this]; rfl)
        have HR2s : Hid (R2.size + 1 = T.size) := hidn (by rw [← hR2, ByteArray.size_extract]; omega)
        have hs2 : w.heap.size ≤ w2.heap.size := B2.size
        clear hR2
        go_wp2_with (at_builtin; refine wpList_append_own _ rfl _ _ 22 rfl w.heap.size 39 i0 z 2 32 Try.underlying22 hi hz hzs hby hzc (by decide) _ k (labV d) rfl (own_kept hown2 ((Below.refl _ _).alloc (Nat.le_refl _) _)) ⟨w2.heap.size, 0, none⟩ 1 1 [.string x1, .string x2] rfl rfl ?c1 ?c2 ?c3 ?c4 ?c5 ?_)
        case c1 =>
          intro j u hj
          match j, hj with
          | 0, hj => simp at hj; subst hj; simp [Addr.add]
          | 1, hj => simp at hj; subst hj; simp [Addr.add]
        case c2 =>
          intro u hu
          simp at hu
          rcases hu with rfl | rfl <;> rfl
        case c3 => unfold maxLen; omega
        case c4 => omega
        case c5 => simp; omega
        intro v' w3 own4 hgrow3 _
        have B3 : Below w.heap.size w w3 := (B2.alloc hs2 _).grown hgrow3 (by simp; omega) (fun j hj => own_lt hown2 j hj)
        have HO : Hid (w3.ownsRow w.heap.size 39 2 v' (k + 1) (labV (d ++ [(x1, x2)]))) := hidn (by rw [labV_snoc]; exact own4)
        obtain ⟨ar3, cr3, hv3⟩ : ∃ ar cr, v' = .slice ar (k + 1) cr := by
          rcases HO.out.2 with ⟨h1, h2⟩ | ⟨g, cap, cur, h1, _⟩
          · omega
          · exact ⟨_, _, h1⟩
        subst hv3
        clear hown2 own4 hgrow3 B2
        by_cases hT4 : (((T[0]'hlT).toNat : Int) = 44)
        · have hTl2 := head_of hlT hT4 (c := 44) rfl
          have dT : (((T[0]'hlT).toNat : Int) == 44) = true := beq_iff_eq.2 hT4
          have HPn : Hid (P = pj f (d ++ [(x1, x2)]) R2.data.toList) := hidn (by
            rw [HP.out, HR2l.out, ← HX1.out, ← HX2.out]
            rw [HTl.out] at hTl2
            exact pj_more HCE.out (by rw [HOE.out, ← hTl2]))
          obtain ⟨g, hg⟩ : ∃ g, f = g + 1 := ⟨f - 1, by have := HFR.out; have := HTR.out; have := HR2s.out; omega⟩
          have HPg : Hid (∃ f, R2.size < f + 1 ∧ P = pj (f + 1) (d ++ [(x1, x2)]) R2.data.toList) := hidn ⟨g, by have := HFR.out; have := HTR.out; have := HR2s.out; omega, by rw [← hg]; exact HPn.out⟩
          have hle : Hid (R2.size + 2 ≤ R.size) := hidn (by have := HTR.out; have := HR2s.out; omega)
          clear hT4 hTl2 hg
          go_wp2
          rw [HR2.out]
          exact ⟨⟨k + 1, _, R2, _, rfl, rfl, by have := hle.out; omega, HDL, HO.out, HSD, B3, HPg⟩, by show R2.size < R.size; have := hle.out; omega⟩
        · have HPe : Hid (P = endP (d ++ [(x1, x2)]) r) := hidn (by
            have hn := head_ne hlT hT4 (c := 44) rfl
            rw [HTl.out] at hn
            rw [HP.out, ← HX1.out, ← HX2.out]
            exact pj_last HCE.out HOE.out hn)
          have dT : (((T[0]'hlT).toNat : Int) == 44) = false := beq_eq_false_iff_ne.2 hT4
          clear hT4
          by_cases hT5 : (((T[0]'hlT).toNat : Int) = 125)
          · have hTl2 := head_of hlT hT5 (c := 125) rfl
            have dT5 : (((T[0]'hlT).toNat : Int) == 125) = true := beq_iff_eq.2 hT5
            have dT5b : (((T[0]'hlT).toNat : Int) != 125) = false := by rw [bne, dT5]; rfl
            rw [HTl.out] at hTl2
            clear hT5
            by_cases hR20 : R2 = ⟨#[]⟩
            · subst hR20
              have hr1 : r = [125] := by
                have := HR2l.out
                rw [← this] at hTl2
                exact hTl2
              obtain ⟨al, cl, hvl, hLs⟩ := ls_of_own HO.out HSD.out
              injection hvl with e1 e2 e3
              subst e1
              have HR1 := hidn hr1
              have hk9 : k + 1 ≤ 140737488355328 := by omega
              have HLs := hidn hLs
              clear e2 e3 hTl2 hr1 hLs
              have hXe : (T.extract 1 T.size).toList = [] := by rw [HR2.out]; decide +kernel
              have hXb : ((T.extract 1 T.size).toList == []) = true := by rw [hXe]; rfl
              have hXc : ((T.extract 1 T.size).toList != []) = false := by rw [hXe]; rfl
              go_wp2_with (fail)
              refine (refCan_any ar3 (k + 1) cr3 _ _ HLs.out hk9).mono ?_
              rintro e w4 ⟨rfl, b4⟩
              have B4 := B3.trans (b4.mono B3.size)
              cases hcan : canOK (d ++ [(x1, x2)]) with
              | false =>
                have HPn : Hid (P = none) := hidn (by rw [HPe.out]; exact endP_no _ _ hcan)
                go_wp2
                exact bodyPost_ret (v := .tuple #[.slice none 0 0, .int .i64 5]) (by simp [results, Try.results27, go_sem]) rfl ⟨B4, .inl ⟨HPn.out, rfl⟩⟩
              | true =>
                have HPn : Hid (P = some (d ++ [(x1, x2)])) := hidn (by rw [HPe.out, HR1.out]; exact endP_yes _ hcan)
                have HL : Hid (Ls w4 ar3 (d ++ [(x1, x2)]).length (d ++ [(x1, x2)])) := hidn (by rw [HDL.out]; exact HLs.out.below b4)
                have H8 := hidn ((canOK_iff _).1 hcan).2.1
                go_wp2
                go_ret2
                exact ⟨B4, .inr ⟨_, ar3, cr3, HPn.out, by rw [HDL.out]; rfl, HL.out, H8.out⟩⟩
            · have HPn : Hid (P = none) := hidn (by
                rw [HPe.out]
                refine endP_other _ _ (fun hr => hR20 ?_)
                have := HR2l.out
                rw [hr] at this
                exact bytes_eq this)
              have hXe : ¬ (T.extract 1 T.size).toList = [] := by rw [HR2.out]; exact fun h => hR20 (toList_inj (h.trans (by decide +kernel)))
              have hXb : ((T.extract 1 T.size).toList == []) = false := beq_eq_false_iff_ne.2 hXe
              have hXc : ((T.extract 1 T.size).toList != []) = true := by rw [bne, hXb]; rfl
              clear hR20 hTl2
              go_wp2
              exact bodyPost_ret (v := .tuple #[.slice none 0 0, .int .i64 5]) (by simp [results, Try.results27, go_sem]) rfl ⟨B3, .inl ⟨HPn.out, rfl⟩⟩
          · have HPn : Hid (P = none) := hidn (by
              have hn := head_ne hlT hT5 (c := 125) rfl
              rw [HTl.out] at hn
              rw [HPe.out]
              exact endP_other _ _ (hn []))
            have dT5 : (((T[0]'hlT).toNat : Int) == 125) = false := beq_eq_false_iff_ne.2 hT5
            have dT5b : (((T[0]'hlT).toNat : Int) != 125) = true := by rw [bne, dT5]; rfl
            clear hT5
            go_wp2
            exact bodyPost_ret (v := .tuple #[.slice none 0 0, .int .i64 5]) (by simp [results, Try.results27, go_sem]) rfl ⟨B3, .inl ⟨HPn.out, rfl⟩⟩
    · have HPn : Hid (P = none) := hidn (by
        have hn := head_ne hly hyq (c := 61) rfl
        rw [HP.out]
        exact pj_word (fun b hb => hn b (by rw [HYL.out]; exact hb)))
      have dy : (((y[0]'hly).toNat : Int) == 61) = false := beq_eq_false_iff_ne.2 hyq
      have dyb : (((y[0]'hly).toNat : Int) != 61) = true := by rw [bne, dy]; rfl
      clear hyq
      go_wp2
      exact bodyPost_ret (v := .tuple #[.slice none 0 0, .int .i64 5]) (by simp [results, Try.results27, go_sem]) rfl ⟨B1, .inl ⟨HPn.out, rfl⟩⟩

set_option maxHeartbeats 2000000 in
theorem rparse_none (s : ByteArray) (w : World) (hs : s.size ≤ 1048576) (hn : ∀ t, s.data.toList ≠ 123 :: t) :
    Calls Try.prog 27 #[.string s] w (ParsePost none w) := by
  by_cases h0 : s.size = 0
  · clear hn
    go_enter Try.func27, Try.ntmps27
    go_wp2
    exact bodyPost_ret (v := .tuple #[.slice none 0 0, .int .i64 5]) (by simp [results, Try.results27, go_sem]) rfl ⟨Below.refl _ _, .inl ⟨rfl, rfl⟩⟩
  have g0 : ((s.size : Int) == 0) = false := beq_eq_false_iff_ne.2 (by omega)
  have hl0 : 0 < s.size := by omega
  have hq : ((s[0]'hl0).toNat : Int) ≠ 123 := fun h => hn _ (head_of hl0 h (c := 123) rfl)
  have d0 : (((s[0]'hl0).toNat : Int) == 123) = false := beq_eq_false_iff_ne.2 hq
  have d0b : (((s[0]'hl0).toNat : Int) != 123) = true := by rw [bne, d0]; rfl
  clear hq hn
  go_enter Try.func27, Try.ntmps27
  go_wp2
  exact bodyPost_ret (v := .tuple #[.slice none 0 0, .int .i64 5]) (by simp [results, Try.results27, go_sem]) rfl ⟨Below.refl _ _, .inl ⟨rfl, rfl⟩⟩
theorem rparse_any (s : ByteArray) (w : World) (hs : s.size ≤ 1048576) : Calls Try.prog 27 #[.string s] w (ParsePost (parseP s) w) := by
  by_cases h : ∃ t, s.data.toList = 123 :: t
  · obtain ⟨t, ht⟩ := h
    have hl := Lib.size_eq s
    rw [ht] at hl
    simp only [List.length_cons] at hl
    have h0 : 0 < s.size := by omega
    obtain ⟨c, hc, hb⟩ := byte_at h0
    rw [ht] at hc
    simp at hc
    subst hc
    exact rparse_loop s _ w hs h0 hb (by rw [parseP_yes ht, ht, hl]; rfl)
  · rw [parseP_no (fun t ht => h ⟨t, ht⟩)]
    exact rparse_none s w hs (fun t ht => h ⟨t, ht⟩)
end Go.Proofs.Ytkcmaneibfambaa
