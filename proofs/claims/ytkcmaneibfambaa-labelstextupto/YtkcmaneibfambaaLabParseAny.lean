/- labels.Parse at any text. -/
import Derived.Test.YtkcmaneibfambaaLabTakeAny
namespace Go.Proofs.Ytkcmaneibfambaa
open Go.RowKit Go.Joins
set_option linter.unusedVariables false

def ParsePost (P : Option (List Lab)) (w : World) (e : Ending) (w' : World) : Prop :=
  Below w.heap.size w w' ∧ ((P = none ∧ e = .returned (.tuple #[.slice none 0 0, .int .i64 5])) ∨ ∃ d a c, P = some d ∧ e = .returned (.tuple #[.slice a d.length c, .int .i64 0]) ∧ Ls w' a d.length d ∧ d.length ≤ 8)
theorem pre_no (c : UInt8) (l : List UInt8) (h : ∀ t, l ≠ c :: t) : Lib.hasPrefix l [c] = false ∧ Lib.trimPrefix l [c] = l := by
  cases l with
  | nil => exact ⟨rfl, rfl⟩
  | cons a t =>
    have ha : a ≠ c := fun ha => h t (by rw [ha])
    have h1 : Lib.hasPrefix (a :: t) [c] = false := by
      simp [Lib.hasPrefix, List.isPrefixOf, Ne.symm ha]
    exact ⟨h1, by simp [Lib.trimPrefix, h1]⟩
theorem parseP_yes {s : ByteArray} {t : List UInt8} (h : s.data.toList = 123 :: t) : parseP s = pj (t.length + 1) [] t := by unfold parseP; rw [h]; rfl
theorem parseP_no {s : ByteArray} (h : ∀ t, s.data.toList ≠ 123 :: t) : parseP s = none := by
  unfold parseP
  split
  · rfl
  · rename_i c t e
    split
    · rename_i hc; subst hc; exact absurd e (h t)
    · rfl
theorem uq_ext (s : ByteArray) (k : Nat) : s.extract (k + 1) s.size = bA (s.data.toList.drop (k + 1)) := by
  rw [Lib.extract_eq, List.take_of_length_le (by rw [List.length_drop, ← Lib.size_eq]; exact Nat.le_refl _)]; rfl
theorem nm_ext (s : ByteArray) (k : Nat) : s.extract 0 k = bA (s.data.toList.take k) := by
  rw [Lib.extract_eq, List.drop_zero, Nat.sub_zero]; rfl
theorem bA_back (s : ByteArray) : bA s.data.toList = s := by unfold bA; exact Lib.mk_data s

set_option maxHeartbeats 4000000 in
set_option maxRecDepth 100000 in
theorem parse_loop (s R0 : ByteArray) (m0 : Bool) (P : Option (List Lab)) (w : World) (hs : s.size ≤ 1048576) (hc1 : Lib.hasPrefix s.data.toList [123] = m0) (hc2 : (⟨(Lib.trimPrefix s.data.toList [123]).toArray⟩ : ByteArray) = R0) (hR0 : R0.size ≤ 1048576)
    (h1 : m0 = true → P = pj (R0.size + 1) [] R0.data.toList) (h2 : m0 = false → P = endP [] R0.data.toList) :
    Calls Try.prog 26 #[.string s] w (ParsePost P w) := by
  obtain ⟨i0, z, hi, hz, hzs, hby, hzc⟩ := labZero
  have HP1 := hidn hc1
  have HP2 := hidn hc2
  have HNIL := hidn (show ∀ i, (labD ([] : List Lab) i).1.size ≤ maxLen ∧ (labD ([] : List Lab) i).2.size ≤ maxLen from fun i => by unfold labD; simp)
  have H1 : Hid (m0 = true → ∃ f, R0.size < f + 1 ∧ P = pj (f + 1) [] R0.data.toList) := hidn (fun h => ⟨R0.size, by omega, h1 h⟩)
  have H2 := hidn h2
  clear hc1 hc2 h1 h2
  go_enter Try.func26, Try.ntmps26
  go_wp2_with fail
  refine (cutP s R0 123 m0 _ HP1.out HP2.out).mono ?_
  rintro e w1 ⟨rfl, rfl⟩
  go_wp2
  go_loopw [4, 5, 6] (fun r mr o wr => ∃ (k : Nat) (d : List Lab) (R : ByteArray) (m : Bool) (ov : Value), r = .string R ∧ mr = .bool m ∧ o = ov ∧ k + R.size ≤ 1048576 ∧ Hid (d.length = k) ∧ wr.ownsRow w1.heap.size 39 2 ov k (labV d) ∧ Hid (∀ i, (labD d i).1.size ≤ maxLen ∧ (labD d i).2.size ≤ maxLen) ∧ Below w1.heap.size w1 wr ∧ Hid (m = true → ∃ f, R.size < f + 1 ∧ P = pj (f + 1) d R.data.toList) ∧ Hid (m = false → P = endP d R.data.toList)) (fun r mr o wr => match r, mr with | .string R, .bool true => R.size + 1 | _, _ => 0)
  case atStart =>
    exact ⟨0, [], R0, m0, _, rfl, rfl, rfl, by omega, rfl, World.ownsRow_nil _ _ _ _, HNIL, Below.refl _ _, H1, H2⟩
  case round =>
    obtain ⟨k, d, R, m, ov, rfl, rfl, rfl, hkR, hdl, hown, hds, hbl, hY, hN⟩ := hrel
    have hsw : w1.heap.size ≤ wr.heap.size := hbl.size
    obtain ⟨ar, cr, hvr⟩ : ∃ ar cr, u6 = .slice ar k cr := by
      rcases hown.2 with ⟨h1, h2⟩ | ⟨g, cap, cur, h1, _⟩
      · exact ⟨none, 0, by rw [h1, h2]⟩
      · exact ⟨_, _, h1⟩
    subst hvr
    cases m with
    | true =>
      obtain ⟨f, hfR, hP⟩ := hY.out rfl
      have HP := hidn hP
      have HFR := hidn hfR
      clear hP hfR hN hY
      have hRs : R.size ≤ 1048576 := by omega
      rcases cut_of R.data.toList with ⟨q, hq, hix, hce⟩ | ⟨hix, hce⟩
      · have hq' : q < R.size := by rw [Lib.size_eq]; exact hq
        have HCE := hidn hce
        obtain ⟨x1, hx1⟩ : ∃ x1, R.extract 0 q = x1 := ⟨_, rfl⟩
        obtain ⟨E, hE⟩ : ∃ E, R.extract (q + 1) R.size = E := ⟨_, rfl⟩
        have HX1 : Hid (bA (R.data.toList.take q) = x1) := hidn (by rw [← hx1, nm_ext])
        have HE : Hid (bA (R.data.toList.drop (q + 1)) = E) := hidn (by rw [← hE, uq_ext])
        have hEs : E.size ≤ R.size - (q + 1) := by rw [← hE, ByteArray.size_extract]; omega
        have hx1s : x1.size ≤ q := by rw [← hx1, ByteArray.size_extract]; omega
        have HEs := hidn hEs
        have HX1s := hidn hx1s
        clear hce hq hEs hx1s
        cases hO : uqO E with
        | none =>
          obtain ⟨k1, k2, k3⟩ := uq_none hO
          have HPn : Hid (P = none) := hidn (by rw [HP.out]; exact pj_nouq HCE.out (by rw [HE.out]; exact hO))
          clear hO
          go_wp2_with fail
          refine (take_found R x1 E ⟨#[]⟩ ⟨#[]⟩ 5 q false _ hRs hq' hix hx1 hE k1 k2 k3 rfl).mono ?_
          rintro e w2 ⟨rfl, b2⟩
          have B2 := hbl.trans (b2.mono hbl.size)
          clear k1 k2 k3 hx1 hE hix
          go_wp2
          exact bodyPost_ret (v := .tuple #[.slice none 0 0, .int .i64 5]) (by simp [results, Try.results26, go_sem]) rfl ⟨by first | exact B2 | exact B2.alloc B2.size _, .inl ⟨HPn.out, rfl⟩⟩
        | some p =>
          obtain ⟨v, r⟩ := p
          obtain ⟨k1, k2, k3⟩ := uq_some hO
          obtain ⟨x2, hx2⟩ : ∃ x2 : ByteArray, (⟨v.toArray⟩ : ByteArray) = x2 := ⟨_, rfl⟩
          obtain ⟨T, hT⟩ : ∃ T : ByteArray, (⟨r.toArray⟩ : ByteArray) = T := ⟨_, rfl⟩
          rw [hx2] at k1
          rw [hT] at k2
          have hlen := uqO_len hO
          have HX2 : Hid (bA v = x2) := hidn hx2
          have HTl : Hid (T.data.toList = r) := hidn (by rw [← hT])
          have HTs : Hid (T.size = r.length) := hidn (by rw [Lib.size_eq, ← hT])
          have hx2s : x2.size = v.length := by rw [Lib.size_eq, ← hx2]
          have HTb : Hid (T.size + 1 ≤ R.size) := hidn (by rw [HTs.out]; have := HEs.out; omega)
          have HOE : Hid (uqO (bA (R.data.toList.drop (q + 1))) = some (v, r)) := hidn (by rw [HE.out]; exact hO)
          have HSD := hidn (sizes_append d (x1, x2) hds.out ⟨by show x1.size ≤ _; have := HX1s.out; unfold maxLen; omega, by show x2.size ≤ _; have := HEs.out; unfold maxLen; omega⟩)
          have HDL : Hid ((d ++ [(x1, x2)]).length = k + 1) := hidn (by rw [List.length_append, hdl.out]; rfl)
          clear hO hlen hx2s hx2 hT
          go_wp2_with fail
          refine (take_found R x1 E x2 T 0 q true _ hRs hq' hix hx1 hE k1 k2 k3 rfl).mono ?_
          rintro e w2 ⟨rfl, b2⟩
          have B2 := hbl.trans (b2.mono hbl.size)
          have own2 := own_kept hown b2
          have hs2 : w1.heap.size ≤ w2.heap.size := B2.size
          have hk3 : k ≤ 1048576 := by omega
          clear k1 k2 k3 hx1 hE hix
          have own3 := own_kept own2 ((Below.refl _ w2).alloc (Nat.le_refl _) (.cells #[.string x1, .string x2] 39))
          clear hown own2
          go_wp2_with (at_builtin; refine wpList_append_own _ rfl _ _ 22 rfl w1.heap.size 39 i0 z 2 32 Try.underlying22 hi hz hzs hby hzc (by decide) _ k (labV d) rfl (own_kept own3 ((Below.refl _ _).alloc (Nat.le_refl _) _)) ⟨w2.heap.size + 1, 0, none⟩ 1 1 [.string x1, .string x2] rfl rfl ?c1 ?c2 ?c3 ?c4 ?c5 ?_)
          case c1 =>
            intro j u hj
            match j, hj with
            | 0, hj => simp at hj; subst hj; simp [Addr.add]
            | 1, hj => simp at hj; subst hj; simp [Addr.add]
          case c2 =>
            intro u hu
            simp at hu
            rcases hu with rfl | rfl <;> rfl
          case c3 => unfold maxLen; omega
          case c4 => omega
          case c5 => simp; omega
          intro v' w3 own4 hgrow3 _
          have B3 : Below w1.heap.size w1 w3 := ((B2.alloc hs2 _).alloc (by simp; omega) _).grown hgrow3 (by simp; omega) (fun j hj => own_lt own3 j hj)
          have HO : Hid (w3.ownsRow w1.heap.size 39 2 v' (k + 1) (labV (d ++ [(x1, x2)]))) := hidn (by rw [labV_snoc]; exact own4)
          obtain ⟨ar3, cr3, hv3⟩ : ∃ ar cr, v' = .slice ar (k + 1) cr := by
            rcases HO.out.2 with ⟨h1, h2⟩ | ⟨g, cap, cur, h1, _⟩
            · omega
            · exact ⟨_, _, h1⟩
          subst hv3
          clear own3 own4 hgrow3
          by_cases hr4 : ∃ t, r = 44 :: t
          · obtain ⟨t, rfl⟩ := hr4
            obtain ⟨p1, p2⟩ := pre_yes 44 t
            have HQ1 : Hid (Lib.hasPrefix T.data.toList [44] = true) := hidn (by rw [HTl.out]; exact p1)
            obtain ⟨R2, hR2⟩ : ∃ R2 : ByteArray, (⟨t.toArray⟩ : ByteArray) = R2 := ⟨_, rfl⟩
            have HR2 : Hid (R2.data.toList = t) := hidn (by rw [← hR2])
            have HQ2 : Hid ((⟨(Lib.trimPrefix T.data.toList [44]).toArray⟩ : ByteArray) = R2) := hidn (by rw [HTl.out, p2, hR2])
            have HR2s : Hid (R2.size + 1 = T.size) := hidn (by rw [HTs.out, Lib.size_eq, HR2.out, List.length_cons])
            have HPn : Hid (P = pj f (d ++ [(x1, x2)]) R2.data.toList) := hidn (by rw [HP.out, HR2.out, ← HX1.out, ← HX2.out]; exact pj_more HCE.out HOE.out)
            obtain ⟨g, hg⟩ : ∃ g, f = g + 1 := ⟨f - 1, by have := HFR.out; have := HTb.out; have := HR2s.out; omega⟩
            have HPg : Hid (∃ f, R2.size < f + 1 ∧ P = pj (f + 1) (d ++ [(x1, x2)]) R2.data.toList) := hidn ⟨g, by have := HFR.out; have := HTb.out; have := HR2s.out; omega, by rw [← hg]; exact HPn.out⟩
            have hle : Hid (R2.size + 2 ≤ R.size) := hidn (by have := HTb.out; have := HR2s.out; omega)
            clear p1 p2 hR2 hg
            go_wp2_with fail
            refine (cutP T R2 44 true _ HQ1.out HQ2.out).mono ?_
            rintro e w4 ⟨rfl, rfl⟩
            go_wp2
            exact ⟨⟨k + 1, _, R2, true, _, rfl, rfl, rfl, by have := hle.out; omega, HDL, HO.out, HSD, B3, hidn (fun _ => HPg.out), hidn (fun h => by cases h)⟩, by show R2.size + 1 < R.size + 1; have := hle.out; omega⟩
          · have hno := pre_no 44 r (fun t ht => hr4 ⟨t, ht⟩)
            have HQ1 : Hid (Lib.hasPrefix T.data.toList [44] = false) := hidn (by rw [HTl.out]; exact hno.1)
            have HQ2 : Hid ((⟨(Lib.trimPrefix T.data.toList [44]).toArray⟩ : ByteArray) = T) := hidn (by rw [HTl.out, hno.2, ← HTl.out])
            have HPn : Hid (P = endP (d ++ [(x1, x2)]) T.data.toList) := hidn (by rw [HP.out, HTl.out, ← HX1.out, ← HX2.out]; exact pj_last HCE.out HOE.out (fun t ht => hr4 ⟨t, ht⟩))
            have hle : Hid (T.size + 1 ≤ R.size) := HTb
            clear hno hr4
            go_wp2_with fail
            refine (cutP T T 44 false _ HQ1.out HQ2.out).mono ?_
            rintro e w4 ⟨rfl, rfl⟩
            go_wp2
            exact ⟨⟨k + 1, _, T, false, _, rfl, rfl, rfl, by have := hle.out; omega, HDL, HO.out, HSD, B3, hidn (fun h => by cases h), hidn (fun _ => HPn.out)⟩, by show 0 < R.size + 1; omega⟩
      · have HPn : Hid (P = none) := hidn (by rw [HP.out]; exact pj_nocut hce)
        clear hce
        go_wp2_with fail
        refine (takeLab_none R _ hix).mono ?_
        rintro e w2 ⟨rfl, b2⟩
        have B2 := hbl.trans (b2.mono hbl.size)
        clear hix
        go_wp2
        exact bodyPost_ret (v := .tuple #[.slice none 0 0, .int .i64 5]) (by simp [results, Try.results26, go_sem]) rfl ⟨by first | exact B2 | exact B2.alloc B2.size _, .inl ⟨HPn.out, rfl⟩⟩
    | false =>
      have HP := hidn (hN.out rfl)
      clear hN hY
      by_cases hR : R.data.toList = [125]
      · obtain rfl : R = ⟨#[125]⟩ := bytes_eq hR
        obtain ⟨al, cl, hvl, hLs⟩ := ls_of_own hown hds.out
        injection hvl with e1 e2 e3
        subst e1
        clear e2 e3 hR
        have hk3 : k ≤ 140737488355328 := by omega
        clear hown
        go_wp2_with fail
        refine (can_any ar k cr d _ hLs hk3).mono ?_
        rintro e w2 ⟨rfl, b2⟩
        have B2 := hbl.trans (b2.mono hbl.size)
        cases hcan : canOK d with
        | false =>
          have HPn : Hid (P = none) := hidn (by rw [HP.out]; exact endP_no _ _ hcan)
          go_wp2
          exact bodyPost_ret (v := .tuple #[.slice none 0 0, .int .i64 5]) (by simp [results, Try.results26, go_sem]) rfl ⟨B2, .inl ⟨HPn.out, rfl⟩⟩
        | true =>
          have HPn : Hid (P = some d) := hidn (by rw [HP.out]; exact endP_yes _ hcan)
          have HL : Hid (Ls w2 ar d.length d) := hidn (by rw [hdl.out]; exact hLs.below b2)
          have H8 := hidn ((canOK_iff d).1 hcan).2.1
          clear hLs
          go_wp2
          go_ret2
          exact ⟨B2, .inr ⟨d, ar, cr, HPn.out, by rw [hdl.out]; rfl, HL.out, H8.out⟩⟩
      · have HPn : Hid (P = none) := hidn (by rw [HP.out]; exact endP_other _ _ hR)
        have hRb : (R.toList == [125]) = false := beq_eq_false_iff_ne.2 (fun h => hR (by have := toList_inj (a := R) (b := ⟨#[125]⟩) (h.trans (by decide +kernel)); rw [this]))
        have hRb2 : (R.toList != [125]) = true := by rw [bne, hRb]; rfl
        clear hR
        go_wp2
        exact bodyPost_ret (v := .tuple #[.slice none 0 0, .int .i64 5]) (by simp [results, Try.results26, go_sem]) rfl ⟨hbl, .inl ⟨HPn.out, rfl⟩⟩
theorem parse_any (s : ByteArray) (w : World) (hs : s.size ≤ 1048576) : Calls Try.prog 26 #[.string s] w (ParsePost (parseP s) w) := by
  by_cases h : ∃ t, s.data.toList = 123 :: t
  · obtain ⟨t, ht⟩ := h
    obtain ⟨p1, p2⟩ := pre_yes 123 t
    have hl := Lib.size_eq s
    rw [ht] at hl
    simp only [List.length_cons] at hl
    exact parse_loop s (bA t) true _ w hs (by rw [ht]; exact p1) (by rw [ht, p2, bA]) (by rw [bA_size]; omega) (fun _ => by rw [parseP_yes ht, bA_size, bA_list]) (fun h => by cases h)
  · have hno := pre_no 123 _ (fun t ht => h ⟨t, ht⟩)
    exact parse_loop s s false _ w hs hno.1 (by rw [hno.2]) hs (fun h => by cases h) (fun _ => by rw [parseP_no (fun t ht => h ⟨t, ht⟩), endP_nil])
end Go.Proofs.Ytkcmaneibfambaa
