/- labels.Parse at a text of labels that may be: the loop. -/
import Derived.Test.YtkcmaneibfambaaLabParse
namespace Go.Proofs.Ytkcmaneibfambaa
open Go.RowKit Go.Joins
set_option linter.unusedVariables false

def bodyL (x : Lab) : List UInt8 := x.1.data.toList ++ 61 :: quoted x.2
def tailL : List Lab → List UInt8
  | [] => [125]
  | x :: t => 44 :: (bodyL x ++ tailL t)
theorem lab_drop (ls : List Lab) (k : Nat) (h : k < ls.length) : ls.drop k = labD ls k :: ls.drop (k + 1) := by
  rw [List.drop_eq_getElem_cons h]
  unfold labD
  rw [List.getD_eq_getElem?_getD, List.getElem?_eq_getElem h]
  rfl
theorem text_tail (ls : List Lab) (j : Nat) : ∀ k, 1 ≤ k → k + j = ls.length → textTo ls k ++ tailL (ls.drop k) = textOf ls := by
  induction j with
  | zero =>
    intro k _ hk
    rw [Nat.add_zero] at hk
    subst hk
    rw [List.drop_of_length_le (Nat.le_refl _)]
    rfl
  | succ j ih =>
    intro k h1 hk
    rw [← ih (k + 1) (by omega) (by omega), lab_drop ls k (by omega)]
    simp only [textTo, tailL, textOne, bodyL]
    rw [if_neg (by omega)]
    simp
theorem text_head (ls : List Lab) (h : 0 < ls.length) : textOf ls = 123 :: (bodyL (labD ls 0) ++ tailL (ls.drop 1)) := by
  rw [← text_tail ls (ls.length - 1) 1 (Nat.le_refl _) (by omega)]
  simp [textTo, textOne, bodyL]
theorem name_no_eq (s : ByteArray) (h : nameOK s = true) : ∀ c ∈ s.data.toList, c ≠ 61 := by
  intro c hc he
  subst he
  obtain ⟨i, hi⟩ := List.mem_iff_getElem?.1 hc
  have hlt : i < s.size := by rw [Lib.size_eq]; exact (List.getElem?_eq_some_iff.1 hi).1
  have h1 := byteAt_of s i 61 hi
  have h2 : nameAt i (byteAt s i) = false := by
    rw [h1]
    unfold nameAt letZ digZ
    simp
  rw [nameOK_false s i hlt h2] at h
  cases h
theorem can_name (ls : List Lab) (h : canOK ls = true) (k : Nat) (hk : k < ls.length) : nameOK (labD ls k).1 = true := by
  have h1 := ((canOK_iff ls).1 h).2.2 k hk
  unfold canAt at h1
  simp at h1
  exact h1.1.1
theorem textOf_len (ls : List Lab) (h : canOK ls = true) : (textOf ls).length ≤ 1000 := by
  have h1 := textTo_len ls h ls.length (Nat.le_refl _)
  have h2 := ((canOK_iff ls).1 h).2.1
  unfold textOf
  simp
  omega
theorem tail_len (ls : List Lab) (h : canOK ls = true) (k : Nat) (hk : k < ls.length) : (bodyL (labD ls k) ++ tailL (ls.drop (k + 1))).length ≤ 1000 := by
  have h1 := textOf_len ls h
  cases k with
  | zero =>
    rw [text_head ls hk] at h1
    simp only [List.length_cons] at h1
    rw [Nat.zero_add]; omega
  | succ k =>
    rw [← text_tail ls (ls.length - (k + 1)) (k + 1) (by omega) (by omega), lab_drop ls (k + 1) hk] at h1
    simp only [tailL, List.length_append, List.length_cons] at h1 ⊢
    omega
theorem cutP (s I : ByteArray) (c : UInt8) (b : Bool) (w : World) (hcut : Lib.hasPrefix s.data.toList [c] = b) (htrim : (⟨(Lib.trimPrefix s.data.toList [c]).toArray⟩ : ByteArray) = I) :
    Calls Try.prog 41 #[.string s, .string ⟨#[c]⟩] w fun e w' => e = .returned (.tuple #[.string I, .bool b]) ∧ w' = w := by
  refine (Try.strings_CutPrefix s ⟨#[c]⟩ w).mono ?_
  rintro e w1 ⟨rfl, rfl⟩
  refine ⟨?_, rfl⟩
  show Ending.returned (.tuple #[.string ⟨(Lib.trimPrefix s.data.toList [c]).toArray⟩, .bool (Lib.hasPrefix s.data.toList [c])]) = _
  rw [hcut, htrim]
theorem pre_yes (c : UInt8) (t : List UInt8) : Lib.hasPrefix (c :: t) [c] = true ∧ Lib.trimPrefix (c :: t) [c] = t := by
  simp [Lib.hasPrefix, Lib.trimPrefix]

set_option maxHeartbeats 4000000 in
set_option maxRecDepth 100000 in
theorem parse_yes (ls : List Lab) (s : ByteArray) (w : World) (hc : canOK ls = true) (he : s.data.toList = textOf ls) (hsz : ∀ i, (labD ls i).1.size ≤ maxLen ∧ (labD ls i).2.size ≤ maxLen) :
    Calls Try.prog 26 #[.string s] w fun e w' => ∃ a c, e = .returned (.tuple #[.slice a ls.length c, .int .i64 0]) ∧ Ls w' a ls.length ls ∧ Below w.heap.size w w' := by
  have h0 := ((canOK_iff ls).1 hc).1
  have h8 := ((canOK_iff ls).1 hc).2.1
  have HC := hidn hc
  have hth := text_head ls h0
  obtain ⟨i0, z, hi, hz, hzs, hby, hzc⟩ := labZero
  obtain ⟨p1, p2⟩ := pre_yes 123 (bodyL (labD ls 0) ++ tailL (ls.drop 1))
  have HP1 : Hid (Lib.hasPrefix s.data.toList [123] = true) := hidn (by rw [he, hth]; exact p1)
  obtain ⟨R0, hR0⟩ : ∃ R0 : ByteArray, (⟨(bodyL (labD ls 0) ++ tailL (ls.drop 1)).toArray⟩ : ByteArray) = R0 := ⟨_, rfl⟩
  have HR0 : Hid (R0.data.toList = bodyL (labD ls 0) ++ tailL (ls.drop (0 + 1))) := hidn (by rw [← hR0])
  have HP2 : Hid ((⟨(Lib.trimPrefix s.data.toList [123]).toArray⟩ : ByteArray) = R0) := hidn (by rw [he, hth, p2, hR0])
  obtain ⟨n, hn⟩ : ∃ n, n = ls.length := ⟨_, rfl⟩
  have HN := hidn hn
  rw [← hn] at h0 h8
  have HSZ := hidn hsz
  clear hc he hth p1 p2 hn hsz hR0
  go_enter Try.func26, Try.ntmps26
  go_wp2_with fail
  refine (cutP s R0 123 true _ HP1.out HP2.out).mono ?_
  rintro e w1 ⟨rfl, rfl⟩
  go_wp2
  go_loopw [4, 5, 6] (fun r mr o wr => ∃ (k : Nat) (R : ByteArray) (ov : Value), k ≤ n ∧ r = .string R ∧ mr = .bool (decide (k < n)) ∧ o = ov ∧ wr.ownsRow w1.heap.size 39 2 ov k (labV (ls.take k)) ∧ Below w1.heap.size w1 wr ∧ Hid (k < n → R.data.toList = bodyL (labD ls k) ++ tailL (ls.drop (k + 1))) ∧ Hid (k = n → R = ⟨#[125]⟩)) (fun _ mr o wr => match o with | .slice _ l _ => n - l | _ => 0)
  case atStart =>
    exact ⟨0, _, _, Nat.zero_le _, rfl, by simp [h0], rfl, World.ownsRow_nil _ _ _ _, Below.refl _ _, hidn (fun _ => HR0.out), hidn (fun h => by omega)⟩
  case round =>
    obtain ⟨k, R, ov, hk, rfl, rfl, rfl, hown, hbl, hR, hE⟩ := hrel
    have hsw : w1.heap.size ≤ wr.heap.size := hbl.size
    obtain ⟨ar, cr, hvr⟩ : ∃ ar cr, u6 = .slice ar k cr := by
      rcases hown.2 with ⟨h1, h2⟩ | ⟨g, cap, cur, h1, _⟩
      · exact ⟨none, 0, by rw [h1, h2]⟩
      · exact ⟨_, _, h1⟩
    subst hvr
    by_cases hlt : k < n
    · have hd : decide (k < n) = true := decide_eq_true hlt
      have hRe := hR.out hlt
      have hkl : k < ls.length := by rw [← HN.out]; exact hlt
      have hlen := tail_len ls HC.out k hkl
      have hRs : R.size ≤ 1048576 := by rw [Lib.size_eq, hRe]; omega
      have hne := name_no_eq _ (can_name ls HC.out k hkl)
      have hRe' : R.data.toList = (labD ls k).1.data.toList ++ 61 :: (quoted (labD ls k).2 ++ tailL (ls.drop (k + 1))) := by rw [hRe]; simp [bodyL]
      rw [hd]
      have hnext : Hid (labV (ls.take (k + 1)) = labV (ls.take k) ++ [.string (labD ls k).1, .string (labD ls k).2]) := hidn (by
        rw [← labV_snoc, List.take_succ_eq_append_getElem hkl]
        congr 2
        unfold labD
        rw [List.getD_eq_getElem?_getD, List.getElem?_eq_getElem hkl]
        rfl)
      obtain ⟨T, hT⟩ : ∃ T : ByteArray, (⟨(tailL (ls.drop (k + 1))).toArray⟩ : ByteArray) = T := ⟨_, rfl⟩
      have HT := hidn hT
      have hTl : Hid (T.data.toList = tailL (ls.drop (k + 1))) := hidn (by rw [← hT])
      clear hd hRe hlen hR hE
      go_wp2_with fail
      refine (take_label (labD ls k).1 (labD ls k).2 _ R _ hRs hne hRe').mono ?_
      rintro e w2 ⟨rfl, b2⟩
      rw [HT.out]
      have B2 := hbl.trans (b2.mono hbl.size)
      have own2 := own_kept hown b2
      have hs2 : w1.heap.size ≤ w2.heap.size := B2.size
      generalize (labD ls k).1 = x1 at *
      generalize (labD ls k).2 = x2 at *
      have own3 := own_kept own2 ((Below.refl _ w2).alloc (Nat.le_refl _) (.cells #[.string x1, .string x2] 39))
      clear hown own2 hne hRe' hT hRs
      go_wp2_with (at_builtin; refine wpList_append_own _ rfl _ _ 22 rfl w1.heap.size 39 i0 z 2 32 Try.underlying22 hi hz hzs hby hzc (by decide) _ k (labV (ls.take k)) rfl (own_kept own3 ((Below.refl _ _).alloc (Nat.le_refl _) _)) ⟨w2.heap.size + 1, 0, none⟩ 1 1 [.string x1, .string x2] rfl rfl ?c1 ?c2 ?c3 ?c4 ?c5 ?_)
      case c1 =>
        intro j u hj
        match j, hj with
        | 0, hj => simp at hj; subst hj; simp [Addr.add]
        | 1, hj => simp at hj; subst hj; simp [Addr.add]
      case c2 =>
        intro u hu
        simp at hu
        rcases hu with rfl | rfl <;> rfl
      case c3 => unfold maxLen; omega
      case c4 => omega
      case c5 => simp; omega
      intro v' w3 own4 hgrow3 _
      have B3 : Below w1.heap.size w1 w3 := ((B2.alloc hs2 _).alloc (by simp; omega) _).grown hgrow3 (by simp; omega) (fun j hj => own_lt own3 j hj)
      have HO : Hid (w3.ownsRow w1.heap.size 39 2 v' (k + 1) (labV (ls.take (k + 1)))) := hidn (by rw [hnext.out]; exact own4)
      obtain ⟨ar3, cr3, hv3⟩ : ∃ ar cr, v' = .slice ar (k + 1) cr := by
        rcases HO.out.2 with ⟨h1, h2⟩ | ⟨g, cap, cur, h1, _⟩
        · omega
        · exact ⟨_, _, h1⟩
      subst hv3
      clear own3 own4 hgrow3 hnext
      by_cases hl2 : k + 1 < n
      · have hkl2 : k + 1 < ls.length := by rw [← HN.out]; exact hl2
        obtain ⟨p1, p2⟩ := pre_yes 44 (bodyL (labD ls (k + 1)) ++ tailL (ls.drop (k + 1 + 1)))
        have htl : tailL (ls.drop (k + 1)) = 44 :: (bodyL (labD ls (k + 1)) ++ tailL (ls.drop (k + 1 + 1))) := by rw [lab_drop ls (k + 1) hkl2]; rfl
        have HQ1 : Hid (Lib.hasPrefix T.data.toList [44] = true) := hidn (by rw [hTl.out, htl]; exact p1)
        obtain ⟨R2, hR2⟩ : ∃ R2 : ByteArray, (⟨(bodyL (labD ls (k + 1)) ++ tailL (ls.drop (k + 1 + 1))).toArray⟩ : ByteArray) = R2 := ⟨_, rfl⟩
        have HR2 : Hid (R2.data.toList = bodyL (labD ls (k + 1)) ++ tailL (ls.drop (k + 1 + 1))) := hidn (by rw [← hR2])
        have HQ2 : Hid ((⟨(Lib.trimPrefix T.data.toList [44]).toArray⟩ : ByteArray) = R2) := hidn (by rw [hTl.out, htl, p2, hR2])
        clear p1 p2 htl hkl2 hR2
        go_wp2_with fail
        refine (cutP T R2 44 true _ HQ1.out HQ2.out).mono ?_
        rintro e w4 ⟨rfl, rfl⟩
        go_wp2
        exact ⟨⟨k + 1, _, _, by omega, rfl, by rw [decide_eq_true hl2], rfl, HO.out, B3, hidn (fun _ => HR2.out), hidn (fun h => by omega)⟩, by show n - (k + 1) < n - k; omega⟩
      · have hkn : Hid (k + 1 = n) := hidn (by omega)
        have htl : tailL (ls.drop (k + 1)) = [125] := by rw [List.drop_of_length_le (by rw [← HN.out]; omega)]; rfl
        have HQ1 : Hid (Lib.hasPrefix T.data.toList [44] = false) := hidn (by rw [hTl.out, htl]; rfl)
        have HQ2 : Hid ((⟨(Lib.trimPrefix T.data.toList [44]).toArray⟩ : ByteArray) = ⟨#[125]⟩) := hidn (by rw [hTl.out, htl]; rfl)
        clear htl
        go_wp2_with fail
        refine (cutP T ⟨#[125]⟩ 44 false _ HQ1.out HQ2.out).mono ?_
        rintro e w4 ⟨rfl, rfl⟩
        go_wp2
        exact ⟨⟨k + 1, _, _, by omega, rfl, by rw [decide_eq_false hl2], rfl, HO.out, B3, hidn (fun h => by omega), hidn (fun _ => rfl)⟩, by show n - (k + 1) < n - k; omega⟩
    · obtain rfl : k = n := by omega
      have hd : decide (k < k) = false := decide_eq_false hlt
      have hRe := hE.out rfl
      subst hRe
      rw [hd]
      have hown' : wr.ownsRow w1.heap.size 39 2 (.slice ar k cr) k (labV ls) := by
        rw [List.take_of_length_le (by rw [← HN.out]; omega)] at hown; exact hown
      obtain ⟨al, cl, hvl, hLs⟩ := ls_of_own hown' HSZ.out
      injection hvl with e1 e2 e3
      subst e1
      clear e2 e3
      have hkl : Hid (k = ls.length) := HN
      clear hown hown' hd hR hE hlt
      go_wp2_with fail
      refine (can_any ar k cr ls _ hLs (by omega)).mono ?_
      rintro e w2 ⟨rfl, b2⟩
      rw [HC.out]
      have B2 := hbl.trans (b2.mono hbl.size)
      have HL : Hid (Ls w2 ar ls.length ls) := hidn (by rw [← hkl.out]; exact hLs.below b2)
      clear hLs
      go_wp2
      go_ret2
      exact ⟨ar, cr, by rw [← hkl.out]; rfl, HL.out, B2⟩
end Go.Proofs.Ytkcmaneibfambaa
