/- labels.Unquote: a contract at every text. -/
import Derived.Test.YtobjpofdchjciaaDoorLabQuote
import Derived.Test.YtobjpofdchjciaaDoorLabUnqMath
import Derived.Test.YtobjpofdchjciaaDoorLabDrawn
import Derived.Shelf.Abstract
namespace Go.Proofs.YtobjpofdchjciaaDoor
open Go.RowKit
set_option linter.unusedVariables false

theorem cut_yes (t : List UInt8) : Lib.hasPrefix (34 :: t) [34] = true ∧ Lib.trimPrefix (34 :: t) [34] = t := by
  simp [Lib.hasPrefix, Lib.trimPrefix]
theorem cut_no (l : List UInt8) (h : ∀ t, l ≠ 34 :: t) : Lib.hasPrefix l [34] = false := by
  cases l with
  | nil => rfl
  | cons c t =>
    have : c ≠ 34 := fun e => h t (by rw [e])
    have h2 : ((34 : UInt8) == c) = false := beq_eq_false_iff_ne.2 (fun e => this e.symm)
    simp only [Lib.hasPrefix, List.isPrefixOf, h2, Bool.false_and]

theorem cut34 (s I : ByteArray) (b : Bool) (w : World) (hcut : Lib.hasPrefix s.data.toList [34] = b) (htrim : (⟨(Lib.trimPrefix s.data.toList [34]).toArray⟩ : ByteArray) = I) :
    Calls Tryd.prog 26 #[.string s, .string ⟨#[34]⟩] w fun e w' => e = .returned (.tuple #[.string I, .bool b]) ∧ w' = w := by
  refine (Tryd.strings_CutPrefix s ⟨#[34]⟩ w).mono ?_
  rintro e w1 ⟨rfl, rfl⟩
  refine ⟨?_, rfl⟩
  show Ending.returned (.tuple #[.string ⟨(Lib.trimPrefix s.data.toList [34]).toArray⟩, .bool (Lib.hasPrefix s.data.toList [34])]) = _
  rw [hcut, htrim]

set_option maxHeartbeats 4000000 in
set_option maxRecDepth 1000000 in
theorem unq_loop (s : ByteArray) (I : ByteArray) (w : World) (hs : I.size ≤ 1099511627776) (hO : uqO s = unqS false I.data.toList)
    (hcut : Lib.hasPrefix s.data.toList [34] = true) (htrim : (⟨(Lib.trimPrefix s.data.toList [34]).toArray⟩ : ByteArray) = I) :
    Calls Tryd.prog 34 #[.string s] w fun e w' => e = .returned (.tuple #[.string (uqT s), .string (uqR s), .int .i64 (uqE s)]) ∧ Below w.heap.size w w' := by
  have hsl : Hid (I.data.toList.length = I.size) := hidn (Lib.size_eq I).symm
  have HO := hidn hO
  have HCUT := hidn hcut
  have HTR := hidn htrim
  have hno : Hid (uqO s = none → (Ending.returned (.tuple #[.string ⟨#[]⟩, .string ⟨#[]⟩, .int .i64 5]) : Ending) = .returned (.tuple #[.string (uqT s), .string (uqR s), .int .i64 (uqE s)])) := hidn (fun h => by
    obtain ⟨h1, h2, h3⟩ := uq_none h; rw [h1, h2, h3])
  have hyes : Hid (∀ x r : List UInt8, uqO s = some (x, r) → (Ending.returned (.tuple #[.string ⟨x.toArray⟩, .string ⟨r.toArray⟩, .int .i64 0]) : Ending) = .returned (.tuple #[.string (uqT s), .string (uqR s), .int .i64 (uqE s)])) := hidn (fun x r h => by
    obtain ⟨h1, h2, h3⟩ := uq_some h; rw [h1, h2, h3])
  have en : ∀ args w, (callFunc 46 args).run Tryd.prog w = .ok (.enter 46 args) w := enters_of Tryd.func46 (by kernel_rfl) rfl
  have EN := hidn en
  generalize hX : uqT s = X at *
  generalize hY : uqR s = Y at *
  generalize hZ : uqE s = Z at *
  clear hO hcut htrim hX hY hZ en
  go_enter Tryd.func34, Tryd.ntmps34
  go_wp2_with fail
  refine (cut34 s I true _ HCUT.out HTR.out).mono ?_
  rintro e w1 ⟨rfl, rfl⟩
  go_wp2
  go_loopw [8, 9] (fun f es wr => ∃ (fr pos : Nat) (esc : Bool) (acc : List UInt8), f = .int .i64 fr ∧ es = .bool esc ∧ fr ≤ pos ∧ pos ≤ I.size ∧ (esc = true → fr = pos) ∧ Hid (acc.length ≤ fr) ∧ Lib.IsBuilderF 88 5 w1.heap.size w1.heap.size (Lib.byteCells acc) wr ∧ wr.heap[w1.heap.size + 1]? = some (.stringIter I pos) ∧ Below w1.heap.size w1 wr ∧ Hid (uqO s = unqAt I.data.toList acc fr pos esc)) (fun _ _ wr => I.size - wr.iterPos (w1.heap.size + 1))
  case atStart =>
    refine ⟨0, 0, false, [], rfl, rfl, Nat.le_refl _, Nat.zero_le _, (fun h => by cases h), hidn (Nat.le_refl _), (Lib.IsBuilderF.of (Lib.fresh_isBuilder 88 5 w1)).alloc _, ?_, ((Below.refl _ w1).alloc (Nat.le_refl _) _).alloc (by simp) _, HO.out.trans (unqAt_start _)⟩
    have := World.iter_heap (w1.alloc (.cells #[.pointer none, .slice none 0 0] 88)) I 0
    simpa using this
  case round =>
    obtain ⟨fr, pos, esc, acc, rfl, rfl, hfp, hps, hesc, hLen, hI, hit, hbw, hst⟩ := hrel
    have hsz : w1.heap.size + 1 < wr.heap.size := (Array.getElem?_eq_some_iff.1 hit).1
    by_cases hp : pos < I.size
    · have hnx : ∀ ty, (Instr.next (.pointer (some ⟨w1.heap.size + 1, 0, none⟩)) true ty).run Tryd.prog wr = _ := fun ty => Lib.run_next_any_at wr (w1.heap.size + 1) I pos ty hit hp
      have hwd := width_pos I pos hp
      have hI2 := hI.iterAt hit (pos + (Utf8.decode I pos).2)
      have hit2 := Lib.iterAt_heap wr (w1.heap.size + 1) I pos (pos + (Utf8.decode I pos).2) hit
      have hbw2 := Lib.below_iterAt hbw (k := w1.heap.size + 1) (by omega) I (pos + (Utf8.decode I pos).2)
      have hsz2 : w1.heap.size ≤ (wr.iterAt (w1.heap.size + 1) I (pos + (Utf8.decode I pos).2)).heap.size := by rw [Lib.iterAt_size]; omega
      have hsm := step_mark I pos hp
      have hme : ∀ W : World, W.heap[w1.heap.size + 1]? = some (.stringIter I (pos + (Utf8.decode I pos).2)) → I.size - W.iterPos (w1.heap.size + 1) < I.size - wr.iterPos (w1.heap.size + 1) := by
        intro W h; simp only [World.iterPos, h, hit]; omega
      have HME := hidn hme
      have hb0 := byteAt_some I pos hp
      clear hme
      generalize hW : wr.iterAt (w1.heap.size + 1) I (pos + (Utf8.decode I pos).2) = wi at *
      have HW := hidn hW
      clear hW
      generalize hR : ((Utf8.decode I pos).1 : Int) = r at *
      have HR := hidn hR
      clear hR
      rcases hsm with ⟨m1, m2, c, m3, m4, m5⟩ | ⟨m1, m2, m3⟩
      · have M2 := hidn m2
        have M3 := hidn m3
        have M4 := hidn m4
        have hrc : Hid (r = (c.toNat : Int)) := hidn (by rw [← HR.out, m5])
        have hpl : Hid (pos + (Utf8.decode I pos).2 = pos + 1) := hidn (by rw [M2.out])
        clear m2 m3 m4 m5
        cases esc with
        | true =>
          obtain rfl : fr = pos := hesc rfl
          have HC := hidn (hst.out.trans (unqAt_mark _ _ _ c M3.out M4.out))
          clear hst
          go_wp2_with (go_at_call 44; refine (isMark_any r _).mono ?_; rintro e w' ⟨rfl, rfl⟩)
          exact ⟨⟨fr, _, false, acc, rfl, rfl, by omega, by rw [hpl.out]; omega, (fun h => by cases h), hLen, hI2, hit2, hbw2, by rw [hpl.out]; exact HC.out⟩, HME.out _ hit2⟩
        | false =>
          have hexs : (I.extract fr pos).size ≤ I.size := by rw [ByteArray.size_extract]; omega
          have hexd : Hid ((I.extract fr pos).data.toList = (I.data.toList.drop fr).take (pos - fr)) := hidn (Lib.extract_data I fr pos)
          have hlp : Hid ((acc ++ (I.data.toList.drop fr).take (pos - fr)).length ≤ pos) := hidn (by rw [List.length_append, List.length_take, List.length_drop, hsl.out]; have := hLen.out; omega)
          by_cases h92 : r = 92
          · have hc92 : I.data.toList[pos]? = some 92 := by
              rw [M3.out]
              have : c = 92 := by rw [← UInt8.toNat_inj]; have : (c.toNat : Int) = 92 := by rw [← hrc.out]; exact h92
                                  show c.toNat = 92; omega
              rw [this]
            have HC := hidn (hst.out.trans (unqAt_back _ _ _ _ hc92))
            have hr1 : (r == 92) = true := beq_iff_eq.2 h92
            clear hst hc92 h92 hrc
            go_wp2_with fail
            refine (wstrL w1.heap.size w1.heap.size acc _ _ hI2 (by have := hLen.out; omega) hsz2).mono ?_
            rintro e W2 ⟨rfl, i2, b2, k2⟩
            have hit3 := k2.iter hit2 (by omega)
            rw [hexd.out] at i2
            go_wp2
            exact ⟨⟨pos + 1, _, true, _, by go_num, rfl, by rw [hpl.out]; omega, by rw [hpl.out]; omega, (fun _ => hpl.out.symm), hidn (by have := hlp.out; omega), i2, hit3, hbw2.trans b2, by rw [hpl.out]; exact HC.out⟩, HME.out _ hit3⟩
          · have h34 : r = 34 := by
              have h1 := M4.out
              rw [markB_nat] at h1
              unfold markZ at h1
              rw [← hrc.out] at h1
              simp at h1
              omega
            have hc34 : I.data.toList[pos]? = some 34 := by
              rw [M3.out]
              have : c = 34 := by rw [← UInt8.toNat_inj]; have : (c.toNat : Int) = 34 := by rw [← hrc.out]; exact h34
                                  show c.toNat = 34; omega
              rw [this]
            have HC := hidn (hst.out.trans (unqAt_end _ _ _ _ hc34))
            have hr1 : (r == 92) = false := beq_eq_false_iff_ne.2 h92
            have hr2 : (r == 34) = true := beq_iff_eq.2 h34
            have hexr : Hid (I.extract (pos + 1) I.size = ⟨(I.data.toList.drop (pos + 1)).toArray⟩) := hidn (by
              rw [Lib.extract_eq, List.take_of_length_le (by rw [List.length_drop, hsl.out]; exact Nat.le_refl _)])
            clear hst hc34 h92 h34 hrc
            go_wp2_with fail
            refine (wstrL w1.heap.size w1.heap.size acc _ _ hI2 (by have := hLen.out; omega) hsz2).mono ?_
            rintro e W2 ⟨rfl, i2, b2, k2⟩
            rw [hexd.out] at i2
            have hs3 : w1.heap.size ≤ W2.drew.heap.size := by have := b2.size; show _ ≤ W2.heap.size; omega
            have i2d : Lib.IsBuilderF 88 5 w1.heap.size w1.heap.size (Lib.byteCells (acc ++ (I.data.toList.drop fr).take (pos - fr))) W2.drew := i2.elim (fun x => .inl x.drew) (fun x => .inr x.drew)
            have hbd : Below w1.heap.size w1 W2.drew := (hbw2.trans b2).drew
            clear i2 b2 k2
            go_wp2
            have hw1 : IntKind.i64.wrap ((pos : Int) + 1) = (pos : Int) + 1 := by rw [IntKind.wrap_i64]; omega
            generalize hwd : W2.drew = wd at *
            refine wp_region_noPanic ?_
            refine wp_region_held_drew (S := fun _ => True) (by kernel_rfl) trivial (fun hHeld => ?_)
            rw [hwd]
            refine drawn_take (i := 1) (v := .string I) (some 53) rfl rfl (by kernel_rfl) (by kernel_rfl) (by kernel_rfl) (fun _ _ _ h => h) (Or.inl ⟨by kernel_rfl, fun wq hw => by go_simp⟩) hHeld ?_
            simp only [Act.put, List.setIfInBounds_toArray, List.set_cons_succ, List.set_cons_zero]
            refine drawn_take (i := 2) (v := .int .i64 (pos : Int)) (some 54) rfl rfl (by kernel_rfl) (by kernel_rfl) (by kernel_rfl) (fun _ _ _ h => h) (Or.inl ⟨by kernel_rfl, fun wq hw => by go_simp⟩) hHeld ?_
            simp only [Act.put, List.setIfInBounds_toArray, List.set_cons_succ, List.set_cons_zero]
            refine drawn_take (i := 3) (v := .int .i64 ((pos : Int) + 1)) (some 55) rfl rfl (by kernel_rfl) (by kernel_rfl) (by kernel_rfl) (fun _ _ _ h => h) (Or.inl ⟨by kernel_rfl, fun wq hw => by go_simp⟩) hHeld ?_
            simp only [Act.put, List.setIfInBounds_toArray, List.set_cons_succ, List.set_cons_zero]
            refine drawn_take (i := 4) (v := .string (I.extract (pos + 1) I.size)) (some 56) rfl rfl (by kernel_rfl) (by kernel_rfl) (by kernel_rfl) (fun _ _ _ h => h) (Or.inl ⟨by kernel_rfl, fun wq hw => by (go_simp; intro h; exfalso; have := h (by omega); omega)⟩) hHeld ?_
            simp only [Act.put, List.setIfInBounds_toArray, List.set_cons_succ, List.set_cons_zero]
            refine wpAnyH_ready (rs := [0]) (by kernel_rfl) (by simp) ?_
            refine rdy_call (i := 0) rfl rfl (some 52) rfl 46 #[.pointer (some ⟨w1.heap.size, 0, none⟩)] (call1_run (x := 7) (ts := #[88]) (by kernel_rfl) EN (by kernel_rfl)) (fun v w' => v = .string ⟨(acc ++ (I.data.toList.drop fr).take (pos - fr)).toArray⟩ ∧ Below w1.heap.size wd w') ((Tryd.Builder_String_any_k w1.heap.size w1.heap.size _ _ i2d hs3).mono fun e w' h => ⟨_, h.1, rfl, h.2.2.1⟩) (fun v w5 hR => ?_) rdy_nil
            obtain ⟨rfl, hb5⟩ := hR
            refine ⟨trivial, fun hHeld => ?_⟩
            simp only [Act.put, List.setIfInBounds_toArray, List.set_cons_succ, List.set_cons_zero]
            refine drawn_take (i := 5) (v := .string ⟨(acc ++ (I.data.toList.drop fr).take (pos - fr)).toArray⟩) (some 2) rfl rfl (by kernel_rfl) (by kernel_rfl) (by kernel_rfl) (fun _ _ _ h => h) (Or.inl ⟨by kernel_rfl, fun wq hw => by go_simp⟩) hHeld ?_
            simp only [Act.put, List.setIfInBounds_toArray, List.set_cons_succ, List.set_cons_zero]
            refine drawn_take (i := 6) (v := .string (I.extract (pos + 1) I.size)) (some 3) rfl rfl (by kernel_rfl) (by kernel_rfl) (by kernel_rfl) (fun _ _ _ h => h) (Or.inl ⟨by kernel_rfl, fun wq hw => by go_simp⟩) hHeld ?_
            simp only [Act.put, List.setIfInBounds_toArray, List.set_cons_succ, List.set_cons_zero]
            refine drawn_take (i := 7) (v := .int .i64 0) (some 4) rfl rfl (by kernel_rfl) (by kernel_rfl) (by kernel_rfl) (fun _ _ _ h => h) (Or.inl ⟨by kernel_rfl, fun wq hw => by go_simp⟩) hHeld ?_
            simp only [Act.put, List.setIfInBounds_toArray, List.set_cons_succ, List.set_cons_zero]
            refine wpAnyH_done (by kernel_rfl) ?_ _
            refine NoPanic.normal ?_
            clear hHeld
            have hbf : Below w1.heap.size w1 w5 := hbd.trans hb5
            have HFIN := hidn (hyes.out _ _ HC.out)
            rw [hexr.out]
            go_wp2
            exact bodyPost_ret (v := .tuple #[.string ⟨(acc ++ (I.data.toList.drop fr).take (pos - fr)).toArray⟩, .string ⟨(I.data.toList.drop (pos + 1)).toArray⟩, .int .i64 0]) (by simp [results, Tryd.results34, go_sem]) rfl ⟨HFIN.out, hbf⟩
      · have M3 := hidn m3
        have hb92 : (r == 92) = false := by
          rw [beq_eq_false_iff_ne]; intro h; rw [h] at m1; exact absurd m1 (by decide)
        have hb34 : (r == 34) = false := by
          rw [beq_eq_false_iff_ne]; intro h; rw [h] at m1; exact absurd m1 (by decide)
        cases esc with
        | true =>
          obtain ⟨c, hc, hbc⟩ := hb0
          have hmc : markB c = false := M3.out c (by rw [drop_cons hc, show pos + (Utf8.decode I pos).2 - pos = ((Utf8.decode I pos).2 - 1) + 1 from by omega]; simp)
          have HC := hidn (hst.out.trans (unqAt_none _ _ _ _ c hc hmc))
          have HM1 := hidn m1
          clear hst hc hbc hmc m3
          go_wp2_with (go_at_call 44; refine (isMark_any r _).mono ?_; rintro e w' ⟨rfl, rfl⟩; rw [HM1.out])
          exact bodyPost_ret (v := .tuple #[.string ⟨#[]⟩, .string ⟨#[]⟩, .int .i64 5]) (by simp [results, Tryd.results34, go_sem]) rfl ⟨hno.out HC.out, hbw2⟩
        | false =>
          have HC := hidn (hst.out.trans (unqAt_skip _ _ _ _ _ hfp (by omega) M3.out))
          clear hst m3 hb0 m1
          go_wp2
          exact ⟨⟨fr, _, false, acc, rfl, rfl, by omega, m2, (fun h => by cases h), hLen, hI2, hit2, hbw2, HC.out⟩, HME.out _ hit2⟩
    · have HC := hidn (hst.out.trans (unqAt_over _ _ _ _ _ (by rw [hsl.out]; omega)))
      have hnx : ∀ ty, (Instr.next (.pointer (some ⟨w1.heap.size + 1, 0, none⟩)) true ty).run Tryd.prog wr = _ := fun ty => Lib.run_next_end_at wr (w1.heap.size + 1) I pos ty hit hp
      clear hst
      go_wp2
      exact bodyPost_ret (v := .tuple #[.string ⟨#[]⟩, .string ⟨#[]⟩, .int .i64 5]) (by simp [results, Tryd.results34, go_sem]) rfl ⟨hno.out HC.out, hbw⟩

theorem unq_any (s : ByteArray) (w : World) (hs : s.size ≤ 1099511627776) :
    Calls Tryd.prog 34 #[.string s] w fun e w' => e = .returned (.tuple #[.string (uqT s), .string (uqR s), .int .i64 (uqE s)]) ∧ Below w.heap.size w w' := by
  by_cases h : ∃ t, s.data.toList = 34 :: t
  · obtain ⟨t, ht⟩ := h
    obtain ⟨c1, c2⟩ := cut_yes t
    have hsz := Lib.size_eq s
    rw [ht] at hsz
    simp at hsz
    refine unq_loop s ⟨t.toArray⟩ w ?_ ?_ ?_ ?_
    · rw [Lib.size_eq]; show t.length ≤ _; omega
    · exact uqO_cons ht
    · rw [ht]; exact c1
    · rw [ht, c2]
  · have hno : uqO s = none := uqO_other (fun t ht => h ⟨t, ht⟩)
    have hcut := cut_no s.data.toList (fun t ht => h ⟨t, ht⟩)
    obtain ⟨h1, h2, h3⟩ := uq_none hno
    rw [h1, h2, h3]
    clear h hno h1 h2 h3
    go_enter Tryd.func34, Tryd.ntmps34
    go_wp2_with fail
    refine (cut34 s _ false _ hcut rfl).mono ?_
    rintro e w1 ⟨rfl, rfl⟩
    go_wp2
    exact bodyPost_ret (v := .tuple #[.string ⟨#[]⟩, .string ⟨#[]⟩, .int .i64 5]) (by simp [results, Tryd.results34, go_sem]) rfl ⟨rfl, Below.refl _ _⟩
end Go.Proofs.YtobjpofdchjciaaDoor
