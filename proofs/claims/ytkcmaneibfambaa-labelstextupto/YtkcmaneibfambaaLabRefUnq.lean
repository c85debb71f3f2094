/- dryrotref07.Unquote: a contract at every text. -/
import Derived.Test.YtkcmaneibfambaaLabRefQuote
namespace Go.Proofs.Ytkcmaneibfambaa
open Go.RowKit
set_option linter.unusedVariables false

/-- The state of the reference's reading. -/
def runAt (L o : List UInt8) (k : Nat) : Option (List UInt8 × List UInt8) := (unqS false (L.drop k)).map (addP o)
theorem runAt_end {L o : List UInt8} {k : Nat} (h : L[k]? = some 34) : runAt L o k = some (o, L.drop (k + 1)) := by
  unfold runAt; rw [drop_cons h]; simp [unqS, addP]
theorem runAt_plain {L o : List UInt8} {k : Nat} {c : UInt8} (h : L[k]? = some c) (h1 : c ≠ 34) (h2 : c ≠ 92) : runAt L o k = runAt L (o ++ [c]) (k + 1) := by
  unfold runAt; rw [drop_cons h]; simp only [unqS, if_neg h1, if_neg h2, map_addP]
theorem runAt_mark {L o : List UInt8} {k : Nat} {d : UInt8} (h : L[k]? = some 92) (h' : L[k + 1]? = some d) (hm : markB d = true) : runAt L o k = runAt L (o ++ [d]) (k + 1 + 1) := by
  unfold runAt; rw [drop_cons h, drop_cons h']
  have e : unqS false (92 :: d :: L.drop (k + 1 + 1)) = (unqS false (L.drop (k + 1 + 1))).map (addP [d]) := by simp [unqS, hm]
  rw [e, map_addP]
theorem runAt_bad {L o : List UInt8} {k : Nat} {d : UInt8} (h : L[k]? = some 92) (h' : L[k + 1]? = some d) (hm : markB d = false) : runAt L o k = none := by
  unfold runAt; rw [drop_cons h, drop_cons h']; simp [unqS, hm]
theorem runAt_cut {L o : List UInt8} {k : Nat} (h : L[k]? = some 92) (h' : L.length ≤ k + 1) : runAt L o k = none := by
  unfold runAt; rw [drop_cons h, List.drop_of_length_le h']; simp [unqS]
theorem runAt_over {L o : List UInt8} {k : Nat} (h : L.length ≤ k) : runAt L o k = none := by
  unfold runAt; rw [List.drop_of_length_le h]; rfl
theorem byte_is {s : ByteArray} {k : Nat} (hlt : k < s.size) {z : Int} {c : UInt8} (h : ((s[k]'hlt).toNat : Int) = z) (hz : z = (c.toNat : Int)) : s.data.toList[k]? = some c := by
  obtain ⟨d, hd, hb⟩ := byteAt_some s k hlt
  rw [byteAt_get s k hlt] at hb
  rw [hd]
  have : d = c := by rw [← UInt8.toNat_inj]; omega
  rw [this]
theorem byte_at {s : ByteArray} {k : Nat} (hlt : k < s.size) : ∃ c : UInt8, s.data.toList[k]? = some c ∧ ((s[k]'hlt).toNat : Int) = (c.toNat : Int) := by
  obtain ⟨d, hd, hb⟩ := byteAt_some s k hlt
  rw [byteAt_get s k hlt] at hb
  exact ⟨d, hd, by rw [hb]⟩

set_option maxHeartbeats 4000000 in
set_option maxRecDepth 100000 in
theorem refUnq_any (s : ByteArray) (w : World) (hs : s.size ≤ 1099511627776) :
    Calls Try.prog 21 #[.string s] w fun e w' => e = .returned (.tuple #[.string (uqT s), .string (uqR s), .int .i64 (uqE s)]) ∧ Below w.heap.size w w' := by
  have hsl : Hid (s.data.toList.length = s.size) := hidn (Lib.size_eq s).symm
  have hno : Hid (uqO s = none → (Ending.returned (.tuple #[.string ⟨#[]⟩, .string ⟨#[]⟩, .int .i64 5]) : Ending) = .returned (.tuple #[.string (uqT s), .string (uqR s), .int .i64 (uqE s)])) := hidn (fun h => by
    obtain ⟨h1, h2, h3⟩ := uq_none h; rw [h1, h2, h3])
  have hyes : Hid (∀ x r : List UInt8, uqO s = some (x, r) → (Ending.returned (.tuple #[.string ⟨x.toArray⟩, .string ⟨r.toArray⟩, .int .i64 0]) : Ending) = .returned (.tuple #[.string (uqT s), .string (uqR s), .int .i64 (uqE s)])) := hidn (fun x r h => by
    obtain ⟨h1, h2, h3⟩ := uq_some h; rw [h1, h2, h3])
  generalize hX : uqT s = X at *
  generalize hY : uqR s = Y at *
  generalize hZ : uqE s = Z at *
  clear hX hY hZ
  by_cases h0 : s.size = 0
  · have HC : Hid (uqO s = none) := hidn (uqO_other (fun t ht => by have := hsl.out; rw [ht] at this; simp at this; omega))
    go_enter Try.func21, Try.ntmps21
    go_wp2
    exact bodyPost_ret (v := .tuple #[.string ⟨#[]⟩, .string ⟨#[]⟩, .int .i64 5]) (by simp [results, Try.results21, go_sem]) rfl ⟨hno.out HC.out, Below.refl _ _⟩
  have g0 : ((s.size : Int) == 0) = false := beq_eq_false_iff_ne.2 (by omega)
  have hl0 : 0 < s.size := by omega
  by_cases hq : (((s[0]'hl0).toNat : Int) = 34)
  · have hc0 := byte_is hl0 hq (c := 34) rfl
    have HO : Hid (uqO s = runAt s.data.toList [] 1) := hidn (by
      have h1 := drop_cons hc0
      rw [List.drop_zero] at h1
      rw [uqO_cons h1]
      simp [runAt, addP_nil])
    have d0 : (((s[0]'hl0).toNat : Int) == 34) = true := beq_iff_eq.2 hq
    clear hq hc0
    go_enter Try.func21, Try.ntmps21
    go_wp2
    go_loopw [5, 6] (fun o i wr => ∃ (k : Nat) (out : ByteArray), 1 ≤ k ∧ k ≤ s.size ∧ i = .int .i64 k ∧ o = .string out ∧ out.size ≤ k ∧ Below w.heap.size w wr ∧ Hid (uqO s = runAt s.data.toList out.data.toList k)) (fun _ i wr => s.size - (intOf i).toNat)
    case atStart => exact ⟨1, ⟨#[]⟩, Nat.le_refl _, by omega, rfl, rfl, by decide, Below.refl _ _, HO.out⟩
    case round =>
      obtain ⟨k, out, hk1, hk, rfl, rfl, ho, hbl, hst⟩ := hrel
      by_cases hlt : k < s.size
      · obtain ⟨q, hqq⟩ : ∃ q, q = k + 1 := ⟨_, rfl⟩
        have HQQ := hidn hqq
        have hkq : (k : Int) + 1 = (q : Int) := by omega
        have hq1 : k ≤ q := by omega
        have hq2 : q ≤ s.size := by omega
        have hq3 : (0 : Int) ≤ (q : Int) := by omega
        clear hqq
        have hcc : (((s[k]'hlt).toNat : Int) = 34) ∨ (((s[k]'hlt).toNat : Int) = 92) ∨ (((s[k]'hlt).toNat : Int) ≠ 34 ∧ ((s[k]'hlt).toNat : Int) ≠ 92) := by omega
        rcases hcc with h1 | h1 | ⟨h1, h2⟩
        · have d1 : (((s[k]'hlt).toNat : Int) == 34) = true := beq_iff_eq.2 h1
          have HC := hidn (hst.out.trans (runAt_end (byte_is hlt h1 (c := 34) rfl)))
          have hexr : Hid (s.extract q s.size = ⟨(s.data.toList.drop (k + 1)).toArray⟩) := hidn (by
            rw [Lib.extract_eq, HQQ.out, List.take_of_length_le (by rw [List.length_drop, hsl.out]; exact Nat.le_refl _)])
          have HO2 : Hid (out = ⟨out.data.toList.toArray⟩) := hidn (bytes_eq rfl)
          clear h1 hst
          go_wp2
          go_quiet (fail)
          go_wp2
          exact bodyPost_ret (v := .tuple #[.string out, .string (s.extract q s.size), .int .i64 0]) (by simp [results, Try.results21, go_sem]) rfl ⟨by rw [hexr.out]; exact hyes.out _ _ HC.out, below_drewN hbl _⟩
        · have d1 : (((s[k]'hlt).toNat : Int) == 34) = false := beq_eq_false_iff_ne.2 (by omega)
          have d2 : (((s[k]'hlt).toNat : Int) == 92) = true := beq_iff_eq.2 h1
          have hb92 := byte_is hlt h1 (c := 92) rfl
          clear h1
          by_cases hlt2 : q < s.size
          · have g2 : decide ((s.size : Int) ≤ (q : Int)) = false := by simp; omega
            have g2' : decide (s.size ≤ q) = false := by simp; omega
            have g2'' : ¬ s.size ≤ q := by omega
            obtain ⟨d, hd, hdz⟩ := byte_at hlt2
            have hd' : s.data.toList[k + 1]? = some d := by rw [← HQQ.out]; exact hd
            obtain ⟨q2, hqq2⟩ : ∃ q2, q2 = q + 1 := ⟨_, rfl⟩
            have HQ2 := hidn hqq2
            have hkq2 : (q : Int) + 1 = (q2 : Int) := by omega
            have hq4 : q ≤ q2 := by omega
            have hq5 : q2 ≤ s.size := by omega
            have HX : Hid ((s.extract q q2).data.toList = [d]) := hidn (by rw [hqq2]; exact extract_one s q d hd)
            have hxs : (s.extract q q2).size = 1 := by rw [Lib.size_eq, HX.out]; rfl
            clear hqq2
            have hmd : markB d = markZ ((s[q]'hlt2).toNat : Int) := by rw [markB_nat, hdz]
            have hdd : (((s[q]'hlt2).toNat : Int) = 34) ∨ (((s[q]'hlt2).toNat : Int) = 92) ∨ (((s[q]'hlt2).toNat : Int) ≠ 34 ∧ ((s[q]'hlt2).toNat : Int) ≠ 92) := by omega
            rcases hdd with e1 | e1 | ⟨e1, e2⟩
            · have HC := hidn (hst.out.trans (runAt_mark hb92 hd' (by rw [hmd, e1]; rfl)))
              have f1 : (((s[q]'hlt2).toNat : Int) == 34) = true := beq_iff_eq.2 e1
              have f1b : (((s[q]'hlt2).toNat : Int) != 34) = false := by rw [bne, f1]; rfl
              clear hst hb92 hd hd' hdz hmd e1
              go_wp2
              exact ⟨⟨q2, _, by omega, hq5, rfl, rfl, by simp only [ByteArray.size_append', hxs]; have := HQQ.out; have := HQ2.out; omega, hbl, by
                show uqO s = _
                rw [HC.out, append_list, HX.out, HQ2.out, HQQ.out]⟩, by simp [intOf]; have := HQQ.out; have := HQ2.out; omega⟩
            · have HC := hidn (hst.out.trans (runAt_mark hb92 hd' (by rw [hmd, e1]; rfl)))
              have f1 : (((s[q]'hlt2).toNat : Int) == 34) = false := beq_eq_false_iff_ne.2 (by omega)
              have f2 : (((s[q]'hlt2).toNat : Int) == 92) = true := beq_iff_eq.2 e1
              have f1b : (((s[q]'hlt2).toNat : Int) != 34) = true := by rw [bne, f1]; rfl
              have f2b : (((s[q]'hlt2).toNat : Int) != 92) = false := by rw [bne, f2]; rfl
              clear hst hb92 hd hd' hdz hmd e1
              go_wp2
              exact ⟨⟨q2, _, by omega, hq5, rfl, rfl, by simp only [ByteArray.size_append', hxs]; have := HQQ.out; have := HQ2.out; omega, hbl, by
                show uqO s = _
                rw [HC.out, append_list, HX.out, HQ2.out, HQQ.out]⟩, by simp [intOf]; have := HQQ.out; have := HQ2.out; omega⟩
            · have HC := hidn (hst.out.trans (runAt_bad hb92 hd' (by rw [hmd]; unfold markZ; simp [e1, e2])))
              have f1 : (((s[q]'hlt2).toNat : Int) == 34) = false := beq_eq_false_iff_ne.2 e1
              have f2 : (((s[q]'hlt2).toNat : Int) == 92) = false := beq_eq_false_iff_ne.2 e2
              have f1b : (((s[q]'hlt2).toNat : Int) != 34) = true := by rw [bne, f1]; rfl
              have f2b : (((s[q]'hlt2).toNat : Int) != 92) = true := by rw [bne, f2]; rfl
              clear hst hb92 hd hd' hdz hmd e1 e2
              go_wp2
              exact bodyPost_ret (v := .tuple #[.string ⟨#[]⟩, .string ⟨#[]⟩, .int .i64 5]) (by simp [results, Try.results21, go_sem]) rfl ⟨hno.out HC.out, hbl⟩
          · have HC := hidn (hst.out.trans (runAt_cut hb92 (by rw [hsl.out, ← HQQ.out]; omega)))
            have g2 : decide ((s.size : Int) ≤ (q : Int)) = true := by simp; omega
            have g2' : s.size ≤ q := by omega
            clear hst hb92
            go_wp2
            exact bodyPost_ret (v := .tuple #[.string ⟨#[]⟩, .string ⟨#[]⟩, .int .i64 5]) (by simp [results, Try.results21, go_sem]) rfl ⟨hno.out HC.out, hbl⟩
        · have d1 : (((s[k]'hlt).toNat : Int) == 34) = false := beq_eq_false_iff_ne.2 h1
          have d2 : (((s[k]'hlt).toNat : Int) == 92) = false := beq_eq_false_iff_ne.2 h2
          obtain ⟨c, hc, hcz⟩ := byte_at hlt
          have HC := hidn (hst.out.trans (runAt_plain hc (by rintro rfl; exact h1 hcz) (by rintro rfl; exact h2 hcz)))
          have HX : Hid ((s.extract k q).data.toList = [c]) := hidn (by rw [HQQ.out]; exact extract_one s k c hc)
          have hxs : (s.extract k q).size = 1 := by rw [Lib.size_eq, HX.out]; rfl
          clear hst hc hcz h1 h2
          go_wp2
          exact ⟨⟨q, _, by omega, hq2, rfl, rfl, by simp only [ByteArray.size_append', hxs]; have := HQQ.out; omega, hbl, by
            show uqO s = _
            rw [HC.out, append_list, HX.out, HQQ.out]⟩, by simp [intOf]; have := HQQ.out; omega⟩
      · have HC := hidn (hst.out.trans (runAt_over (by rw [hsl.out]; omega)))
        clear hst
        go_wp2
        exact bodyPost_ret (v := .tuple #[.string ⟨#[]⟩, .string ⟨#[]⟩, .int .i64 5]) (by simp [results, Try.results21, go_sem]) rfl ⟨hno.out HC.out, hbl⟩
  · have d0 : (((s[0]'hl0).toNat : Int) == 34) = false := beq_eq_false_iff_ne.2 hq
    have HC : Hid (uqO s = none) := hidn (uqO_other (fun t ht => by
      obtain ⟨c, hc, hcz⟩ := byte_at hl0
      rw [ht] at hc
      simp at hc
      subst hc
      exact hq hcz))
    clear hq
    go_enter Try.func21, Try.ntmps21
    go_wp2
    exact bodyPost_ret (v := .tuple #[.string ⟨#[]⟩, .string ⟨#[]⟩, .int .i64 5]) (by simp [results, Try.results21, go_sem]) rfl ⟨hno.out HC.out, Below.refl _ _⟩
end Go.Proofs.Ytkcmaneibfambaa
