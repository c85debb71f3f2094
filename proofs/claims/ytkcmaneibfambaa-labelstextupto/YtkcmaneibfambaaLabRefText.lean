/- dryrotref07.Text at any labels. -/
import Derived.Test.YtkcmaneibfambaaLabRefCan
import Derived.Test.YtkcmaneibfambaaLabRefQuote
import Derived.Test.YtkcmaneibfambaaLabText
import Derived.Test.YtkcmaneibfambaaLabDrawn
namespace Go.Proofs.Ytkcmaneibfambaa
open Go.RowKit
set_option linter.unusedVariables false

set_option maxHeartbeats 2000000 in
theorem rtext_no (a : Option Addr) (len cap : Nat) (ls : List Lab) (w : World) (h : Ls w a len ls) (hr : len ≤ 140737488355328) (hc : canOK ls = false) :
    Calls Try.prog 25 #[.slice a len cap] w fun e w' => e = .returned (.tuple #[.string ⟨#[]⟩, .int .i64 1]) ∧ Below w.heap.size w w' := by
  go_enter Try.func25, Try.ntmps25
  go_wp2_with fail
  refine (refCan_any a len cap ls _ h hr).mono ?_
  rintro e w1 ⟨rfl, hb⟩
  rw [hc]
  go_wp2
  go_ret2
  exact ⟨rfl, hb⟩

def bodyTo (ls : List Lab) : Nat → List UInt8
  | 0 => []
  | k + 1 => bodyTo ls k ++ textOne k (labD ls k)
theorem bodyTo_text (ls : List Lab) : ∀ k, textTo ls k = 123 :: bodyTo ls k := by
  intro k
  induction k with
  | zero => rfl
  | succ k ih => simp only [textTo, bodyTo, ih, List.cons_append]

theorem refQuote_at (s Q : ByteArray) (w : World) (hs : s.size ≤ 1099511627776) (hq : (⟨(quoted s).toArray⟩ : ByteArray) = Q) :
    Calls Try.prog 23 #[.string s] w fun e w' => e = .returned (.string Q) ∧ w' = w := by
  rw [← hq]; exact refQuote_any s w hs
set_option maxHeartbeats 4000000 in
set_option maxRecDepth 100000 in
theorem rtext_yes (a : Option Addr) (len cap : Nat) (ls : List Lab) (w : World) (h : Ls w a len ls) (hr : len ≤ 140737488355328) (hc : canOK ls = true) :
    Calls Try.prog 25 #[.slice a len cap] w fun e w' => e = .returned (.tuple #[.string ⟨(textOf ls).toArray⟩, .int .i64 0]) ∧ Below w.heap.size w w' := by
  have hl := hidn h.1
  have h8 := ((canOK_iff ls).1 hc).2.1
  have h0 := ((canOK_iff ls).1 hc).1
  rw [hl.out] at h8 h0
  obtain ⟨b, off, rfl, hbw, hcell⟩ := h.pos h0
  have hH := hidn h
  go_enter Try.func25, Try.ntmps25
  go_wp2_with fail
  refine (refCan_any _ len cap ls _ h hr).mono ?_
  rintro e w1 ⟨rfl, hb1⟩
  have hc' := hidn hc
  have hsz0 : w.heap.size ≤ w1.heap.size := hb1.size
  rw [hc]
  clear h hc
  go_wp2
  go_loopw [4, 12] (fun o i wr => ∃ (k : Nat) (out : ByteArray), k ≤ len ∧ i = .int .i64 k ∧ o = .string out ∧ out.size ≤ 110 * k ∧ Hid (out.data.toList = bodyTo ls k) ∧ Below w1.heap.size w1 wr) (fun _ i wr => len - (intOf i).toNat)
  case atStart => exact ⟨0, ⟨#[]⟩, Nat.zero_le _, rfl, rfl, by decide, rfl, Below.refl _ _⟩
  case round =>
    obtain ⟨k, out, hk, rfl, rfl, ho, hout, hbl⟩ := hrel
    have hbl0 : Below w.heap.size w wr := hb1.trans (hbl.mono hsz0)
    by_cases hlt : k < len
    · obtain ⟨c0, c1⟩ := hcell k hlt
      have c0' : wr.cell? ⟨b, off + k * 2, none⟩ = some (.string (labD ls k).1) := (hbl0.cell (p := ⟨b, off + k * 2, none⟩) hbw).trans c0
      have c1' : wr.cell? ⟨b, off + k * 2 + 1, none⟩ = some (.string (labD ls k).2) := (hbl0.cell (p := ⟨b, off + k * 2 + 1, none⟩) hbw).trans c1
      obtain ⟨z1, z2⟩ := can_sizes ls hc'.out k (by rw [hl.out]; exact hlt)
      have hnext : Hid (bodyTo ls (k + 1) = bodyTo ls k ++ textOne k ((labD ls k).1, (labD ls k).2)) := hidn rfl
      have hszr : w1.heap.size ≤ wr.heap.size := hbl.size
      clear c0 c1
      generalize hn0 : (labD ls k).1 = n0 at *
      generalize hv0 : (labD ls k).2 = v0 at *
      clear hn0 hv0
      obtain ⟨Q, hQ⟩ : ∃ Q : ByteArray, (⟨(quoted v0).toArray⟩ : ByteArray) = Q := ⟨_, rfl⟩
      have HQ := hidn hQ
      have hQs : Q.size ≤ 82 := by
        rw [← hQ, Lib.size_eq]
        have h1 := (quoteL_len v0.data.toList).2
        rw [← Lib.size_eq] at h1
        show (quoted v0).length ≤ _
        unfold quoted
        simp only [List.length_append, List.length_cons, List.length_nil]
        omega
      have hv0s : v0.size ≤ 1099511627776 := by omega
      have hq0 := alloc_at wr (.cells #[.string n0, .string v0] 39)
      have hbl2 := hbl.alloc hszr (.cells #[.string n0, .string v0] 39)
      clear hQ
      generalize hW0 : wr.alloc (.cells #[.string n0, .string v0] 39) = W0 at *
      generalize hbx : wr.heap.size = bx at *
      have e0 : W0.cell? ⟨bx, 0, none⟩ = some (.string n0) := cell_at hq0
      have e1 : W0.cell? ⟨bx, 1, none⟩ = some (.string v0) := cell_at hq0
      by_cases hz : k = 0
      · have hzi : ¬ (0 : Int) < (k : Int) := by omega
        have HZ := hidn hz
        clear hz
        have HNX : Hid (bodyTo ls (k + 1) = bodyTo ls k ++ ( n0.data.toList ++ [61] ++ Q.data.toList)) := hidn (by rw [hnext.out]; unfold textOne; rw [if_pos HZ.out]; simp [← HQ.out, quoted])
        clear HZ
        go_wp2
        go_quiet ((go_at_call 23; exact Calls.quiet_of_same (refQuote_at v0 Q _ hv0s HQ.out)))
        go_wp2
        exact ⟨⟨k + 1, _, by omega, by go_num, rfl, by simp only [ByteArray.size_append']; show out.size + (n0.size + 1 + Q.size) ≤ _; have := hQs; omega, by
          show (_ : List UInt8) = _
          simp only [append_list, hout.out, HNX.out], below_drewN hbl2 _⟩, by simp [intOf]; omega⟩
      · have hzi : (0 : Int) < (k : Int) := by omega
        have HZ := hidn hz
        clear hz
        have HNX : Hid (bodyTo ls (k + 1) = bodyTo ls k ++ ([44] ++ n0.data.toList ++ [61] ++ Q.data.toList)) := hidn (by rw [hnext.out]; unfold textOne; rw [if_neg HZ.out]; simp [← HQ.out, quoted])
        clear HZ
        go_wp2
        go_quiet ((go_at_call 23; exact Calls.quiet_of_same (refQuote_at v0 Q _ hv0s HQ.out)))
        go_wp2
        exact ⟨⟨k + 1, _, by omega, by go_num, rfl, by simp only [ByteArray.size_append']; show out.size + 1 + (n0.size + 1 + Q.size) ≤ _; have := hQs; omega, by
          show (_ : List UInt8) = _
          simp only [append_list, hout.out, HNX.out]; simp, below_drewN hbl2 _⟩, by simp [intOf]; omega⟩
    · obtain rfl : k = len := by omega
      have HF : Hid ((⟨#[123]⟩ : ByteArray) ++ out ++ ⟨#[125]⟩ = ⟨(textOf ls).toArray⟩) := hidn (bytes_eq (by
        rw [append_list, append_list, hout.out]
        unfold textOf
        rw [bodyTo_text, hl.out]
        rfl))
      clear hout
      go_wp2
      go_ret2
      exact ⟨by rw [← HF.out]; rfl, hbl0⟩
theorem rtext_any (a : Option Addr) (len cap : Nat) (ls : List Lab) (w : World) (h : Ls w a len ls) (hr : len ≤ 140737488355328) (x : ByteArray) (z : Int) (hx : (canOK ls = false ∧ x = ⟨#[]⟩ ∧ z = 1) ∨ (canOK ls = true ∧ x = ⟨(textOf ls).toArray⟩ ∧ z = 0)) :
    Calls Try.prog 25 #[.slice a len cap] w fun e w' => e = .returned (.tuple #[.string x, .int .i64 z]) ∧ Below w.heap.size w w' := by
  rcases hx with ⟨hc, rfl, rfl⟩ | ⟨hc, rfl, rfl⟩
  · exact rtext_no a len cap ls w h hr hc
  · exact rtext_yes a len cap ls w h hr hc
theorem text_any (a : Option Addr) (len cap : Nat) (ls : List Lab) (w : World) (h : Ls w a len ls) (hr : len ≤ 140737488355328) (x : ByteArray) (z : Int) (hx : (canOK ls = false ∧ x = ⟨#[]⟩ ∧ z = 1) ∨ (canOK ls = true ∧ x = ⟨(textOf ls).toArray⟩ ∧ z = 0)) :
    Calls Try.prog 24 #[.slice a len cap] w fun e w' => e = .returned (.tuple #[.string x, .int .i64 z]) ∧ Below w.heap.size w w' := by
  rcases hx with ⟨hc, rfl, rfl⟩ | ⟨hc, rfl, rfl⟩
  · exact text_no a len cap ls w h hr hc
  · exact text_yes a len cap ls w h hr hc
end Go.Proofs.Ytkcmaneibfambaa
