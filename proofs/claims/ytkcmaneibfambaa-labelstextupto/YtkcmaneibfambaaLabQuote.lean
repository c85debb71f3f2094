/- labels.Quote: a contract at every text. -/
import Derived.Test.YtkcmaneibfambaaLabBuild
import Derived.Test.YtkcmaneibfambaaLabName
import Derived.Test.YtkcmaneibfambaaLabQuoteMath
namespace Go.Proofs.Ytkcmaneibfambaa
open Go.RowKit
set_option linter.unusedVariables false

theorem below_new {w W : World} (o : Obj) (h : Below w.heap.size (w.alloc o) W) : Below w.heap.size w W := ((Below.refl _ w).alloc (Nat.le_refl _) _).trans h
theorem extract_list (s : ByteArray) (a b : Nat) : Lib.strCells (s.extract a b) = Lib.byteCells ((s.data.toList.drop a).take (b - a)) := by
  rw [Lib.strCells_eq, Lib.extract_data]

set_option maxHeartbeats 4000000 in
set_option maxRecDepth 1000000 in
theorem quote_any (s : ByteArray) (w : World) (hs : s.size ≤ 1099511627776) :
    Calls Try.prog 22 #[.string s] w fun e w' => e = .returned (.string ⟨(quoted s).toArray⟩) ∧ Below w.heap.size w w' := by
  have hsl : Hid (s.data.toList.length = s.size) := hidn (Lib.size_eq s).symm
  go_enter Try.func22, Try.ntmps22
  go_wp2_with (go_at_call 45; refine (wbyte_any w.heap.size w.heap.size [] 34 _ (Lib.IsBuilderF.of (Lib.fresh_isBuilder 58 5 w)) (by simp) (by simp)).mono ?_)
  rintro e W1 ⟨rfl, h1, b1, k1⟩
  have hI1 : Lib.IsBuilderF 58 5 w.heap.size w.heap.size (Lib.byteCells [34]) W1 := Or.inr h1
  have hB1 := below_new _ b1
  have hsz1 : w.heap.size < W1.heap.size := by have := b1.size; simp at this; omega
  clear h1 b1 k1
  go_wp2
  go_loopw [4] (fun f wr => ∃ (fr pos : Nat) (acc : List UInt8), f = .int .i64 fr ∧ fr ≤ pos ∧ pos ≤ s.size ∧ Lib.IsBuilderF 58 5 w.heap.size w.heap.size (Lib.byteCells acc) wr ∧ wr.heap[W1.heap.size]? = some (.stringIter s pos) ∧ Below w.heap.size w wr ∧ Hid (acc ++ (s.data.toList.drop fr).take (pos - fr) = 34 :: quoteL (s.data.toList.take pos))) (fun _ wr => s.size - wr.iterPos W1.heap.size)
  case atStart =>
    refine ⟨0, 0, [34], rfl, Nat.le_refl _, Nat.zero_le _, hI1.alloc _, ?_, hB1.alloc (by omega) _, rfl⟩
    have := World.iter_heap W1 s 0
    simpa using this
  case round =>
    obtain ⟨fr, pos, acc, rfl, hfp, hps, hI, hit, hbw, hacc⟩ := hrel
    have hlen := q_len _ _ _ _ hacc
    have hsz : W1.heap.size < wr.heap.size := (Array.getElem?_eq_some_iff.1 hit).1
    by_cases hp : pos < s.size
    · have hnx : ∀ ty, (Instr.next (.pointer (some ⟨W1.heap.size, 0, none⟩)) true ty).run Try.prog wr = _ := fun ty => Lib.run_next_any_at wr W1.heap.size s pos ty hit hp
      have hwd := width_pos s pos hp
      have hI2 := hI.iterAt hit (pos + (Utf8.decode s pos).2)
      have hit2 := Lib.iterAt_heap wr W1.heap.size s pos (pos + (Utf8.decode s pos).2) hit
      have hbw2 := Lib.below_iterAt hbw (k := W1.heap.size) (by omega) s (pos + (Utf8.decode s pos).2)
      have hsz2 : w.heap.size ≤ (wr.iterAt W1.heap.size s (pos + (Utf8.decode s pos).2)).heap.size := by rw [Lib.iterAt_size]; omega
      have hst := step_mark s pos hp
      have hme : ∀ W : World, W.heap[W1.heap.size]? = some (.stringIter s (pos + (Utf8.decode s pos).2)) → s.size - W.iterPos W1.heap.size < s.size - wr.iterPos W1.heap.size := by
        intro W h; simp only [World.iterPos, h, hit]; omega
      have HME := hidn hme
      clear hme
      generalize hW : wr.iterAt W1.heap.size s (pos + (Utf8.decode s pos).2) = wi at *
      have HW := hidn hW
      clear hW
      generalize hR : ((Utf8.decode s pos).1 : Int) = r at *
      have HR := hidn hR
      clear hR
      rcases hst with ⟨m1, m2, c, m3, m4, m5⟩ | ⟨m1, m2, m3⟩
      · have M2 := hidn m2
        have M3 := hidn m3
        have M4 := hidn m4
        clear m2 m3 m4 m5
        have hex := extract_list s fr pos
        have HEX := hidn hex
        clear hex
        go_wp2_with fail
        refine (isMark_any r _).mono ?_
        rintro e w' ⟨rfl, rfl⟩
        have hexs : (s.extract fr pos).size ≤ s.size := by rw [ByteArray.size_extract]; omega
        have hexd : Hid ((s.extract fr pos).data.toList = (s.data.toList.drop fr).take (pos - fr)) := hidn (Lib.extract_data s fr pos)
        go_wp2_with fail
        refine (wstrL w.heap.size w.heap.size acc _ _ hI2 (by omega) hsz2).mono ?_
        rintro e W2 ⟨rfl, i2, b2, k2⟩
        have hsz3 : w.heap.size ≤ W2.heap.size := by have := b2.size; omega
        have hit3 := k2.iter hit2 (by omega)
        rw [hexd.out] at i2
        have hlen3 : (acc ++ (s.data.toList.drop fr).take (pos - fr)).length + 1 ≤ 140737488355328 := by simp; omega
        go_wp2_with fail
        refine (wbyteL w.heap.size w.heap.size _ 92 92 rfl _ i2 hlen3 hsz3).mono ?_
        rintro e W3 ⟨rfl, i3, b3, k3⟩
        have hit4 := k3.iter hit3 (by omega)
        go_wp2
        refine ⟨⟨pos, pos + (Utf8.decode s pos).2, _, rfl, by omega, by rw [M2.out]; omega, i3, hit4, (hbw2.trans b2).trans b3, ?_⟩, HME.out _ hit4⟩
        rw [M2.out]
        exact q_mark _ _ _ _ c hfp M3.out M4.out hacc.out
      · have M3 := hidn m3
        clear m3
        go_wp2_with (go_at_call 42; refine (isMark_any r _).mono ?_; rintro e w' ⟨rfl, rfl⟩)
        exact ⟨⟨fr, _, acc, rfl, by omega, m2, hI2, hit2, hbw2, q_skip _ _ _ _ _ hfp (by omega) M3.out hacc.out⟩, HME.out _ hit2⟩
    · have hnx : ∀ ty, (Instr.next (.pointer (some ⟨W1.heap.size, 0, none⟩)) true ty).run Try.prog wr = _ := fun ty => Lib.run_next_end_at wr W1.heap.size s pos ty hit hp
      obtain rfl : pos = s.size := by omega
      have hexs : (s.extract fr s.size).size ≤ s.size := by rw [ByteArray.size_extract]; omega
      have hexd : Hid ((s.extract fr s.size).data.toList = s.data.toList.drop fr) := hidn (by
        rw [Lib.extract_data, List.take_of_length_le (by rw [List.length_drop, ← Lib.size_eq]; exact Nat.le_refl _)])
      have hend : Hid (acc ++ s.data.toList.drop fr = 34 :: quoteL s.data.toList) := hidn (q_end _ _ _ (by rw [hsl.out]; exact hfp) (by rw [hsl.out]; exact hacc.out))
      clear hacc
      go_wp2_with fail
      refine (wstrL w.heap.size w.heap.size acc _ _ hI (by omega) (by omega)).mono ?_
      rintro e W2 ⟨rfl, i2, b2, k2⟩
      have hsz3 : w.heap.size ≤ W2.heap.size := by have := b2.size; omega
      rw [hexd.out, hend.out] at i2
      have hlen3 : (34 :: quoteL s.data.toList).length + 1 ≤ 140737488355328 := by
        have := (quoteL_len s.data.toList).2
        rw [hsl.out] at this
        simp; omega
      go_wp2_with fail
      refine (wbyteL w.heap.size w.heap.size _ 34 34 rfl _ i2 hlen3 hsz3).mono ?_
      rintro e W3 ⟨rfl, i3, b3, k3⟩
      have hsz4 : w.heap.size ≤ W3.heap.size := by have := b3.size; omega
      go_wp2_with fail
      refine (Try.Builder_String_any_k w.heap.size w.heap.size _ _ i3 hsz4).mono ?_
      rintro e W4 ⟨rfl, _, b4, _⟩
      go_wp2
      go_ret
      exact ⟨rfl, ((hbw.trans b2).trans b3).trans b4⟩
end Go.Proofs.Ytkcmaneibfambaa
