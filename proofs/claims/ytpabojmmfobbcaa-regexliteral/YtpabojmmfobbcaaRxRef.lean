/- dryrotref08: runes; Check where a pattern has a fault of UTF-8. -/
import Derived.Test.YtpabojmmfobbcaaRxQ
namespace Go.Proofs.Ytpabojmmfobbcaa
open Go.RowKit Go.Joins
set_option linter.unusedVariables false
theorem i32Info : ∃ i0 z, Try.prog.info? 21 = some i0 ∧ i0.zero = some z ∧ i0.size = 1 ∧ i0.bytes = 4 ∧ z.cells.size = 1 := by
  have h : (Try.prog.info? 21).map (fun i => (i.zero, i.size, i.bytes)) = some (some (.int .i32 0), 1, 4) := by kernel_rfl
  cases hi : Try.prog.info? 21 with
  | none => rw [hi] at h; cases h
  | some i0 =>
    rw [hi] at h
    simp only [Option.map_some, Option.some.injEq, Prod.mk.injEq] at h
    exact ⟨i0, _, rfl, h.1, h.2.1, h.2.2, rfl⟩
def RunesPost (w : World) (e : Ending) (w' : World) : Prop := ∃ a len cap, e = .returned (.slice a len cap) ∧ Below w.heap.size w w'
set_option maxHeartbeats 4000000 in
set_option maxRecDepth 100000 in
theorem runes_any (s : ByteArray) (w : World) (hs : s.size ≤ 1000) :
    Calls Try.prog 20 #[.string s] w (RunesPost w) := by
  obtain ⟨i0, z, hi, hz, hzs, hby, hzc⟩ := i32Info
  go_enter Try.func20, Try.ntmps20
  go_wp2
  go_loopw [3] (fun sv wr => ∃ (pos : Nat) (acc : List Value) (v : Value), sv = v ∧ wr.ownsRow w.heap.size 21 1 v acc.length acc ∧ wr.heap[w.heap.size]? = some (.stringIter s pos) ∧ Below w.heap.size w wr ∧ (acc.length ≤ pos ∧ acc.length ≤ s.size)) (fun _ wr => s.size - wr.iterPos w.heap.size)
  case atStart =>
    refine ⟨0, [], _, rfl, World.ownsRow_nil _ _ _ _, ?_, (Below.refl _ w).alloc (Nat.le_refl _) _, ⟨by simp, by simp⟩⟩
    have := World.iter_heap w s 0
    simpa using this
  case round =>
    obtain ⟨pos, acc, v, rfl, hown, hit, hbw, ⟨hap, has⟩⟩ := hrel
    have hsz : w.heap.size < wr.heap.size := (Array.getElem?_eq_some_iff.1 hit).1
    by_cases hp : pos < s.size
    · have hnx : ∀ ty, (Instr.next (.pointer (some ⟨w.heap.size, 0, none⟩)) true ty).run Try.prog wr = _ := fun ty => Lib.run_next_any_at wr w.heap.size s pos ty hit hp
      have hwd := width_pos s pos hp
      have hlt := decode_lt s pos
      have hit2 := Lib.iterAt_heap wr w.heap.size s pos (pos + (Utf8.decode s pos).2) hit
      have hbw2 := Lib.below_iterAt hbw (k := w.heap.size) (by omega) s (pos + (Utf8.decode s pos).2)
      have own2 := own_iter hown hit (pos + (Utf8.decode s pos).2)
      have hsz2 : w.heap.size < (wr.iterAt w.heap.size s (pos + (Utf8.decode s pos).2)).heap.size := by rw [Lib.iterAt_size]; omega
      have hme : ∀ W : World, W.heap[w.heap.size]? = some (.stringIter s (pos + (Utf8.decode s pos).2)) → s.size - W.iterPos w.heap.size < s.size - wr.iterPos w.heap.size := by
        intro W h; simp only [World.iterPos, h, hit]; omega
      have HME := hidn hme
      clear hme hown
      generalize hW : wr.iterAt w.heap.size s (pos + (Utf8.decode s pos).2) = wi at *
      have HW := hidn hW
      clear hW
      generalize hR : (Utf8.decode s pos).1 = rn at *
      have HR := hidn hR
      clear hR
      obtain ⟨q, hq⟩ : ∃ q, q = pos + (Utf8.decode s pos).2 := ⟨_, rfl⟩
      rw [← hq] at hit2 HME
      have hq1 : pos + 1 ≤ q := by omega
      clear hq
      obtain ⟨sa, sc, hsv⟩ : ∃ sa sc, u3 = .slice sa acc.length sc := by
        rcases own2.2 with ⟨h1, h2⟩ | ⟨g, cap, cur, h1, _⟩
        · exact ⟨none, 0, by rw [h1, h2]⟩
        · exact ⟨_, _, h1⟩
      subst hsv
      have own3 := own_belowS own2 ((Below.refl _ wi).alloc (Nat.le_refl _) (.cells #[.int .i32 (rn : Int)] 21))
      have HO : Hid (acc.length + 1 ≤ s.size) := hidn (by omega)
      clear own2
      go_wp2_with (at_builtin; refine wpList_append_own _ rfl _ _ 64 rfl w.heap.size 21 i0 z 1 4 Try.underlying64 hi hz hzs hby hzc (by decide) _ acc.length acc rfl own3 ⟨wi.heap.size, 0, none⟩ 1 1 [.int .i32 (rn : Int)] rfl rfl ?c1 ?c2 ?c3 ?c4 ?c5 ?_)
      case c1 =>
        intro j u hj
        match j, hj with
        | 0, hj => simp at hj; subst hj; simp [Addr.add]
      case c2 =>
        intro u hu
        simp at hu
        rcases hu with rfl; rfl
      case c3 => unfold maxLen; omega
      case c4 => omega
      case c5 => simp; omega
      intro v' w3 own4 hgrow3 _
      have B3 : Below w.heap.size w w3 := (hbw2.alloc (by omega) _).grown hgrow3 (by simp; omega) (fun j hj => (own3.lt j hj).1)
      have hit3 : w3.heap[w.heap.size]? = some (.stringIter s q) := by
        rw [hgrow3.block _ (by simp; omega) (fun e => by
          rcases own3.2 with ⟨h1, _⟩ | ⟨g, cap, cur, h1, _, hh, _⟩
          · rw [h1] at e; cases e
          · rw [h1] at e
            simp only [Value.ownBlock, Option.some.injEq] at e
            rw [← e, Below.heap_alloc _ _ _ (by omega), hit2] at hh
            cases hh)]
        rw [Below.heap_alloc _ _ _ (by omega)]; exact hit2
      go_wp2
      exact ⟨⟨q, acc ++ [.int .i32 (rn : Int)], _, rfl, by simpa using own4, hit3, B3, ⟨by simp; omega, by simpa using HO.out⟩⟩, HME.out _ hit3⟩
    · have hnx : ∀ ty, (Instr.next (.pointer (some ⟨w.heap.size, 0, none⟩)) true ty).run Try.prog wr = _ := fun ty => Lib.run_next_end_at wr w.heap.size s pos ty hit hp
      obtain ⟨sa, sc, hsv⟩ : ∃ sa sc, u3 = .slice sa acc.length sc := by
        rcases hown.2 with ⟨h1, h2⟩ | ⟨g, cap, cur, h1, _⟩
        · exact ⟨none, 0, by rw [h1, h2]⟩
        · exact ⟨_, _, h1⟩
      subst hsv
      go_wp2
      go_ret
      exact ⟨_, _, _, rfl, hbw⟩
theorem fin5r {w : World} {A : Nat} {T : TypeId} {c0 c1 c2 c3 c4 : Value} (q : w.heap[A]? = some (.cells #[c0, c1, c2, c3, c4] T (0, 0))) (x0 x1 x2 x3 x4 : Value) :
    w.cell? ⟨A, 0, none⟩ = some c0 ∧ w.cell? ⟨A, 1, none⟩ = some c1 ∧ w.cell? ⟨A, 2, none⟩ = some c2 ∧ w.cell? ⟨A, 3, none⟩ = some c3 ∧ w.cell? ⟨A, 4, none⟩ = some c4 ∧ w.frozen? ⟨A, 0, none⟩ = false ∧ w.frozen? ⟨A, 1, none⟩ = false ∧ w.frozen? ⟨A, 2, none⟩ = false ∧ w.frozen? ⟨A, 3, none⟩ = false ∧ w.frozen? ⟨A, 4, none⟩ = false ∧ (((((w.setCell ⟨A, 0, none⟩ x0).setCell ⟨A, 1, none⟩ x1).setCell ⟨A, 2, none⟩ x2).setCell ⟨A, 3, none⟩ x3).setCell ⟨A, 4, none⟩ x4).cell? ⟨A, 0, none⟩ = some x0 ∧ (((((w.setCell ⟨A, 0, none⟩ x0).setCell ⟨A, 1, none⟩ x1).setCell ⟨A, 2, none⟩ x2).setCell ⟨A, 3, none⟩ x3).setCell ⟨A, 4, none⟩ x4).cell? ⟨A, 1, none⟩ = some x1 ∧ (((((w.setCell ⟨A, 0, none⟩ x0).setCell ⟨A, 1, none⟩ x1).setCell ⟨A, 2, none⟩ x2).setCell ⟨A, 3, none⟩ x3).setCell ⟨A, 4, none⟩ x4).cell? ⟨A, 2, none⟩ = some x2 ∧ (((((w.setCell ⟨A, 0, none⟩ x0).setCell ⟨A, 1, none⟩ x1).setCell ⟨A, 2, none⟩ x2).setCell ⟨A, 3, none⟩ x3).setCell ⟨A, 4, none⟩ x4).cell? ⟨A, 3, none⟩ = some x3 ∧ (((((w.setCell ⟨A, 0, none⟩ x0).setCell ⟨A, 1, none⟩ x1).setCell ⟨A, 2, none⟩ x2).setCell ⟨A, 3, none⟩ x3).setCell ⟨A, 4, none⟩ x4).cell? ⟨A, 4, none⟩ = some x4 ∧ (∀ (n : Nat) (w0 : World), Below n w0 w → n ≤ A → Below n w0 (((((w.setCell ⟨A, 0, none⟩ x0).setCell ⟨A, 1, none⟩ x1).setCell ⟨A, 2, none⟩ x2).setCell ⟨A, 3, none⟩ x3).setCell ⟨A, 4, none⟩ x4)) := by
  have q8 := block_setCell (i := 4) (block_setCell (i := 3) (block_setCell (i := 2) (block_setCell (i := 1) (block_setCell (i := 0) q x0) x1) x2) x3) x4
  exact ⟨cell_of_row _ _ _ _ _ _ q, cell_of_row _ _ _ _ _ _ q, cell_of_row _ _ _ _ _ _ q, cell_of_row _ _ _ _ _ _ q, cell_of_row _ _ _ _ _ _ q, unfrozen_of_block q _, unfrozen_of_block q _, unfrozen_of_block q _, unfrozen_of_block q _, unfrozen_of_block q _, by rw [cell_of_row _ _ _ _ _ _ q8]; rfl, by rw [cell_of_row _ _ _ _ _ _ q8]; rfl, by rw [cell_of_row _ _ _ _ _ _ q8]; rfl, by rw [cell_of_row _ _ _ _ _ _ q8]; rfl, by rw [cell_of_row _ _ _ _ _ _ q8]; rfl, fun n w0 hb hA => ((((hb.setCell (p := ⟨A, 0, none⟩) hA _).setCell (p := ⟨A, 1, none⟩) hA _).setCell (p := ⟨A, 2, none⟩) hA _).setCell (p := ⟨A, 3, none⟩) hA _).setCell (p := ⟨A, 4, none⟩) hA _⟩
set_option maxHeartbeats 4000000 in
set_option maxRecDepth 100000 in
theorem refParse_bad (s : ByteArray) (w : World) (hs : s.size ≤ 60) (H : Hid (hasRn s 65533 (s.size + 1) 0 = true)) :
    Calls Try.prog 13 #[.string s] w fun e w' => e = .returned (.tuple #[.agg #[.int .i64 0, .slice none 0 0, .bool false, .int .i32 0, .slice none 0 0], .bool false]) ∧ Below w.heap.size w w' := by
  have hs2 : ¬ (60 : Int) < (s.size : Int) := by omega
  obtain ⟨wA, hwA⟩ : ∃ wA, wA = w.alloc (.cells #[.int .i64 0, .slice none 0 0, .bool false, .int .i32 0, .slice none 0 0] 42) := ⟨_, rfl⟩
  have bA : Below w.heap.size w wA := by rw [hwA]; exact (Below.refl _ w).alloc (Nat.le_refl _) _
  have qA : wA.heap[w.heap.size]? = some (.cells #[.int .i64 0, .slice none 0 0, .bool false, .int .i32 0, .slice none 0 0] 42 (0, 0)) := by rw [hwA]; exact heap_alloc_new w _
  obtain ⟨A, hAe⟩ : ∃ A, A = w.heap.size := ⟨_, rfl⟩
  have hAw : w.heap.size ≤ A := by omega
  have HAA := hidn hAe
  have HWA := hidn hwA
  rw [← hAe] at qA
  clear hAe hwA
  go_enter Try.func13, Try.ntmps13
  go_wp2_with fail
  rw [← HWA.out, ← HAA.out]
  refine (runes_any s wA (by omega)).mono ?_
  rintro e w1 ⟨ra, rl, rc, rfl, hb1⟩
  have q1 := (hb1.block _ (Array.getElem?_eq_some_iff.1 qA).1).trans qA
  go_wp2_with fail
  refine (one_any 65533 s _ (by unfold maxLen; omega)).mono ?_
  rw [H.out]
  rintro e w2 ⟨rfl, hb2⟩
  have q2 := (hb2.block _ (Array.getElem?_eq_some_iff.1 q1).1).trans q1
  have B2 := (bA.trans (hb1.mono bA.size)).trans (hb2.mono (bA.trans (hb1.mono bA.size)).size)
  clear hb1 hb2 q1 qA bA
  obtain ⟨r0, r1, r2, r3, r4, fr0, fr1, fr2, fr3, fr4, t0, t1, t2, t3, t4, hBB⟩ := fin5r q2 (.int .i64 0) (.slice none 0 0) (.bool false) (.int .i32 0) (.slice none 0 0)
  have HB9 := hidn (hBB _ _ B2 hAw)
  clear hBB
  go_wp2_with fail
  exact bodyPost_ret (v := .tuple #[.agg #[.int .i64 0, .slice none 0 0, .bool false, .int .i32 0, .slice none 0 0], .bool false]) (by simp [results, Try.results13, go_sem, t0, t1, t2, t3, t4]) rfl ⟨rfl, HB9.out⟩
set_option maxHeartbeats 4000000 in
set_option maxRecDepth 100000 in
theorem refCheck_bad (s : ByteArray) (w : World) (hs : s.size ≤ 60) (H : Hid (hasRn s 65533 (s.size + 1) 0 = true)) :
    Calls Try.prog 8 #[.string s] w fun e w' => e = .returned (.int .i64 5) ∧ Below w.heap.size w w' := by
  go_enter Try.func8, Try.ntmps8
  go_wp2_with fail
  refine (refParse_bad s _ hs H).mono ?_
  rintro e w1 ⟨rfl, hb1⟩
  go_wp2_with fail
  go_ret
  exact ⟨rfl, hb1.alloc hb1.size _⟩
end Go.Proofs.Ytpabojmmfobbcaa
