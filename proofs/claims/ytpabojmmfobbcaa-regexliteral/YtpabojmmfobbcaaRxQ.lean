/- RegexLiteral: dryrotref08.one, runes; dryrotlaw08.quoted. -/
import Derived.Test.YtpabojmmfobbcaaRxScan
namespace Go.Proofs.Ytpabojmmfobbcaa
open Go.RowKit Go.Joins
set_option linter.unusedVariables false
/-- Whether a code point is among a text's, from a place on. -/
def hasRn (s : ByteArray) (c : Int) : Nat → Nat → Bool
  | 0, _ => false
  | f + 1, pos => if pos < s.size then (if ((Utf8.decode s pos).1 : Int) = c then true else hasRn s c f (pos + (Utf8.decode s pos).2)) else false
set_option maxHeartbeats 4000000 in
set_option maxRecDepth 100000 in
theorem one_any (c : Int) (s : ByteArray) (w : World) (hs : s.size ≤ maxLen) :
    Calls Try.prog 21 #[.int .i32 c, .string s] w fun e w' => e = .returned (.bool (hasRn s c (s.size + 1) 0)) ∧ Below w.heap.size w w' := by
  unfold maxLen at hs
  obtain ⟨P, hP⟩ : ∃ P, P = hasRn s c (s.size + 1) 0 := ⟨_, rfl⟩
  have HPP := hidn hP
  rw [← hP]
  clear hP
  go_enter Try.func21, Try.ntmps21
  go_wp2
  go_loopw [6] (fun _ wr => ∃ pos fuel : Nat, wr.heap[w.heap.size]? = some (.stringIter s pos) ∧ Below w.heap.size w wr ∧ (s.size < pos + fuel ∧ 1 ≤ fuel) ∧ Hid (P = hasRn s c fuel pos)) (fun _ wr => s.size - wr.iterPos w.heap.size)
  case atStart =>
    refine ⟨0, s.size + 1, ?_, (Below.refl _ w).alloc (Nat.le_refl _) _, ⟨by omega, by omega⟩, HPP⟩
    have := World.iter_heap w s 0
    simpa using this
  case round =>
      obtain ⟨pos, fuel, hit, hbw, ⟨hfu, hfu1⟩, HPk⟩ := hrel
      have hsz : w.heap.size < wr.heap.size := (Array.getElem?_eq_some_iff.1 hit).1
      by_cases hp : pos < s.size
      · have hnx : ∀ ty, (Instr.next (.pointer (some ⟨w.heap.size, 0, none⟩)) true ty).run Try.prog wr = _ := fun ty => Lib.run_next_any_at wr w.heap.size s pos ty hit hp
        have hwd := width_pos s pos hp
        have hlt := decode_lt s pos
        obtain ⟨f, rfl⟩ : ∃ f, fuel = f + 1 := ⟨fuel - 1, by omega⟩
        have hit2 := Lib.iterAt_heap wr w.heap.size s pos (pos + (Utf8.decode s pos).2) hit
        have hbw2 := Lib.below_iterAt hbw (k := w.heap.size) (by omega) s (pos + (Utf8.decode s pos).2)
        have hme : ∀ W : World, W.heap[w.heap.size]? = some (.stringIter s (pos + (Utf8.decode s pos).2)) → s.size - W.iterPos w.heap.size < s.size - wr.iterPos w.heap.size := by
          intro W h; simp only [World.iterPos, h, hit]; omega
        have HME := hidn hme
        clear hme
        generalize hW : wr.iterAt w.heap.size s (pos + (Utf8.decode s pos).2) = wi at *
        have HW := hidn hW
        clear hW
        have HS : Hid (P = if ((Utf8.decode s pos).1 : Int) = c then true else hasRn s c f (pos + (Utf8.decode s pos).2)) := hidn (by rw [HPk.out]; simp only [hasRn]; rw [if_pos hp])
        generalize hR : (Utf8.decode s pos).1 = rn at *
        have HR := hidn hR
        clear hR HPk
        obtain ⟨q, hq⟩ : ∃ q, q = pos + (Utf8.decode s pos).2 := ⟨_, rfl⟩
        rw [← hq] at hit2 HS HME
        have hq1 : pos + 1 ≤ q := by omega
        clear hq
        by_cases c1 : (rn : Int) = c
        · have g1 : ((rn : Int) == c) = true := beq_iff_eq.2 c1
          have hPv : P = true := by rw [HS.out, if_pos c1]
          subst hPv
          clear c1
          go_wp2
          exact bodyPost_ret (v := .bool true) (by simp [results, Try.results21, go_sem]) rfl ⟨rfl, hbw2⟩
        · have g1 : ((rn : Int) == c) = false := beq_eq_false_iff_ne.2 c1
          have hPv : Hid (P = hasRn s c f q) := hidn (by rw [HS.out, if_neg c1])
          clear c1
          go_wp2
          exact ⟨⟨q, f, hit2, hbw2, ⟨by omega, by omega⟩, hPv⟩, HME.out _ hit2⟩
      · have hnx : ∀ ty, (Instr.next (.pointer (some ⟨w.heap.size, 0, none⟩)) true ty).run Try.prog wr = _ := fun ty => Lib.run_next_end_at wr w.heap.size s pos ty hit hp
        have hPv : P = false := by
          rw [HPk.out]
          cases fuel with
          | zero => omega
          | succ f => simp only [hasRn]; rw [if_neg hp]
        subst hPv
        go_wp2
        exact bodyPost_ret (v := .bool false) (by simp [results, Try.results21, go_sem]) rfl ⟨rfl, hbw⟩
theorem rune_string (wx : World) (rn : Nat) : (Go.convert 21 9 (.int .i32 (rn : Int))).run Try.prog wx = .ok (.string (Utf8.encode (rn : Int))) wx := by
  simp [Go.convert, run_underlying Try.underlying21, run_underlying Try.underlying9, Conv.intToString, Sem.run_pure]
theorem enc_size (i : Int) : (Utf8.encode i).size ≤ 4 := by
  unfold Utf8.encode
  simp only
  repeat' split
  all_goals simp [ByteArray.size]
/-- Each code point behind a backslash. -/
def quoteL (s : ByteArray) : Nat → Nat → ByteArray → ByteArray
  | 0, _, acc => acc
  | f + 1, pos, acc => if pos < s.size then quoteL s f (pos + (Utf8.decode s pos).2) (acc ++ (⟨#[92]⟩ ++ Utf8.encode ((Utf8.decode s pos).1 : Int))) else acc
def quoteS (s : ByteArray) : ByteArray := quoteL s (s.size + 1) 0 ⟨#[]⟩
set_option maxHeartbeats 4000000 in
set_option maxRecDepth 100000 in
theorem quoted_any (s : ByteArray) (w : World) (hs : s.size ≤ 15) :
    Calls Try.prog 6 #[.string s] w fun e w' => e = .returned (.string (quoteS s)) ∧ Below w.heap.size w w' := by
  obtain ⟨P, hP⟩ : ∃ P, P = quoteS s := ⟨_, rfl⟩
  have HPP : Hid (P = quoteL s (s.size + 1) 0 ⟨#[]⟩) := hidn hP
  rw [← hP]
  clear hP
  go_enter Try.func6, Try.ntmps6
  go_wp2
  go_loopw [3] (fun ov wr => ∃ (pos fuel : Nat) (acc : ByteArray), ov = .string acc ∧ wr.heap[w.heap.size]? = some (.stringIter s pos) ∧ Below w.heap.size w wr ∧ (s.size < pos + fuel ∧ 1 ≤ fuel) ∧ (acc.size ≤ 5 * pos ∧ pos ≤ s.size + 4) ∧ Hid (P = quoteL s fuel pos acc)) (fun _ wr => s.size - wr.iterPos w.heap.size)
  case atStart =>
    refine ⟨0, s.size + 1, ⟨#[]⟩, rfl, ?_, (Below.refl _ w).alloc (Nat.le_refl _) _, ⟨by omega, by omega⟩, ⟨by decide, by omega⟩, HPP⟩
    have := World.iter_heap w s 0
    simpa using this
  case round =>
      obtain ⟨pos, fuel, acc, rfl, hit, hbw, ⟨hfu, hfu1⟩, ⟨hac, hpo⟩, HPk⟩ := hrel
      have hsz : w.heap.size < wr.heap.size := (Array.getElem?_eq_some_iff.1 hit).1
      by_cases hp : pos < s.size
      · have hnx : ∀ ty, (Instr.next (.pointer (some ⟨w.heap.size, 0, none⟩)) true ty).run Try.prog wr = _ := fun ty => Lib.run_next_any_at wr w.heap.size s pos ty hit hp
        have hwd := width_pos s pos hp
        have hlt := decode_lt s pos
        obtain ⟨f, rfl⟩ : ∃ f, fuel = f + 1 := ⟨fuel - 1, by omega⟩
        have hit2 := Lib.iterAt_heap wr w.heap.size s pos (pos + (Utf8.decode s pos).2) hit
        have hbw2 := Lib.below_iterAt hbw (k := w.heap.size) (by omega) s (pos + (Utf8.decode s pos).2)
        have hme : ∀ W : World, W.heap[w.heap.size]? = some (.stringIter s (pos + (Utf8.decode s pos).2)) → s.size - W.iterPos w.heap.size < s.size - wr.iterPos w.heap.size := by
          intro W h; simp only [World.iterPos, h, hit]; omega
        have HME := hidn hme
        clear hme
        generalize hW : wr.iterAt w.heap.size s (pos + (Utf8.decode s pos).2) = wi at *
        have HW := hidn hW
        clear hW
        have HS : Hid (P = quoteL s f (pos + (Utf8.decode s pos).2) (acc ++ (⟨#[92]⟩ ++ Utf8.encode ((Utf8.decode s pos).1 : Int)))) := hidn (by rw [HPk.out]; simp only [quoteL]; rw [if_pos hp])
        have hwd4 : (Utf8.decode s pos).2 ≤ 4 := by
          unfold Utf8.decode
          simp only [Utf8.runeError]
          repeat' split
          all_goals simp
        generalize hR : (Utf8.decode s pos).1 = rn at *
        have HR := hidn hR
        clear hR HPk
        obtain ⟨q, hq⟩ : ∃ q, q = pos + (Utf8.decode s pos).2 := ⟨_, rfl⟩
        rw [← hq] at hit2 HS HME
        have hq1 : pos + 1 ≤ q := by omega
        have hq2 : q ≤ s.size + 4 := by omega
        clear hq
        have kc := fun wx : World => rune_string wx rn
        have hen := enc_size (rn : Int)
        generalize Utf8.encode (rn : Int) = en at *
        have hsA : ((⟨#[92]⟩ : ByteArray) ++ en).size = 1 + en.size := by rw [ByteArray.size_append]; rfl
        have hsB : (acc ++ ((⟨#[92]⟩ : ByteArray) ++ en)).size = acc.size + (1 + en.size) := by rw [ByteArray.size_append, hsA]
        go_wp2
        exact ⟨⟨q, f, _, rfl, hit2, hbw2, ⟨by omega, by omega⟩, ⟨by rw [hsB]; omega, hq2⟩, HS⟩, HME.out _ hit2⟩
      · have hnx : ∀ ty, (Instr.next (.pointer (some ⟨w.heap.size, 0, none⟩)) true ty).run Try.prog wr = _ := fun ty => Lib.run_next_end_at wr w.heap.size s pos ty hit hp
        have hPv : P = acc := by
          rw [HPk.out]
          cases fuel with
          | zero => omega
          | succ f => simp only [quoteL]; rw [if_neg hp]
        subst hPv
        go_wp2
        exact bodyPost_ret (v := .string P) (by simp [results, Try.results6, go_sem]) rfl ⟨rfl, hbw⟩
end Go.Proofs.Ytpabojmmfobbcaa
