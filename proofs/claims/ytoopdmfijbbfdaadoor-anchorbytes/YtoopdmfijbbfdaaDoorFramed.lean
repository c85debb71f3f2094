/- extent.framed, its contract: the bytes that are framed. -/
import Derived.Test.YtoopdmfijbbfdaaDoorFramedWalk
namespace Go.Proofs.YtoopdmfijbbfdaaDoor
open Go.RowKit
set_option linter.unusedVariables false

theorem hid {p : Prop} (h : p) : Hid p := h
theorem list4 {l : List Nat} (h : l.length = 4) : ∃ a b c d, l = [a, b, c, d] := by
  match l, h with
  | [a, b, c, d], _ => exact ⟨a, b, c, d, rfl⟩
theorem list8 {l : List Nat} (h : l.length = 8) : ∃ a b c d e f g k, l = [a, b, c, d, e, f, g, k] := by
  match l, h with
  | [a, b, c, d, e, f, g, k], _ => exact ⟨a, b, c, d, e, f, g, k, rfl⟩
theorem laid_pre (P1 P2 P3 : List Nat) (n : Nat) (h1 : P1.length = 4) (h2 : P2.length = 4) (h3 : P3.length = 8) :
    (splice (splice (splice ((List.replicate 128 0).set 0 229) 1 P1) 5 P2) 9 P3).set 17 n = (229 :: (P1 ++ (P2 ++ (P3 ++ [n])))) ++ List.replicate 110 0 := by
  obtain ⟨a, b, c, d, rfl⟩ := list4 h1
  obtain ⟨a', b', c', d', rfl⟩ := list4 h2
  obtain ⟨a2, b2, c2, d2, e2, f2, g2, k2, rfl⟩ := list8 h3
  rfl
theorem splice_end (A B c : List Nat) (h : c.length ≤ B.length) : splice (A ++ B) A.length c = A ++ (c ++ B.drop c.length) := by
  unfold splice
  rw [List.take_append_of_le_length (Nat.le_refl _), List.take_of_length_le (Nat.le_refl _)]
  congr 2
  rw [List.drop_append, List.drop_of_length_le (by omega), List.nil_append]
  congr 1
  omega
theorem laid_head (nm : List Nat) (i g : Nat) (p : List Nat) (hp : p.length ≤ 106) :
    splice ((splice (splice (splice ((List.replicate 128 0).set 0 229) 1 (putB (crcM 0 nm) 4)) 5 (putB i 4)) 9 (putB g 8)).set 17 p.length) 18 p = headB nm i g p ++ List.replicate 4 0 := by
  rw [laid_pre _ _ _ _ (putB_length _ _) (putB_length _ _) (putB_length _ _)]
  have hl : (229 :: (putB (crcM 0 nm) 4 ++ (putB i 4 ++ (putB g 8 ++ [p.length])))).length = 18 := preB_length nm i g p.length
  have e := splice_end (229 :: (putB (crcM 0 nm) 4 ++ (putB i 4 ++ (putB g 8 ++ [p.length])))) (List.replicate 110 0) p (by simp; omega)
  rw [hl] at e
  rw [e, headB, preB, List.drop_replicate, List.append_assoc, List.append_assoc]
  congr 2
  rw [List.replicate_append_replicate]
  congr 1
  omega
theorem laid_all (nm : List Nat) (i g : Nat) (p : List Nat) (hp : p.length ≤ 106) :
    splice (headB nm i g p ++ List.replicate 4 0) 124 (putB (crcM 0 ((headB nm i g p ++ List.replicate 4 0).take 124)) 4) = frameB nm i g p := by
  have hl := headB_length nm i g p hp
  have e0 : (headB nm i g p ++ List.replicate 4 0).take 124 = headB nm i g p := by
    rw [List.take_append_of_le_length (by omega), List.take_of_length_le (by omega)]
  have e := splice_end (headB nm i g p) (List.replicate 4 0) (putB (crcM 0 (headB nm i g p)) 4) (by simp [putB_length])
  rw [hl] at e
  rw [e0, e, putB_length, frameB]
  simp

theorem framed_any (s : ByteArray) (i g : Nat) (a : Option Addr) (len cap : Nat) (p : List Nat) (w : World) (hB : Bs w a len p) (hT : CrcTab w) (hl : len ≤ 106) (hsm : s.size ≤ maxLen) (hg : g < 18446744073709551616) (hi : i < 18446744073709551616) :
    Calls Tryd.prog 74 #[.string s, .int .i64 i, .int .i64 g, .slice a len cap] w fun e w' => e = .returned (.agg (vb (frameB (nums s) i g p)).toArray) ∧ Below w.heap.size w w' := by
  have hp : p.length ≤ 106 := by rw [hB.1]; exact hl
  have h6 := laid_head (nums s) i g p hp
  rw [hB.1] at h6
  have h8 := laid_all (nums s) i g p hp
  have hz : ∀ x ∈ headB (nums s) i g p ++ List.replicate 4 0, x < 256 := by
    intro x hx
    rcases List.mem_append.1 hx with hx | hx
    · exact headB_lt (nums s) i g p hp hB.2.2.1 x hx
    · have := List.eq_of_mem_replicate hx; omega
  exact framed_raw s i g a len cap p w hB hT hl hsm hg hi (crcM 0 (nums s)) (crcM_lt _ _) (hid rfl) _ _ _ _ _ _ _ _ _ _ _ _ _ (hid rfl) (hid rfl) (hid rfl) (hid rfl) (hid rfl) (hid rfl) (hid h6.symm) (hid rfl) hz _ (hid rfl) (hid rfl) (hid h8.symm) (hid rfl) (hid rfl) (hid rfl)
end Go.Proofs.YtoopdmfijbbfdaaDoor
