/- extent.framed, its contract: the bytes that are framed. -/
import Derived.Test.YtdppolelakbbiaaGreatDoorMg
namespace Go.Proofs.YtdppolelakbbiaaGreatDoor
open Go.RowKit
set_option linter.unusedVariables false
theorem hid {p : Prop} (h : p) : Hid p := h
theorem list4 {l : List Nat} (h : l.length = 4) : ∃ a b c d, l = [a, b, c, d] := by
 match l, h with
 | [a, b, c, d], _ => exact ⟨a, b, c, d, rfl⟩
theorem list8 {l : List Nat} (h : l.length = 8) : ∃ a b c d e f g k, l = [a, b, c, d, e, f, g, k] := by
 match l, h with
 | [a, b, c, d, e, f, g, k], _ => exact ⟨a, b, c, d, e, f, g, k, rfl⟩
theorem laid_pre (P1 P2 P3 : List Nat) (n : Nat) (h1 : P1.length = 4) (h2 : P2.length = 4) (h3 : P3.length = 8) :
  (splice (splice (splice ((List.replicate 128 0).set 0 229) 1 P1) 5 P2) 9 P3).set 17 n = (229 :: (P1 ++ (P2 ++ (P3 ++ [n])))) ++ List.replicate 110 0 := by
 obtain ⟨a, b, c, d, rfl⟩ := list4 h1
 obtain ⟨a', b', c', d', rfl⟩ := list4 h2
 obtain ⟨a2, b2, c2, d2, e2, f2, g2, k2, rfl⟩ := list8 h3
 rfl
theorem splice_end (A B c : List Nat) (h : c.length ≤ B.length) : splice (A ++ B) A.length c = A ++ (c ++ B.drop c.length) := by
 unfold splice
 rw [List.take_append_of_le_length (Nat.le_refl _), List.take_of_length_le (Nat.le_refl _)]
 congr 2
 rw [List.drop_append, List.drop_of_length_le (by omega), List.nil_append]
 congr 1
 omega
theorem laid_head (nm : List Nat) (i g : Nat) (p : List Nat) (hp : p.length ≤ 106) :
  splice ((splice (splice (splice ((List.replicate 128 0).set 0 229) 1 (putB (crcM 0 nm) 4)) 5 (putB i 4)) 9 (putB g 8)).set 17 p.length) 18 p = headB nm i g p ++ List.replicate 4 0 := by
 rw [laid_pre _ _ _ _ (putB_length _ _) (putB_length _ _) (putB_length _ _)]
 have hl : (229 :: (putB (crcM 0 nm) 4 ++ (putB i 4 ++ (putB g 8 ++ [p.length])))).length = 18 := preB_length nm i g p.length
 have e := splice_end (229 :: (putB (crcM 0 nm) 4 ++ (putB i 4 ++ (putB g 8 ++ [p.length])))) (List.replicate 110 0) p (by simp; omega)
 rw [hl] at e
 rw [e, headB, preB, List.drop_replicate, List.append_assoc, List.append_assoc]
 congr 2
 rw [List.replicate_append_replicate]
 congr 1
 omega
theorem laid_all (nm : List Nat) (i g : Nat) (p : List Nat) (hp : p.length ≤ 106) :
  splice (headB nm i g p ++ List.replicate 4 0) 124 (putB (crcM 0 ((headB nm i g p ++ List.replicate 4 0).take 124)) 4) = frameB nm i g p := by
 have hl := headB_length nm i g p hp
 have e0 : (headB nm i g p ++ List.replicate 4 0).take 124 = headB nm i g p := by
  rw [List.take_append_of_le_length (by omega), List.take_of_length_le (by omega)]
 have e := splice_end (headB nm i g p) (List.replicate 4 0) (putB (crcM 0 (headB nm i g p)) 4) (by simp [putB_length])
 rw [hl] at e
 rw [e0, e, putB_length, frameB]
 simp
theorem framed_any (s : ByteArray) (i g : Nat) (a : Option Addr) (len cap : Nat) (p : List Nat) (w : World) (hB : Bs w a len p) (hT : CrcTab w) (hl : len ≤ 106) (hsm : s.size ≤ maxLen) (hg : g < 18446744073709551616) (hi : i < 18446744073709551616) :
  Calls Tryz.prog 97 #[.string s, .int .i64 i, .int .i64 g, .slice a len cap] w fun e w' => e = .returned (.agg (vb (frameB (nums s) i g p)).toArray) ∧ Below w.heap.size w w' := by
 have hp : p.length ≤ 106 := by rw [hB.1]; exact hl
 have h6 := laid_head (nums s) i g p hp
 rw [hB.1] at h6
 have h8 := laid_all (nums s) i g p hp
 have hz : ∀ x ∈ headB (nums s) i g p ++ List.replicate 4 0, x < 256 := by
  intro x hx
  rcases List.mem_append.1 hx with hx | hx
  ·
   exact headB_lt (nums s) i g p hp hB.2.2.1 x hx
  ·
   have := List.eq_of_mem_replicate hx; omega
 exact framed_raw s i g a len cap p w hB hT hl hsm hg hi (crcM 0 (nums s)) (crcM_lt _ _) (hid rfl) _ _ _ _ _ _ _ _ _ _ _ _ _ (hid rfl) (hid rfl) (hid rfl) (hid rfl) (hid rfl) (hid rfl) (hid h6.symm) (hid rfl) hz _ (hid rfl) (hid rfl) (hid h8.symm) (hid rfl) (hid rfl) (hid rfl)
end Go.Proofs.YtdppolelakbbiaaGreatDoor

namespace Go.Proofs.YtdppolelakbbiaaGreatDoor
open Go.RowKit
set_option linter.unusedVariables false
def canB (i g : Int) (len : Nat) : Bool := decide (0 ≤ i ∧ i ≤ 2147483647 ∧ 0 ≤ g ∧ g ≤ 4611686018427387904 ∧ len ≤ 106)
set_option maxHeartbeats 1000000 in
theorem canBe_any (i g : Int) (len : Nat) (w : World) :
  Calls Tryz.prog 96 #[.int .i64 i, .int .i64 g, .int .i64 len] w fun e w' => e = .returned (.bool (canB i g len)) ∧ w' = w := by
 by_cases h1 : 0 ≤ i
 ·
  by_cases h2 : i ≤ 2147483647
  ·
   by_cases h3 : 0 ≤ g
   ·
    by_cases h4 : g ≤ 4611686018427387904
    ·
     by_cases h5 : len ≤ 106
     ·
      have e : canB i g len = true := by simp [canB, h1, h2, h3, h4, h5]
      have h5' : (len : Int) ≤ 106 := by omega
      have HE : Hid (_ = _) := e
      clear e
      go_enter Tryz.func96, Tryz.ntmps96
      go_wp2
      go_ret
      rw [HE.out]; exact ⟨rfl, rfl⟩
     ·
      have e : canB i g len = false := by simp [canB, h5]
      have h5' : ¬ (len : Int) ≤ 106 := by omega
      have HE : Hid (_ = _) := e
      clear e
      go_enter Tryz.func96, Tryz.ntmps96
      go_wp2
      go_ret
      rw [HE.out]; exact ⟨rfl, rfl⟩
    ·
     have e : canB i g len = false := by simp [canB, h4]
     have HE : Hid (_ = _) := e
     clear e
     go_enter Tryz.func96, Tryz.ntmps96
     go_wp2
     go_ret
     rw [HE.out]; exact ⟨rfl, rfl⟩
   ·
    have e : canB i g len = false := by simp [canB, h3]
    have HE : Hid (_ = _) := e
    clear e
    go_enter Tryz.func96, Tryz.ntmps96
    go_wp2
    go_ret
    rw [HE.out]; exact ⟨rfl, rfl⟩
  ·
   have e : canB i g len = false := by simp [canB, h2]
   have HE : Hid (_ = _) := e
   clear e
   go_enter Tryz.func96, Tryz.ntmps96
   go_wp2
   go_ret
   rw [HE.out]; exact ⟨rfl, rfl⟩
 ·
  have e : canB i g len = false := by simp [canB, h1]
  have HE : Hid (_ = _) := e
  clear e
  go_enter Tryz.func96, Tryz.ntmps96
  go_wp2
  go_ret
  rw [HE.out]; exact ⟨rfl, rfl⟩
set_option maxHeartbeats 1000000 in
theorem frame_yes (s : ByteArray) (i g : Nat) (a : Option Addr) (len cap : Nat) (p : List Nat) (w : World) (hB : Bs w a len p) (hT : CrcTab w) (hsm : s.size ≤ maxLen) (hc : canB i g len = true) :
  Calls Tryz.prog 39 #[.string s, .int .i64 i, .int .i64 g, .slice a len cap] w fun e w' => ∃ b, e = .returned (.tuple #[.slice (some ⟨b, 0, none⟩) 128 128, .int .i64 0]) ∧ w.heap.size ≤ b ∧
   w'.heap[b]? = some (.cells (vb (frameB (nums s) i g p)).toArray 130 (0, 0)) ∧ Below w.heap.size w w' := by
 obtain ⟨c1, c2, c3, c4, c5⟩ := of_decide_eq_true hc
 have HC : Hid (_ = _) := hc
 clear hc
 go_enter Tryz.func39, Tryz.ntmps39
 go_wp2_with fail
 refine (canBe_any i g len _).mono ?_
 rw [HC.out]
 rintro e w1 ⟨rfl, rfl⟩
 go_wp2_with fail
 refine (framed_any s i g a len cap p _ hB hT c5 hsm (by omega) (by omega)).mono ?_
 rintro e w2 ⟨rfl, hb2⟩
 have hpl : p.length ≤ 106 := by rw [hB.1]; exact c5
 have hfl := frameB_length (nums s) i g p hpl
 obtain ⟨hz, hzs⟩ := zero_of_info Tryz.infoFrame
 obtain ⟨c0, hc0⟩ : ∃ c0, c0 = List.replicate 128 0 := ⟨_, rfl⟩
 rw [← hc0] at hz
 have l0 : (vb c0).toArray.size = 128 := by rw [hc0]; rfl
 obtain ⟨fz, hfz⟩ : ∃ fz, fz = frameB (nums s) i g p := ⟨_, rfl⟩
 rw [← hfz] at hfl
 rw [← hfz]
 have HFZ : Hid (fz = frameB (nums s) i g p) := hfz
 clear hfz
 have lz : (vb fz).toArray.size = 128 := by simp [length_vb, hfl]
 have hone : (vb fz).toArray.all (·.oneCell') = true := by simpa using one_vb fz
 have HSZ : Hid ((Tryz.prog.info? 130).map (·.size) = some (vb fz).toArray.size) := hid (by rw [hzs, lz])
 have HOLD : Hid ((vb c0).toArray.size = (vb fz).toArray.size) := hid (by rw [l0, lz])
 have HONE : Hid (_ = _) := hone
 clear hone l0 lz hzs hc0 hfl
 go_wp2_with (refine wpList_store_row rfl 130 (.tmp 10) (.tmp 21) rfl w2.heap.size (vb fz).toArray rfl rfl 130 (vb c0).toArray (heap_alloc_new _ _) HSZ.out HOLD.out HONE.out ?_)
 go_ret2
 refine ⟨w2.heap.size, rfl, hb2.size, ?_, ?_⟩
 ·
  rw [← HFZ.out]; exact setRow_heap _ _ _ _ _ _ (heap_alloc_new _ _)
 ·
  exact below_setRow (hb2.alloc hb2.size _) hb2.size _
theorem frame_bs (s : ByteArray) (I G : Int) (i g : Nat) (hI : I = i) (hG : G = g) (a : Option Addr) (len cap : Nat) (p : List Nat) (w : World) (hB : Bs w a len p) (hT : CrcTab w) (hsm : s.size ≤ maxLen) (hi : i ≤ 2147483647) (hg : g ≤ 4611686018427387904) (hl : len ≤ 106) (fz : List Nat) (HF : Hid (fz = frameB (nums s) i g p)) :
  Calls Tryz.prog 39 #[.string s, .int .i64 I, .int .i64 G, .slice a len cap] w fun e w' => ∃ b, e = .returned (.tuple #[.slice (some ⟨b, 0, none⟩) 128 128, .int .i64 0]) ∧ w.heap.size ≤ b ∧
   w'.heap[b]? = some (.cells (vb fz).toArray 130 (0, 0)) ∧ Bs w' (some ⟨b, 0, none⟩) 128 fz ∧ Below w.heap.size w w' := by
 subst hI; subst hG
 have hp : p.length ≤ 106 := by rw [hB.1]; exact hl
 refine (frame_yes s i g a len cap p w hB hT hsm (decide_eq_true ⟨by omega, by omega, by omega, by omega, hl⟩)).mono ?_
 rintro e w' ⟨b, he, hb, hblk, hbel⟩
 rw [← HF.out] at hblk
 have hl : fz.length = 128 := by rw [HF.out]; exact frameB_length _ _ _ _ hp
 have hz : ∀ x ∈ fz, x < 256 := by rw [HF.out]; exact frameB_lt _ _ _ _ hp hB.2.2.1
 have h := bs_of_block hblk (by rw [hl]; decide) hz
 rw [hl] at h
 exact ⟨b, he, hb, hblk, h, hbel⟩
end Go.Proofs.YtdppolelakbbiaaGreatDoor
