/- match: takeMatcher. -/
import Derived.Test.YtobjpofdchjciaaDoorMatC
namespace Go.Proofs.YtobjpofdchjciaaDoor
open Go.RowKit Go.Joins
set_option linter.unusedVariables false
theorem idxC (s : ByteArray) (k : Int) (w : World) (hs : s.size ≤ 100000) (has : ∀ (j : Nat) b, s.data.toList[j]? = some b → b.toNat < 128) (hidx : Lib.indexAny s.data.toList [61, 33] = k) :
    Calls Tryd.prog 32 #[.string s, .string ⟨#[61, 33]⟩] w fun e w' => e = .returned (.int .i64 k) ∧ Below w.heap.size w w' := by
  refine (Tryd.strings_IndexAny_laid s ⟨#[61, 33]⟩ w (by omega) (by decide) has (fun j b h => ?_)).mono ?_
  · match j, h with
    | 0, h => simp at h; subst h; decide
    | 1, h => simp at h; subst h; decide
    | j + 2, h => simp at h
  · rintro e w1 ⟨rfl, hb⟩
    exact ⟨by rw [← hidx], hb⟩
theorem takeSignC (s : ByteArray) (kd : Nat) (bh : ByteArray) (w : World) (ht : SignTab w) (h : signFrom s 4 = (kd, bh)) :
    Calls Tryd.prog 33 #[.string s] w fun e w' => e = .returned (.tuple #[.int .i64 (kd : Int), .string bh]) ∧ Below w.heap.size w w' := by
  have := takeSign_any s w ht
  rw [h] at this
  exact this
set_option maxHeartbeats 2000000 in
set_option maxRecDepth 100000 in
theorem takeMatcher_at (s : ByteArray) (k kd : Nat) (bh : ByteArray) (w : World) (ht : SignTab w) (hs : s.size ≤ 100000) (has : ∀ (j : Nat) b, s.data.toList[j]? = some b → b.toNat < 128) (hidx : Lib.indexAny s.data.toList [61, 33] = (k : Int)) (hk : k ≤ s.size) (hsg : signFrom (s.extract k s.size) 4 = (kd, bh)) (hbs : bh.size ≤ 1099511627776) (T R F : ByteArray) (hT : uqT bh = T) (hR : uqR bh = R) (hU : uqE bh = 0) (hF : s.extract 0 k = F) :
    Calls Tryd.prog 27 #[.string s] w fun e w' => e = .returned (.tuple #[.agg #[.int .i64 (kd : Int), .string F, .string T], .string R, .bool true]) ∧ Below w.heap.size w w' := by
  obtain ⟨E, hE⟩ : ∃ E, E = s.extract k s.size := ⟨_, rfl⟩
  rw [← hE] at hsg
  have HE := hidn hE
  have HSG := hidn hsg
  have g0 : ¬ (k : Int) < 0 := by omega
  have g1 : (k : Int) ≤ (s.size : Int) := by omega
  have g2 : (0 : Int) ≤ (k : Int) := by omega
  obtain ⟨wA, hwA⟩ : ∃ wA, wA = w.alloc (.cells #[.int .i64 0, .string ⟨#[]⟩, .string ⟨#[]⟩] 24) := ⟨_, rfl⟩
  have bA : Below w.heap.size w wA := by rw [hwA]; exact (Below.refl _ w).alloc (Nat.le_refl _) _
  have qA : wA.heap[w.heap.size]? = some (.cells #[.int .i64 0, .string ⟨#[]⟩, .string ⟨#[]⟩] 24 (0, 0)) := by rw [hwA]; exact heap_alloc_new w _
  obtain ⟨A, hAe⟩ : ∃ A, A = w.heap.size := ⟨_, rfl⟩
  have hAw : w.heap.size ≤ A := by omega
  have HAA := hidn hAe
  have HWA := hidn hwA
  rw [← hAe] at qA
  have HT := hidn hT
  have HR := hidn hR
  have HU := hidn hU
  clear hE hsg hAe hwA hT hR hU
  go_enter Tryd.func27, Tryd.ntmps27
  go_wp2_with fail
  rw [← HWA.out, ← HAA.out]
  refine (idxC s (k : Int) _ hs has hidx).mono ?_
  rintro e w1 ⟨rfl, b1⟩
  have q1 := (b1.block _ (Array.getElem?_eq_some_iff.1 qA).1).trans qA
  have B1 : Below w.heap.size w w1 := bA.trans (b1.mono bA.size)
  clear hidx has
  go_wp2_with fail
  rw [← HE.out]
  refine (takeSignC E kd bh _ (ht.below B1) HSG.out).mono ?_
  rintro e w2 ⟨rfl, b2⟩
  have q2 := (b2.block _ (Array.getElem?_eq_some_iff.1 q1).1).trans q1
  have B2 := B1.trans (b2.mono B1.size)
  go_wp2_with fail
  refine (unq_any bh _ hbs).mono ?_
  rintro e w3 ⟨rfl, b3⟩
  have q3 := (b3.block _ (Array.getElem?_eq_some_iff.1 q2).1).trans q2
  have B3 := B2.trans (b3.mono B2.size)
  rw [HT.out, HR.out, HU.out]
  obtain ⟨r0, r1, r2, fr0, fr1, fr2, t0, t1, t2, hBB⟩ := fin3 q3 (.int .i64 (kd : Int)) (.string F) (.string T)
  have HB9 := hidn (hBB _ _ B3 (Nat.le_refl _) hAw)
  clear hBB
  go_wp2_with fail
  exact bodyPost_ret (v := .tuple #[.agg #[.int .i64 (kd : Int), .string F, .string T], .string R, .bool true]) (by simp [results, Tryd.results27, go_sem, t0, t1, t2]) rfl ⟨rfl, HB9.out⟩
end Go.Proofs.YtobjpofdchjciaaDoor
