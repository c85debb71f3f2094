/- The walks of crc.Put and of the document's Put: whatever number and width, the bytes of the number lie in new memory. -/
import Derived.Test.YthhnpajaacfapaaDoorChecked
import Derived.WalkKit
import Derived.WalkLawsBesides
import Derived.KernelRfl
import Derived.Test.YthhnpajaacfapaaDoorBytes
import Derived.Test.YthhnpajaacfapaaDoorMa
namespace Go.Proofs.YthhnpajaacfapaaDoor
open Go.RowKit
set_option linter.unusedVariables false

set_option maxHeartbeats 1000000 in
theorem put_any (n : Nat) (wd : Int) (k : Nat) (w : World) (hn : n < 18446744073709551616) (hk : (wd < 0 ∧ k = 0) ∨ (0 ≤ wd ∧ wd ≤ 8 ∧ wd = k) ∨ (8 < wd ∧ k = 8)) :
    Calls Tryd.prog 17 #[.int .u64 n, .int .i64 wd] w fun e w' => e = .returned (.slice (some ⟨w.heap.size, 0, none⟩) k k) ∧ w'.ownsRow w.heap.size 5 1 (.slice (some ⟨w.heap.size, 0, none⟩) k k) k (vb (putB n k)) ∧ Below w.heap.size w w' := by
  obtain ⟨i0, hi, hz0, hz1, hz2⟩ := info_parts Tryd.info5
  have h8 : k ≤ 8 := by omega
  rcases hk with ⟨c1, c2⟩ | ⟨c1, c2, rfl⟩ | ⟨c1, c2⟩
  all_goals
    have hkk : Hid _ := c2
    clear c2
    try have hneg : ¬ wd < 0 := by omega
    try have hneg2 : ¬ wd < 8 := by omega
    go_enter Tryd.func17, Tryd.ntmps17
    go_wp2_with (at_make; refine wpList_make_full _ rfl _ _ 29 rfl w.heap.size 5 i0 (.int .u8 0) 1 Tryd.underlying29 hi hz0 hz1 _ _ _ _ k rfl rfl (by have := hkk.out; omega) (by have := hkk.out; omega) (by rw [hz2]; omega) (by unfold maxLen; omega) (Nat.le_refl _) ?_; intro w1 hown1 hgrow1)
    go_loopw [0, 6] (fun nv iv wr => ∃ (m nj : Nat) (suf : List Nat), nv = .int .u64 nj ∧ iv = .int .i64 ((m : Int) - 1) ∧ m ≤ k ∧ nj < 18446744073709551616 ∧ putB nj m ++ suf = putB n k ∧
        wr.ownsRow w.heap.size 5 1 (Value.slice (some { block := w.heap.size, off := 0 }) k k) k (List.replicate m (.int .u8 0) ++ vb suf) ∧ Below w.heap.size w wr)
      (fun _ iv _ => (intOf iv + 1).toNat)
    case atStart =>
      refine ⟨k, n, [], rfl, congrArg (Value.int .i64) (by have := hkk.out; omega), Nat.le_refl _, hn, by simp, ?_, (Below.refl _ _).grown hgrow1 (Nat.le_refl _) (by simp)⟩
      have e : (madeCells (Value.int IntKind.u8 0).cells (k * 1)).toList = List.replicate k (Value.int .u8 0) := by rw [Nat.mul_one]; exact toList_madeCells_one _ _
      rw [e] at hown1
      simpa [vb] using hown1
    case round =>
      obtain ⟨m, nj, suf, rfl, rfl, hm, hnj, hput, hown, hbel⟩ := hrel
      have hput1 : Hid (_ = _) := hput
      clear hput
      by_cases hm0 : 0 < m
      · obtain ⟨m', rfl⟩ : ∃ m', m = m' + 1 := ⟨m - 1, by omega⟩
        have hfz := hown.frozenAt m'
        have hce := hown.cellAt m' (by omega)
        rw [List.getElem?_append_left (by simp), List.getElem?_replicate_of_lt (by omega)] at hce
        go_wp2
        go_roundw
        case rel =>
          have hst := hown.stored m' (.int .u8 ((nj % 256 : Nat) : Int))
          rw [put_set] at hst
          refine ⟨m', nj / 256, (nj % 256) :: suf, by go_num, rfl, by omega, by omega, ?_, hst.1, hbel.setCell (by simp) _⟩
          rw [← hput1.out, putB]; simp
        case measure => simp [intOf]
      · obtain rfl : m = 0 := by omega
        go_wp2
        go_ret
        have := hput1.out
        simp only [putB, List.nil_append] at this
        subst this
        exact ⟨rfl, by simpa using hown, hbel⟩

set_option maxHeartbeats 1000000 in
theorem refPut_any (n : Nat) (wd : Int) (k : Nat) (w : World) (hn : n < 18446744073709551616) (hk : (wd < 0 ∧ k = 0) ∨ (0 ≤ wd ∧ wd ≤ 8 ∧ wd = k) ∨ (8 < wd ∧ k = 8)) :
    Calls Tryd.prog 56 #[.int .u64 n, .int .i64 wd] w fun e w' => e = .returned (.slice (some ⟨w.heap.size, 0, none⟩) k k) ∧ w'.ownsRow w.heap.size 5 1 (.slice (some ⟨w.heap.size, 0, none⟩) k k) k (vb (putB n k)) ∧ Below w.heap.size w w' := by
  obtain ⟨i0, hi, hz0, hz1, hz2⟩ := info_parts Tryd.info5
  have h8 : k ≤ 8 := by omega
  rcases hk with ⟨c1, c2⟩ | ⟨c1, c2, rfl⟩ | ⟨c1, c2⟩
  all_goals
    have hkk : Hid _ := c2
    clear c2
    try have hneg : ¬ wd < 0 := by omega
    try have hneg2 : ¬ wd < 8 := by omega
    go_enter Tryd.func56, Tryd.ntmps56
    go_wp2_with (at_make; refine wpList_make_full _ rfl _ _ 29 rfl w.heap.size 5 i0 (.int .u8 0) 1 Tryd.underlying29 hi hz0 hz1 _ _ _ _ k rfl rfl (by have := hkk.out; omega) (by have := hkk.out; omega) (by rw [hz2]; omega) (by unfold maxLen; omega) (Nat.le_refl _) ?_; intro w1 hown1 hgrow1)
    go_loopw [0, 7] (fun nv iv wr => ∃ (m nj : Nat) (suf : List Nat), nv = .int .u64 nj ∧ iv = .int .i64 ((m : Int) - 1) ∧ m ≤ k ∧ nj < 18446744073709551616 ∧ putB nj m ++ suf = putB n k ∧
        wr.ownsRow w.heap.size 5 1 (Value.slice (some { block := w.heap.size, off := 0 }) k k) k (List.replicate m (.int .u8 0) ++ vb suf) ∧ Below w.heap.size w wr)
      (fun _ iv _ => (intOf iv + 1).toNat)
    case atStart =>
      refine ⟨k, n, [], rfl, congrArg (Value.int .i64) (by have := hkk.out; omega), Nat.le_refl _, hn, by simp, ?_, (Below.refl _ _).grown hgrow1 (Nat.le_refl _) (by simp)⟩
      have e : (madeCells (Value.int IntKind.u8 0).cells (k * 1)).toList = List.replicate k (Value.int .u8 0) := by rw [Nat.mul_one]; exact toList_madeCells_one _ _
      rw [e] at hown1
      simpa [vb] using hown1
    case round =>
      obtain ⟨m, nj, suf, rfl, rfl, hm, hnj, hput, hown, hbel⟩ := hrel
      have hput1 : Hid (_ = _) := hput
      clear hput
      by_cases hm0 : 0 < m
      · obtain ⟨m', rfl⟩ : ∃ m', m = m' + 1 := ⟨m - 1, by omega⟩
        have hfz := hown.frozenAt m'
        have hce := hown.cellAt m' (by omega)
        rw [List.getElem?_append_left (by simp), List.getElem?_replicate_of_lt (by omega)] at hce
        go_wp2
        go_roundw
        case rel =>
          have hst := hown.stored m' (.int .u8 ((nj % 256 : Nat) : Int))
          rw [put_set] at hst
          refine ⟨m', nj / 256, (nj % 256) :: suf, by go_num, rfl, by omega, by omega, ?_, hst.1, hbel.setCell (by simp) _⟩
          rw [← hput1.out, putB]; simp
        case measure => simp [intOf]
      · obtain rfl : m = 0 := by omega
        go_wp2
        go_ret
        have := hput1.out
        simp only [putB, List.nil_append] at this
        subst this
        exact ⟨rfl, by simpa using hown, hbel⟩
end Go.Proofs.YthhnpajaacfapaaDoor

namespace Go.Proofs.YthhnpajaacfapaaDoor
open Go.RowKit
set_option linter.unusedVariables false

/-- The bytes ahead of the payload. -/
def preB (nm : List Nat) (i g n : Nat) : List Nat := 229 :: (putB (crcM 0 nm) 4 ++ (putB i 4 ++ (putB g 8 ++ [n])))
/-- The first 124 bytes. -/
def headB (nm : List Nat) (i g : Nat) (p : List Nat) : List Nat := preB nm i g p.length ++ (p ++ List.replicate (106 - p.length) 0)
def frameB (nm : List Nat) (i g : Nat) (p : List Nat) : List Nat := headB nm i g p ++ putB (crcM 0 (headB nm i g p)) 4

theorem preB_length (nm : List Nat) (i g n : Nat) : (preB nm i g n).length = 18 := by simp [preB, putB_length]
theorem headB_length (nm : List Nat) (i g : Nat) (p : List Nat) (h : p.length ≤ 106) : (headB nm i g p).length = 124 := by
  simp only [headB, List.length_append, preB_length, List.length_replicate]; omega
theorem frameB_length (nm : List Nat) (i g : Nat) (p : List Nat) (h : p.length ≤ 106) : (frameB nm i g p).length = 128 := by
  simp only [frameB, List.length_append, headB_length nm i g p h, putB_length]
theorem preB_lt (nm : List Nat) (i g n : Nat) (hn : n < 256) : ∀ x ∈ preB nm i g n, x < 256 := by
  intro x hx
  simp only [preB, List.mem_cons, List.mem_append, List.not_mem_nil, or_false] at hx
  rcases hx with rfl | hx | hx | hx | rfl
  · omega
  · exact putB_lt _ _ x hx
  · exact putB_lt _ _ x hx
  · exact putB_lt _ _ x hx
  · exact hn
theorem headB_lt (nm : List Nat) (i g : Nat) (p : List Nat) (h : p.length ≤ 106) (hp : ∀ x ∈ p, x < 256) : ∀ x ∈ headB nm i g p, x < 256 := by
  intro x hx
  simp only [headB, List.mem_append, List.mem_replicate] at hx
  rcases hx with hx | hx | hx
  · exact preB_lt nm i g p.length (by omega) x hx
  · exact hp x hx
  · omega
theorem frameB_lt (nm : List Nat) (i g : Nat) (p : List Nat) (h : p.length ≤ 106) (hp : ∀ x ∈ p, x < 256) : ∀ x ∈ frameB nm i g p, x < 256 := by
  intro x hx
  simp only [frameB, List.mem_append] at hx
  rcases hx with hx | hx
  · exact headB_lt nm i g p h hp x hx
  · exact putB_lt _ _ x hx

/-- A part that lies behind so many others. -/
theorem part_at (a b c : List Nat) (n m : Nat) (hn : a.length = n) (hm : b.length = m) : ((a ++ (b ++ c)).drop n).take m = b := by
  rw [List.drop_append_of_le_length (by omega), List.drop_of_length_le (by omega), List.nil_append, List.take_append_of_le_length (by omega), List.take_of_length_le (by omega)]

theorem frameB_index (nm : List Nat) (i g : Nat) (p : List Nat) : ((frameB nm i g p).drop 5).take 4 = putB i 4 := by
  have e : frameB nm i g p = (229 :: putB (crcM 0 nm) 4) ++ (putB i 4 ++ (putB g 8 ++ [p.length] ++ (p ++ List.replicate (106 - p.length) 0) ++ putB (crcM 0 (headB nm i g p)) 4)) := by
    simp [frameB, headB, preB]
  rw [e]; exact part_at _ _ _ 5 4 (by simp [putB_length]) (putB_length _ _)
theorem frameB_gen (nm : List Nat) (i g : Nat) (p : List Nat) : ((frameB nm i g p).drop 9).take 8 = putB g 8 := by
  have e : frameB nm i g p = (229 :: (putB (crcM 0 nm) 4 ++ putB i 4)) ++ (putB g 8 ++ ([p.length] ++ (p ++ List.replicate (106 - p.length) 0) ++ putB (crcM 0 (headB nm i g p)) 4)) := by
    simp [frameB, headB, preB]
  rw [e]; exact part_at _ _ _ 9 8 (by simp [putB_length]) (putB_length _ _)
theorem frameB_len (nm : List Nat) (i g : Nat) (p : List Nat) : (frameB nm i g p).getD 17 0 = p.length := by
  have e : frameB nm i g p = (229 :: (putB (crcM 0 nm) 4 ++ putB i 4 ++ putB g 8)) ++ (p.length :: ((p ++ List.replicate (106 - p.length) 0) ++ putB (crcM 0 (headB nm i g p)) 4)) := by
    simp [frameB, headB, preB]
  have hl : (229 :: (putB (crcM 0 nm) 4 ++ putB i 4 ++ putB g 8)).length = 17 := by simp [putB_length]
  rw [e, List.getD_eq_getElem?_getD, List.getElem?_append_right (by omega), hl]
  rfl
theorem frameB_load (nm : List Nat) (i g : Nat) (p : List Nat) : ((frameB nm i g p).drop 18).take p.length = p := by
  have e : frameB nm i g p = preB nm i g p.length ++ (p ++ (List.replicate (106 - p.length) 0 ++ putB (crcM 0 (headB nm i g p)) 4)) := by
    simp [frameB, headB]
  rw [e]; exact part_at _ _ _ 18 _ (preB_length _ _ _ _) rfl
theorem frameB_head (nm : List Nat) (i g : Nat) (p : List Nat) (h : p.length ≤ 106) : (frameB nm i g p).take 124 = headB nm i g p := by
  rw [frameB, List.take_append_of_le_length (by rw [headB_length _ _ _ _ h]; omega), List.take_of_length_le (by rw [headB_length _ _ _ _ h]; omega)]
theorem frameB_sum (nm : List Nat) (i g : Nat) (p : List Nat) (h : p.length ≤ 106) : (frameB nm i g p).drop 124 = putB (crcM 0 ((frameB nm i g p).take 124)) 4 := by
  rw [frameB_head _ _ _ _ h, frameB, List.drop_append_of_le_length (by rw [headB_length _ _ _ _ h]; omega), List.drop_of_length_le (by rw [headB_length _ _ _ _ h]; omega), List.nil_append]

theorem putB_inj {k x y : Nat} (hx : x < 256 ^ k) (hy : y < 256 ^ k) (h : putB x k = putB y k) : x = y := by
  have := congrArg (getB 0) h
  rwa [getB_putB, getB_putB, Nat.mod_eq_of_lt hx, Nat.mod_eq_of_lt hy] at this
theorem frameB_index_inj (nm : List Nat) (i j g g' : Nat) (p p' : List Nat) (hi : i < 4294967296) (hj : j < 4294967296) (h : frameB nm i g p = frameB nm j g' p') : i = j := by
  have := frameB_index nm i g p
  rw [h, frameB_index] at this
  exact (putB_inj (k := 4) hj hi this).symm
theorem frameB_gen_get (nm : List Nat) (i g : Nat) (p : List Nat) (hg : g < 18446744073709551616) : getB 0 (((frameB nm i g p).drop 9).take 8) = g := by
  rw [frameB_gen, getB_putB, Nat.mod_eq_of_lt hg]

/-- A byte of an extent that is another one: it is no extent. -/
theorem frameB_turned (nm nm' : List Nat) (i i' g g' : Nat) (p p' : List Nat) (h : p.length ≤ 106) (h' : p'.length ≤ 106) (hp : ∀ x ∈ p, x < 256) (k y : Nat) (hk : k < 128) (hy : y < 256)
    (hne : y ≠ (frameB nm i g p).getD k 0) : (frameB nm i g p).set k y ≠ frameB nm' i' g' p' := by
  intro e
  have hs := frameB_sum nm i g p h
  have hs' := frameB_sum nm' i' g' p' h'
  have hz := frameB_lt nm i g p h hp
  have hl := frameB_length nm i g p h
  rw [← e] at hs'
  generalize frameB nm i g p = zs at *
  by_cases hk4 : k < 124
  · rw [List.drop_set_of_lt hk4, hs] at hs'
    rw [List.take_set] at hs'
    have hc := putB_inj (k := 4) (crcM_lt _ _) (crcM_lt _ _) hs'
    refine crcM_tells (zs.take 124) k y (fun x hx => hz x (List.mem_of_mem_take hx)) (by simp; omega) hy ?_ hc.symm
    simpa [List.getD_eq_getElem?_getD, List.getElem?_take, hk4] using hne
  · rw [List.take_set_of_le (by omega)] at hs'
    rw [← hs] at hs'
    have := congrArg (fun l => l.getD (k - 124) 0) hs'
    simp only [List.getD_eq_getElem?_getD, List.getElem?_drop] at this
    rw [show 124 + (k - 124) = k by omega, List.getElem?_set_self (by omega)] at this
    exact hne (by simpa [List.getD_eq_getElem?_getD] using this)
end Go.Proofs.YthhnpajaacfapaaDoor
