/- An extent's bytes over plain numbers: what is framed is found again where it was laid; a byte that is turned is told by the sum. -/
import Derived.Test.YtoopdmfijbbfdaaDoorCrcMath
namespace Go.Proofs.YtoopdmfijbbfdaaDoor
open Go.RowKit
set_option linter.unusedVariables false

/-- The bytes ahead of the payload. -/
def preB (nm : List Nat) (i g n : Nat) : List Nat := 229 :: (putB (crcM 0 nm) 4 ++ (putB i 4 ++ (putB g 8 ++ [n])))
/-- The first 124 bytes. -/
def headB (nm : List Nat) (i g : Nat) (p : List Nat) : List Nat := preB nm i g p.length ++ (p ++ List.replicate (106 - p.length) 0)
def frameB (nm : List Nat) (i g : Nat) (p : List Nat) : List Nat := headB nm i g p ++ putB (crcM 0 (headB nm i g p)) 4

theorem preB_length (nm : List Nat) (i g n : Nat) : (preB nm i g n).length = 18 := by simp [preB, putB_length]
theorem headB_length (nm : List Nat) (i g : Nat) (p : List Nat) (h : p.length ≤ 106) : (headB nm i g p).length = 124 := by
  simp only [headB, List.length_append, preB_length, List.length_replicate]; omega
theorem frameB_length (nm : List Nat) (i g : Nat) (p : List Nat) (h : p.length ≤ 106) : (frameB nm i g p).length = 128 := by
  simp only [frameB, List.length_append, headB_length nm i g p h, putB_length]
theorem preB_lt (nm : List Nat) (i g n : Nat) (hn : n < 256) : ∀ x ∈ preB nm i g n, x < 256 := by
  intro x hx
  simp only [preB, List.mem_cons, List.mem_append, List.not_mem_nil, or_false] at hx
  rcases hx with rfl | hx | hx | hx | rfl
  · omega
  · exact putB_lt _ _ x hx
  · exact putB_lt _ _ x hx
  · exact putB_lt _ _ x hx
  · exact hn
theorem headB_lt (nm : List Nat) (i g : Nat) (p : List Nat) (h : p.length ≤ 106) (hp : ∀ x ∈ p, x < 256) : ∀ x ∈ headB nm i g p, x < 256 := by
  intro x hx
  simp only [headB, List.mem_append, List.mem_replicate] at hx
  rcases hx with hx | hx | hx
  · exact preB_lt nm i g p.length (by omega) x hx
  · exact hp x hx
  · omega
theorem frameB_lt (nm : List Nat) (i g : Nat) (p : List Nat) (h : p.length ≤ 106) (hp : ∀ x ∈ p, x < 256) : ∀ x ∈ frameB nm i g p, x < 256 := by
  intro x hx
  simp only [frameB, List.mem_append] at hx
  rcases hx with hx | hx
  · exact headB_lt nm i g p h hp x hx
  · exact putB_lt _ _ x hx

/-- A part that lies behind so many others. -/
theorem part_at (a b c : List Nat) (n m : Nat) (hn : a.length = n) (hm : b.length = m) : ((a ++ (b ++ c)).drop n).take m = b := by
  rw [List.drop_append_of_le_length (by omega), List.drop_of_length_le (by omega), List.nil_append, List.take_append_of_le_length (by omega), List.take_of_length_le (by omega)]

theorem frameB_index (nm : List Nat) (i g : Nat) (p : List Nat) : ((frameB nm i g p).drop 5).take 4 = putB i 4 := by
  have e : frameB nm i g p = (229 :: putB (crcM 0 nm) 4) ++ (putB i 4 ++ (putB g 8 ++ [p.length] ++ (p ++ List.replicate (106 - p.length) 0) ++ putB (crcM 0 (headB nm i g p)) 4)) := by
    simp [frameB, headB, preB]
  rw [e]; exact part_at _ _ _ 5 4 (by simp [putB_length]) (putB_length _ _)
theorem frameB_gen (nm : List Nat) (i g : Nat) (p : List Nat) : ((frameB nm i g p).drop 9).take 8 = putB g 8 := by
  have e : frameB nm i g p = (229 :: (putB (crcM 0 nm) 4 ++ putB i 4)) ++ (putB g 8 ++ ([p.length] ++ (p ++ List.replicate (106 - p.length) 0) ++ putB (crcM 0 (headB nm i g p)) 4)) := by
    simp [frameB, headB, preB]
  rw [e]; exact part_at _ _ _ 9 8 (by simp [putB_length]) (putB_length _ _)
theorem frameB_len (nm : List Nat) (i g : Nat) (p : List Nat) : (frameB nm i g p).getD 17 0 = p.length := by
  have e : frameB nm i g p = (229 :: (putB (crcM 0 nm) 4 ++ putB i 4 ++ putB g 8)) ++ (p.length :: ((p ++ List.replicate (106 - p.length) 0) ++ putB (crcM 0 (headB nm i g p)) 4)) := by
    simp [frameB, headB, preB]
  have hl : (229 :: (putB (crcM 0 nm) 4 ++ putB i 4 ++ putB g 8)).length = 17 := by simp [putB_length]
  rw [e, List.getD_eq_getElem?_getD, List.getElem?_append_right (by omega), hl]
  rfl
theorem frameB_load (nm : List Nat) (i g : Nat) (p : List Nat) : ((frameB nm i g p).drop 18).take p.length = p := by
  have e : frameB nm i g p = preB nm i g p.length ++ (p ++ (List.replicate (106 - p.length) 0 ++ putB (crcM 0 (headB nm i g p)) 4)) := by
    simp [frameB, headB]
  rw [e]; exact part_at _ _ _ 18 _ (preB_length _ _ _ _) rfl
theorem frameB_head (nm : List Nat) (i g : Nat) (p : List Nat) (h : p.length ≤ 106) : (frameB nm i g p).take 124 = headB nm i g p := by
  rw [frameB, List.take_append_of_le_length (by rw [headB_length _ _ _ _ h]; omega), List.take_of_length_le (by rw [headB_length _ _ _ _ h]; omega)]
theorem frameB_sum (nm : List Nat) (i g : Nat) (p : List Nat) (h : p.length ≤ 106) : (frameB nm i g p).drop 124 = putB (crcM 0 ((frameB nm i g p).take 124)) 4 := by
  rw [frameB_head _ _ _ _ h, frameB, List.drop_append_of_le_length (by rw [headB_length _ _ _ _ h]; omega), List.drop_of_length_le (by rw [headB_length _ _ _ _ h]; omega), List.nil_append]

theorem putB_inj {k x y : Nat} (hx : x < 256 ^ k) (hy : y < 256 ^ k) (h : putB x k = putB y k) : x = y := by
  have := congrArg (getB 0) h
  rwa [getB_putB, getB_putB, Nat.mod_eq_of_lt hx, Nat.mod_eq_of_lt hy] at this
theorem frameB_index_inj (nm : List Nat) (i j g g' : Nat) (p p' : List Nat) (hi : i < 4294967296) (hj : j < 4294967296) (h : frameB nm i g p = frameB nm j g' p') : i = j := by
  have := frameB_index nm i g p
  rw [h, frameB_index] at this
  exact (putB_inj (k := 4) hj hi this).symm
theorem frameB_gen_get (nm : List Nat) (i g : Nat) (p : List Nat) (hg : g < 18446744073709551616) : getB 0 (((frameB nm i g p).drop 9).take 8) = g := by
  rw [frameB_gen, getB_putB, Nat.mod_eq_of_lt hg]

/-- A byte of an extent that is another one: it is no extent. -/
theorem frameB_turned (nm nm' : List Nat) (i i' g g' : Nat) (p p' : List Nat) (h : p.length ≤ 106) (h' : p'.length ≤ 106) (hp : ∀ x ∈ p, x < 256) (k y : Nat) (hk : k < 128) (hy : y < 256)
    (hne : y ≠ (frameB nm i g p).getD k 0) : (frameB nm i g p).set k y ≠ frameB nm' i' g' p' := by
  intro e
  have hs := frameB_sum nm i g p h
  have hs' := frameB_sum nm' i' g' p' h'
  have hz := frameB_lt nm i g p h hp
  have hl := frameB_length nm i g p h
  rw [← e] at hs'
  generalize frameB nm i g p = zs at *
  by_cases hk4 : k < 124
  · rw [List.drop_set_of_lt hk4, hs] at hs'
    rw [List.take_set] at hs'
    have hc := putB_inj (k := 4) (crcM_lt _ _) (crcM_lt _ _) hs'
    refine crcM_tells (zs.take 124) k y (fun x hx => hz x (List.mem_of_mem_take hx)) (by simp; omega) hy ?_ hc.symm
    simpa [List.getD_eq_getElem?_getD, List.getElem?_take, hk4] using hne
  · rw [List.take_set_of_le (by omega)] at hs'
    rw [← hs] at hs'
    have := congrArg (fun l => l.getD (k - 124) 0) hs'
    simp only [List.getD_eq_getElem?_getD, List.getElem?_drop] at this
    rw [show 124 + (k - 124) = k by omega, List.getElem?_set_self (by omega)] at this
    exact hne (by simpa [List.getD_eq_getElem?_getD] using this)
end Go.Proofs.YtoopdmfijbbfdaaDoor
