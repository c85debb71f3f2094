/- dryrotref11.Encode: contracts at every list of samples. -/
import Derived.Test.YtljkidbdlhllcaaDoorCodRefE
import Derived.Test.YtljkidbdlhllcaaDoorRefPack
namespace Go.Proofs.YtljkidbdlhllcaaDoor
open Go.RowKit Go.Joins
set_option linter.unusedVariables false
set_option linter.unusedSimpArgs false

/-- What holds behind k bits. -/
def PB (W wr : World) (B len k : Nat) (v : Value) (L : List Bool) (ys : List Nat) : Prop :=
  wr.ownsRow B 5 1 v (2 + nb k) (vb (putB len 2 ++ ys)) ∧ IsPack ys (L.take k) ∧ Below B W wr ∧ Lib.OthersKept 5 none W wr
/-- What holds once bit k has a byte. -/
def PHB (W wr : World) (B len k g cap : Nat) (L : List Bool) (ys : List Nat) : Prop :=
  wr.ownsRow B 5 1 (.slice (some ⟨g, 0, none⟩) (2 + nb (k + 1)) cap) (2 + nb (k + 1)) (vb (putB len 2 ++ ys)) ∧ isB ys ∧ ys.length = nb (k + 1) ∧ (∀ i, bitAt ys i = (L.take k).getD i false) ∧ Below B W wr ∧ Lib.OthersKept 5 none W wr ∧ B ≤ g
theorem phb_grow {W wr w1 : World} {B len k g cap : Nat} {v : Value} {L : List Bool} {ys : List Nat} {o : Obj} (h : PB W wr B len k v L ys) (h8 : k % 8 = 0) (hkl : k ≤ L.length) (hBw : B ≤ wr.heap.size)
    (hown1 : w1.ownsRow B 5 1 (.slice (some ⟨g, 0, none⟩) (2 + nb k + 1) cap) (2 + nb k + 1) (vb (putB len 2 ++ ys) ++ [.int .u8 0])) (hgrow : (wr.alloc o).grownBy w1 v.ownBlock) (hg : B ≤ g) :
    PHB W w1 B len k g cap L (ys ++ [0]) := by
  obtain ⟨hown, hpk, hbel, hkp⟩ := h
  rw [show vb (putB len 2 ++ ys) ++ [Value.int .u8 0] = vb (putB len 2 ++ (ys ++ [0])) from by simp [vb], show 2 + nb k + 1 = 2 + nb (k + 1) from by rw [nb_succ0 h8]; omega] at hown1
  refine ⟨hown1, ?_, ?_, ?_, ?_, ?_, hg⟩
  · intro x hx
    rcases List.mem_append.1 hx with h | h
    · exact hpk.2.1 x h
    · simp at h; omega
  · have := hpk.1
    rw [List.length_take, Nat.min_eq_left hkl] at this
    rw [List.length_append, this, nb_succ0 h8]; rfl
  · intro i; rw [bitAt_snoc_zero]; exact hpk.2.2 i
  · exact (hbel.alloc hBw _).grown hgrow (by simp; omega) (fun b hb => (hown.lt b hb).1)
  · refine (hkp.alloc o).grown hgrow (fun b hb => ?_)
    obtain ⟨c, fz, hc⟩ := Lib.ownsRowF_kind (World.ownsRowF_of (hown.alloc o)) b hb
    exact ⟨c, fz, hc⟩
theorem phb_keep {W wr : World} {B len k g cap : Nat} {L : List Bool} {ys : List Nat} (h : PB W wr B len k (.slice (some ⟨g, 0, none⟩) (2 + nb k) cap) L ys) (h8 : k % 8 ≠ 0) (hkl : k ≤ L.length) (hg : B ≤ g) : PHB W wr B len k g cap L ys := by
  obtain ⟨hown, hpk, hbel, hkp⟩ := h
  have := hpk.1
  rw [List.length_take, Nat.min_eq_left hkl] at this
  unfold PHB
  rw [nb_succ1 h8]
  exact ⟨hown, hpk.2.1, this, hpk.2.2, hbel, hkp, hg⟩
theorem pb_no {W wr : World} {B len k g cap : Nat} {L : List Bool} {ys : List Nat} (h : PHB W wr B len k g cap L ys) (hk : k < L.length) (hb : L.getD k false = false) : PB W wr B len (k + 1) (.slice (some ⟨g, 0, none⟩) (2 + nb (k + 1)) cap) L ys := by
  obtain ⟨hown, hB, hl, hbits, hbel, hkp, hg⟩ := h
  have := pack_step hk hl hB hbits
  rw [hb, setBit_false (by rw [hl]; unfold nb; omega)] at this
  exact ⟨hown, this, hbel, hkp⟩
theorem headed_set (len k y : Nat) (ys : List Nat) : (putB len 2 ++ ys).set (2 + k / 8) y = putB len 2 ++ ys.set (k / 8) y := by
  have h2 : (putB len 2).length = 2 := putB_length 2 len
  rw [List.set_append_right _ _ (by omega), h2]
  congr 2
  omega
theorem headed_getD (len k : Nat) (ys : List Nat) : (putB len 2 ++ ys).getD (2 + k / 8) 0 = ys.getD (k / 8) 0 := by
  have h2 : (putB len 2).length = 2 := putB_length 2 len
  rw [List.getD_eq_getElem?_getD, List.getElem?_append_right (by omega), h2, ← List.getD_eq_getElem?_getD]
  congr 1
  omega
theorem pb_yes {W wr : World} {B len k g cap : Nat} {L : List Bool} {ys : List Nat} (h : PHB W wr B len k g cap L ys) (hk : k < L.length) (hb : L.getD k false = true) (V : Int) (hV : V = ((ys.getD (k / 8) 0 ||| 2 ^ (7 - k % 8) : Nat) : Int)) :
    PB W (wr.setCell ⟨g, 2 + k / 8, none⟩ (.int .u8 V)).drew B len (k + 1) (.slice (some ⟨g, 0, none⟩) (2 + nb (k + 1)) cap) L (setBit ys k true) := by
  obtain ⟨hown, hB, hl, hbits, hbel, hkp, hg⟩ := h
  subst hV
  have := pack_step hk hl hB hbits
  rw [hb] at this
  have hst := hown.stored (2 + k / 8) (.int .u8 ((ys.getD (k / 8) 0 ||| 2 ^ (7 - k % 8) : Nat) : Int))
  rw [vb_set, headed_set] at hst
  obtain ⟨c, fz, hc⟩ := Lib.ownsRowF_kind (World.ownsRowF_of hown) g rfl
  exact ⟨own_drew hst.1, this, (hbel.setCell (p := ⟨g, 2 + k / 8, none⟩) hg _).drew, (hkp.grown hst.2 (fun b hb => by cases hb; exact ⟨c, fz, hc⟩)).drew⟩
theorem pb_end {W wr : World} {B len : Nat} {v : Value} {L : List Bool} {ys : List Nat} (h : PB W wr B len L.length v L ys) : IsPack (putB len 2 ++ ys) (lowBits len 16 ++ L) ∧ wr.ownsRow B 5 1 v (putB len 2 ++ ys).length (vb (putB len 2 ++ ys)) := by
  obtain ⟨hown, hpk, _⟩ := h
  rw [List.take_of_length_le (Nat.le_refl _)] at hpk
  have h2 : (putB len 2).length = 2 := putB_length 2 len
  have hp := putB_pack len 2
  have hb' := hp.bits
  rw [lowBits_length] at hb'
  refine ⟨?_, ?_⟩
  · have := pack_app hp.2.1 hpk
    rw [h2, hb'] at this
    exact this
  · rw [List.length_append, h2, hpk.1]
    exact hown

set_option maxHeartbeats 2000000 in
set_option maxRecDepth 100000 in
theorem renc_no (a : Option Addr) (len cap : Nat) (l : List Sam) (w : World) (h : Sm w a len l) (hc : canS l = false) :
    Calls Tryd.prog 11 #[.slice a len cap] w fun e w' => e = .returned (.tuple #[.slice none 0 0, .int .i64 1]) ∧ Below w.heap.size w w' := by
  go_enter Tryd.func11, Tryd.ntmps11
  go_wp2_with fail
  refine (rcan_any a len cap l _ h).mono ?_
  rintro e w1 ⟨rfl, hb⟩
  rw [hc]
  go_wp2_with fail
  go_ret2
  exact ⟨rfl, hb⟩
end Go.Proofs.YtljkidbdlhllcaaDoor
