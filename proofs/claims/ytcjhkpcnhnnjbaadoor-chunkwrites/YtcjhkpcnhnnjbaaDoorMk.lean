/- The walk of the document's pack: a list as bits. -/
import Derived.Test.YtcjhkpcnhnnjbaaDoorMj
import Derived.Test.YtcjhkpcnhnnjbaaDoorCodRefE
namespace Go.Proofs.YtcjhkpcnhnnjbaaDoor.Cd
open Go.RowKit
set_option linter.unusedVariables false

theorem cell_of_box {w : World} {b : Nat} {cs : Array Value} {t : TypeId} (h : w.heap[b]? = some (.cells cs t (0, 0))) (j : Nat) : w.cell? ⟨b, j, none⟩ = cs[j]? := by
  simp [World.cell?, h]
theorem free_of_box {w : World} {b : Nat} {cs : Array Value} {t : TypeId} (h : w.heap[b]? = some (.cells cs t (0, 0))) (j : Nat) : w.frozen? ⟨b, j, none⟩ = false := by
  simp [World.frozen?, h]
theorem box_set {w : World} {b : Nat} {cs : Array Value} {t : TypeId} (h : w.heap[b]? = some (.cells cs t (0, 0))) (j : Nat) (u : Value) : (w.setCell ⟨b, j, none⟩ u).heap[b]? = some (.cells (cs.setIfInBounds j u) t (0, 0)) := by
  rw [setCell_eq_setRow w b j cs t (0, 0) u h]
  exact setRow_heap w b cs _ t (0, 0) h
theorem box_other {w : World} {b : Nat} {o : Obj} {a : Addr} (h : w.heap[b]? = some o) (hne : b ≠ a.block) (u : Value) : (w.setCell a u).heap[b]? = some o := by
  rw [Below.heap_setCell _ _ _ _ hne]; exact h
theorem box_alloc {w : World} {b : Nat} {o : Obj} (h : w.heap[b]? = some o) (o' : Obj) : (w.alloc o').heap[b]? = some o := by
  rw [Below.heap_alloc _ _ _ ((Array.getElem?_eq_some_iff.1 h).1)]; exact h
theorem box_grown {w w' : World} {b : Nat} {o : Obj} {row : Option Nat} (h : w.heap[b]? = some o) (hg : w.grownBy w' row) (hne : some b ≠ row) : w'.heap[b]? = some o := by
  rw [hg.block b ((Array.getElem?_eq_some_iff.1 h).1) hne]; exact h

theorem nb_succ0 {k : Nat} (h : k % 8 = 0) : nb (k + 1) = nb k + 1 := by unfold nb; omega
theorem nb_succ1 {k : Nat} (h : k % 8 ≠ 0) : nb (k + 1) = nb k := by unfold nb; omega
theorem bitAt_snoc_zero (ys : List Nat) (i : Nat) : bitAt (ys ++ [0]) i = bitAt ys i := bitAt_append_zero ys 1 i
theorem take_getD_succ (l : List Bool) (k i : Nat) (hk : k < l.length) : (l.take (k + 1)).getD i false = ((l.take k).getD i false || (decide (i = k) && l.getD k false)) := by
  simp only [List.getD_eq_getElem?_getD, List.getElem?_take]
  by_cases h1 : i < k
  · simp [h1, show i < k + 1 from by omega, show ¬ i = k from by omega]
  · by_cases h2 : i = k
    · subst h2; simp
    · simp [h1, h2, show ¬ i < k + 1 from by omega]
/-- One bit more: the row has a byte for it. -/
theorem pack_step {ys : List Nat} {l : List Bool} {k : Nat} (hk : k < l.length) (hl : ys.length = nb (k + 1)) (hb : isB ys) (hbits : ∀ i, bitAt ys i = (l.take k).getD i false) : IsPack (setBit ys k (l.getD k false)) (l.take (k + 1)) := by
  refine ⟨by rw [setBit_length, hl]; congr 1; simp; omega, setBit_isB hb _ _, fun i => ?_⟩
  rw [bitAt_setBit ys k _ (by rw [hl]; unfold nb; omega), hbits i, take_getD_succ l k i hk]
theorem setBit_false {ys : List Nat} {k : Nat} (hk : k / 8 < ys.length) : setBit ys k false = ys := by
  unfold setBit
  simp [hk]

/-- What holds behind k rounds. -/
def PK (w wr : World) (n k : Nat) (v : Value) (l : List Bool) (ys : List Nat) : Prop :=
  wr.heap[w.heap.size + 1]? = some (.cells #[v, .int .i64 n] 117 (0, 0)) ∧ wr.ownsRow (w.heap.size + 2) 5 1 v (nb k) (vb ys) ∧ IsPack ys (l.take k) ∧
    Below (w.heap.size + 1) (w.alloc (.cells #[.slice none 0 0, .int .i64 0] 117)) wr ∧ w.heap.size + 2 ≤ wr.heap.size

/-- What holds behind a round's first half: the row has a byte for bit k. -/
def PH (w W : World) (n k g cap : Nat) (l : List Bool) (ys : List Nat) : Prop :=
  W.heap[w.heap.size + 1]? = some (.cells #[.slice (some ⟨g, 0, none⟩) (nb (k + 1)) cap, .int .i64 n] 117 (0, 0)) ∧ W.ownsRow (w.heap.size + 2) 5 1 (.slice (some ⟨g, 0, none⟩) (nb (k + 1)) cap) (nb (k + 1)) (vb ys) ∧
    isB ys ∧ ys.length = nb (k + 1) ∧ (∀ i, bitAt ys i = (l.take k).getD i false) ∧
    Below (w.heap.size + 1) (w.alloc (.cells #[.slice none 0 0, .int .i64 0] 117)) W ∧ w.heap.size + 2 ≤ W.heap.size ∧ w.heap.size + 2 ≤ g
theorem ph_grow {w wr w1 : World} {n k g cap : Nat} {v : Value} {l : List Bool} {ys : List Nat} {o : Obj} (h : PK w wr n k v l ys) (h8 : k % 8 = 0) (hkl : k ≤ l.length)
    (hown1 : w1.ownsRow (w.heap.size + 2) 5 1 (.slice (some ⟨g, 0, none⟩) (nb k + 1) cap) (nb k + 1) (vb ys ++ [.int .u8 0])) (hgrow : (wr.alloc o).grownBy w1 v.ownBlock) (hg : w.heap.size + 2 ≤ g) :
    PH w (w1.setCell ⟨w.heap.size + 1, 0, none⟩ (.slice (some ⟨g, 0, none⟩) (nb k + 1) cap)) n k g cap l (ys ++ [0]) := by
  obtain ⟨hbox, hown, hpk, hbel, hsz⟩ := h
  have hv : ∀ b, v.ownBlock = some b → w.heap.size + 2 ≤ b := by
    intro b hb
    rcases hown.2 with ⟨rfl, _⟩ | ⟨g', cap', cur, rfl, hg', _⟩
    · simp [Value.ownBlock] at hb
    · simp [Value.ownBlock] at hb; omega
  have hbox1 : w1.heap[w.heap.size + 1]? = some (.cells #[v, .int .i64 n] 117 (0, 0)) := box_grown (box_alloc hbox o) hgrow (fun e => by have := hv _ e.symm; omega)
  rw [show vb ys ++ [Value.int .u8 0] = vb (ys ++ [0]) from by simp [vb]] at hown1
  rw [← nb_succ0 h8] at hown1 ⊢
  refine ⟨?_, ownsRow_setCell_below hown1 (by simp) _, ?_, ?_, ?_, ?_, ?_, hg⟩
  · rw [box_set hbox1 0]; rfl
  · intro x hx
    rcases List.mem_append.1 hx with h | h
    · exact hpk.2.1 x h
    · simp at h; omega
  · have := hpk.1
    rw [List.length_take, Nat.min_eq_left hkl] at this
    rw [List.length_append, this, nb_succ0 h8]; rfl
  · intro i; rw [bitAt_snoc_zero]; exact hpk.2.2 i
  · exact (((hbel.alloc (by omega) _).grown hgrow (by simp; omega) (fun b hb => by have := hv b hb; omega)).setCell (by simp) _)
  · have := hgrow.size; simp at this ⊢; omega
theorem ph_keep {w wr : World} {n k g cap : Nat} {l : List Bool} {ys : List Nat} (h : PK w wr n k (.slice (some ⟨g, 0, none⟩) (nb k) cap) l ys) (h8 : k % 8 ≠ 0) (hkl : k ≤ l.length) (hg : w.heap.size + 2 ≤ g) : PH w wr n k g cap l ys := by
  obtain ⟨hbox, hown, hpk, hbel, hsz⟩ := h
  have := hpk.1
  rw [List.length_take, Nat.min_eq_left hkl] at this
  unfold PH
  rw [nb_succ1 h8]
  exact ⟨hbox, hown, hpk.2.1, this, hpk.2.2, hbel, hsz, hg⟩
theorem pk_no {w W : World} {n k g cap : Nat} {l : List Bool} {ys : List Nat} (h : PH w W n k g cap l ys) (hk : k < l.length) (hb : l.getD k false = false) : PK w W n (k + 1) (.slice (some ⟨g, 0, none⟩) (nb (k + 1)) cap) l ys := by
  obtain ⟨hbox, hown, hB, hl, hbits, hbel, hsz, hg⟩ := h
  have := pack_step hk hl hB hbits
  rw [hb, setBit_false (by rw [hl]; unfold nb; omega)] at this
  exact ⟨hbox, hown, this, hbel, hsz⟩
theorem pk_yes {w W : World} {n k g cap : Nat} {l : List Bool} {ys : List Nat} (h : PH w W n k g cap l ys) (hk : k < l.length) (hb : l.getD k false = true) (V : Int) (hV : V = ((ys.getD (k / 8) 0 ||| 2 ^ (7 - k % 8) : Nat) : Int)) :
    PK w (W.setCell ⟨g, k / 8, none⟩ (.int .u8 V)).drew n (k + 1) (.slice (some ⟨g, 0, none⟩) (nb (k + 1)) cap) l (setBit ys k true) := by
  obtain ⟨hbox, hown, hB, hl, hbits, hbel, hsz, hg⟩ := h
  subst hV
  have := pack_step hk hl hB hbits
  rw [hb] at this
  have hst := hown.stored (k / 8) (.int .u8 ((ys.getD (k / 8) 0 ||| 2 ^ (7 - k % 8) : Nat) : Int))
  rw [vb_set] at hst
  refine ⟨box_other hbox (by simp; omega) _, own_drew hst.1, this, (hbel.setCell (by simp; omega) _).drew, ?_⟩
  have := hst.2.size
  show _ ≤ (W.setCell _ _).heap.size
  omega
theorem or_bit (y k : Nat) (hy : y < 256) : bits .or .u8 (y : Int) (128 / 2 ^ (k % 8)) = ((y ||| 2 ^ (7 - k % 8) : Nat) : Int) := by
  have hk : k % 8 = 0 ∨ k % 8 = 1 ∨ k % 8 = 2 ∨ k % 8 = 3 ∨ k % 8 = 4 ∨ k % 8 = 5 ∨ k % 8 = 6 ∨ k % 8 = 7 := by omega
  have key : ∀ m : Nat, m ≤ 7 → bits .or .u8 (y : Int) ((2 ^ m : Nat) : Int) = ((y ||| 2 ^ m : Nat) : Int) := by
    intro m hm
    have hp := Nat.pow_le_pow_right (n := 2) (by omega) hm
    exact bits_or_u .u8 rfl y (2 ^ m) hy (by show 2 ^ m < 256; omega)
  rcases hk with h | h | h | h | h | h | h | h
  · rw [h]; exact key 7 (by omega)
  · rw [h]; exact key 6 (by omega)
  · rw [h]; exact key 5 (by omega)
  · rw [h]; exact key 4 (by omega)
  · rw [h]; exact key 3 (by omega)
  · rw [h]; exact key 2 (by omega)
  · rw [h]; exact key 1 (by omega)
  · rw [h]; exact key 0 (by omega)

theorem own_pos' {w : World} {base e n : Nat} {v : Value} {xs : List Value} (h : w.ownsRow base e 1 v n xs) (hn : 0 < n) : ∃ g cap, v = .slice (some ⟨g, 0, none⟩) n cap ∧ base ≤ g := by
  rcases h.2 with ⟨_, h0⟩ | ⟨g, cap, cur, hv, hg, _⟩
  · omega
  · exact ⟨g, cap, hv, hg⟩
theorem bel_res {w wr : World} {o : Obj} (h : Below (w.heap.size + 1) (w.alloc o) wr) : Below w.heap.size w wr := ((Below.refl _ _).alloc (Nat.le_refl _) o).trans (h.mono (by omega))

end Go.Proofs.YtcjhkpcnhnnjbaaDoor.Cd

namespace Go.Proofs.YtcjhkpcnhnnjbaaDoor.Cd
open Go.RowKit Go.Joins
set_option linter.unusedVariables false
set_option linter.unusedSimpArgs false

/-- What holds behind k bits. -/
def PB (W wr : World) (B len k : Nat) (v : Value) (L : List Bool) (ys : List Nat) : Prop :=
  wr.ownsRow B 5 1 v (2 + nb k) (vb (putB len 2 ++ ys)) ∧ IsPack ys (L.take k) ∧ Below B W wr ∧ Lib.OthersKept 5 none W wr
/-- What holds once bit k has a byte. -/
def PHB (W wr : World) (B len k g cap : Nat) (L : List Bool) (ys : List Nat) : Prop :=
  wr.ownsRow B 5 1 (.slice (some ⟨g, 0, none⟩) (2 + nb (k + 1)) cap) (2 + nb (k + 1)) (vb (putB len 2 ++ ys)) ∧ isB ys ∧ ys.length = nb (k + 1) ∧ (∀ i, bitAt ys i = (L.take k).getD i false) ∧ Below B W wr ∧ Lib.OthersKept 5 none W wr ∧ B ≤ g
theorem phb_grow {W wr w1 : World} {B len k g cap : Nat} {v : Value} {L : List Bool} {ys : List Nat} {o : Obj} (h : PB W wr B len k v L ys) (h8 : k % 8 = 0) (hkl : k ≤ L.length) (hBw : B ≤ wr.heap.size)
    (hown1 : w1.ownsRow B 5 1 (.slice (some ⟨g, 0, none⟩) (2 + nb k + 1) cap) (2 + nb k + 1) (vb (putB len 2 ++ ys) ++ [.int .u8 0])) (hgrow : (wr.alloc o).grownBy w1 v.ownBlock) (hg : B ≤ g) :
    PHB W w1 B len k g cap L (ys ++ [0]) := by
  obtain ⟨hown, hpk, hbel, hkp⟩ := h
  rw [show vb (putB len 2 ++ ys) ++ [Value.int .u8 0] = vb (putB len 2 ++ (ys ++ [0])) from by simp [vb], show 2 + nb k + 1 = 2 + nb (k + 1) from by rw [nb_succ0 h8]; omega] at hown1
  refine ⟨hown1, ?_, ?_, ?_, ?_, ?_, hg⟩
  · intro x hx
    rcases List.mem_append.1 hx with h | h
    · exact hpk.2.1 x h
    · simp at h; omega
  · have := hpk.1
    rw [List.length_take, Nat.min_eq_left hkl] at this
    rw [List.length_append, this, nb_succ0 h8]; rfl
  · intro i; rw [bitAt_snoc_zero]; exact hpk.2.2 i
  · exact (hbel.alloc hBw _).grown hgrow (by simp; omega) (fun b hb => (hown.lt b hb).1)
  · refine (hkp.alloc o).grown hgrow (fun b hb => ?_)
    obtain ⟨c, fz, hc⟩ := Lib.ownsRowF_kind (World.ownsRowF_of (hown.alloc o)) b hb
    exact ⟨c, fz, hc⟩
theorem phb_keep {W wr : World} {B len k g cap : Nat} {L : List Bool} {ys : List Nat} (h : PB W wr B len k (.slice (some ⟨g, 0, none⟩) (2 + nb k) cap) L ys) (h8 : k % 8 ≠ 0) (hkl : k ≤ L.length) (hg : B ≤ g) : PHB W wr B len k g cap L ys := by
  obtain ⟨hown, hpk, hbel, hkp⟩ := h
  have := hpk.1
  rw [List.length_take, Nat.min_eq_left hkl] at this
  unfold PHB
  rw [nb_succ1 h8]
  exact ⟨hown, hpk.2.1, this, hpk.2.2, hbel, hkp, hg⟩
theorem pb_no {W wr : World} {B len k g cap : Nat} {L : List Bool} {ys : List Nat} (h : PHB W wr B len k g cap L ys) (hk : k < L.length) (hb : L.getD k false = false) : PB W wr B len (k + 1) (.slice (some ⟨g, 0, none⟩) (2 + nb (k + 1)) cap) L ys := by
  obtain ⟨hown, hB, hl, hbits, hbel, hkp, hg⟩ := h
  have := pack_step hk hl hB hbits
  rw [hb, setBit_false (by rw [hl]; unfold nb; omega)] at this
  exact ⟨hown, this, hbel, hkp⟩
theorem headed_set (len k y : Nat) (ys : List Nat) : (putB len 2 ++ ys).set (2 + k / 8) y = putB len 2 ++ ys.set (k / 8) y := by
  have h2 : (putB len 2).length = 2 := putB_length 2 len
  rw [List.set_append_right _ _ (by omega), h2]
  congr 2
  omega
theorem headed_getD (len k : Nat) (ys : List Nat) : (putB len 2 ++ ys).getD (2 + k / 8) 0 = ys.getD (k / 8) 0 := by
  have h2 : (putB len 2).length = 2 := putB_length 2 len
  rw [List.getD_eq_getElem?_getD, List.getElem?_append_right (by omega), h2, ← List.getD_eq_getElem?_getD]
  congr 1
  omega
theorem pb_yes {W wr : World} {B len k g cap : Nat} {L : List Bool} {ys : List Nat} (h : PHB W wr B len k g cap L ys) (hk : k < L.length) (hb : L.getD k false = true) (V : Int) (hV : V = ((ys.getD (k / 8) 0 ||| 2 ^ (7 - k % 8) : Nat) : Int)) :
    PB W (wr.setCell ⟨g, 2 + k / 8, none⟩ (.int .u8 V)).drew B len (k + 1) (.slice (some ⟨g, 0, none⟩) (2 + nb (k + 1)) cap) L (setBit ys k true) := by
  obtain ⟨hown, hB, hl, hbits, hbel, hkp, hg⟩ := h
  subst hV
  have := pack_step hk hl hB hbits
  rw [hb] at this
  have hst := hown.stored (2 + k / 8) (.int .u8 ((ys.getD (k / 8) 0 ||| 2 ^ (7 - k % 8) : Nat) : Int))
  rw [vb_set, headed_set] at hst
  obtain ⟨c, fz, hc⟩ := Lib.ownsRowF_kind (World.ownsRowF_of hown) g rfl
  exact ⟨own_drew hst.1, this, (hbel.setCell (p := ⟨g, 2 + k / 8, none⟩) hg _).drew, (hkp.grown hst.2 (fun b hb => by cases hb; exact ⟨c, fz, hc⟩)).drew⟩
theorem pb_end {W wr : World} {B len : Nat} {v : Value} {L : List Bool} {ys : List Nat} (h : PB W wr B len L.length v L ys) : IsPack (putB len 2 ++ ys) (lowBits len 16 ++ L) ∧ wr.ownsRow B 5 1 v (putB len 2 ++ ys).length (vb (putB len 2 ++ ys)) := by
  obtain ⟨hown, hpk, _⟩ := h
  rw [List.take_of_length_le (Nat.le_refl _)] at hpk
  have h2 : (putB len 2).length = 2 := putB_length 2 len
  have hp := putB_pack len 2
  have hb' := hp.bits
  rw [lowBits_length] at hb'
  refine ⟨?_, ?_⟩
  · have := pack_app hp.2.1 hpk
    rw [h2, hb'] at this
    exact this
  · rw [List.length_append, h2, hpk.1]
    exact hown

set_option maxHeartbeats 2000000 in
set_option maxRecDepth 100000 in
theorem renc_no (a : Option Addr) (len cap : Nat) (l : List Sam) (w : World) (h : Sm w a len l) (hc : canS l = false) :
    Calls Tryd.prog 32 #[.slice a len cap] w fun e w' => e = .returned (.tuple #[.slice none 0 0, .int .i64 1]) ∧ Below w.heap.size w w' := by
  go_enter Tryd.func32, Tryd.ntmps32
  go_wp2_with fail
  refine (rcan_any a len cap l _ h).mono ?_
  rintro e w1 ⟨rfl, hb⟩
  rw [hc]
  go_wp2_with fail
  go_ret2
  exact ⟨rfl, hb⟩
end Go.Proofs.YtcjhkpcnhnnjbaaDoor.Cd
