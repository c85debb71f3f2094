/- The walk of the document's pack: a list as bits. -/
import Derived.Test.YtdpoiodaonhjiabDoorRefAdd
namespace Go.Proofs.YtdpoiodaonhjiabDoor
open Go.RowKit
set_option linter.unusedVariables false

theorem cell_of_box {w : World} {b : Nat} {cs : Array Value} {t : TypeId} (h : w.heap[b]? = some (.cells cs t (0, 0))) (j : Nat) : w.cell? ⟨b, j, none⟩ = cs[j]? := by
  simp [World.cell?, h]
theorem free_of_box {w : World} {b : Nat} {cs : Array Value} {t : TypeId} (h : w.heap[b]? = some (.cells cs t (0, 0))) (j : Nat) : w.frozen? ⟨b, j, none⟩ = false := by
  simp [World.frozen?, h]
theorem box_set {w : World} {b : Nat} {cs : Array Value} {t : TypeId} (h : w.heap[b]? = some (.cells cs t (0, 0))) (j : Nat) (u : Value) : (w.setCell ⟨b, j, none⟩ u).heap[b]? = some (.cells (cs.setIfInBounds j u) t (0, 0)) := by
  rw [setCell_eq_setRow w b j cs t (0, 0) u h]
  exact setRow_heap w b cs _ t (0, 0) h
theorem box_other {w : World} {b : Nat} {o : Obj} {a : Addr} (h : w.heap[b]? = some o) (hne : b ≠ a.block) (u : Value) : (w.setCell a u).heap[b]? = some o := by
  rw [Below.heap_setCell _ _ _ _ hne]; exact h
theorem box_alloc {w : World} {b : Nat} {o : Obj} (h : w.heap[b]? = some o) (o' : Obj) : (w.alloc o').heap[b]? = some o := by
  rw [Below.heap_alloc _ _ _ ((Array.getElem?_eq_some_iff.1 h).1)]; exact h
theorem box_grown {w w' : World} {b : Nat} {o : Obj} {row : Option Nat} (h : w.heap[b]? = some o) (hg : w.grownBy w' row) (hne : some b ≠ row) : w'.heap[b]? = some o := by
  rw [hg.block b ((Array.getElem?_eq_some_iff.1 h).1) hne]; exact h

theorem nb_succ0 {k : Nat} (h : k % 8 = 0) : nb (k + 1) = nb k + 1 := by unfold nb; omega
theorem nb_succ1 {k : Nat} (h : k % 8 ≠ 0) : nb (k + 1) = nb k := by unfold nb; omega
theorem bitAt_snoc_zero (ys : List Nat) (i : Nat) : bitAt (ys ++ [0]) i = bitAt ys i := bitAt_append_zero ys 1 i
theorem take_getD_succ (l : List Bool) (k i : Nat) (hk : k < l.length) : (l.take (k + 1)).getD i false = ((l.take k).getD i false || (decide (i = k) && l.getD k false)) := by
  simp only [List.getD_eq_getElem?_getD, List.getElem?_take]
  by_cases h1 : i < k
  · simp [h1, show i < k + 1 from by omega, show ¬ i = k from by omega]
  · by_cases h2 : i = k
    · subst h2; simp
    · simp [h1, h2, show ¬ i < k + 1 from by omega]
/-- One bit more: the row has a byte for it. -/
theorem pack_step {ys : List Nat} {l : List Bool} {k : Nat} (hk : k < l.length) (hl : ys.length = nb (k + 1)) (hb : isB ys) (hbits : ∀ i, bitAt ys i = (l.take k).getD i false) : IsPack (setBit ys k (l.getD k false)) (l.take (k + 1)) := by
  refine ⟨by rw [setBit_length, hl]; congr 1; simp; omega, setBit_isB hb _ _, fun i => ?_⟩
  rw [bitAt_setBit ys k _ (by rw [hl]; unfold nb; omega), hbits i, take_getD_succ l k i hk]
theorem setBit_false {ys : List Nat} {k : Nat} (hk : k / 8 < ys.length) : setBit ys k false = ys := by
  unfold setBit
  simp [hk]

/-- What holds behind k rounds. -/
def PK (w wr : World) (n k : Nat) (v : Value) (l : List Bool) (ys : List Nat) : Prop :=
  wr.heap[w.heap.size + 1]? = some (.cells #[v, .int .i64 n] 24 (0, 0)) ∧ wr.ownsRow (w.heap.size + 2) 5 1 v (nb k) (vb ys) ∧ IsPack ys (l.take k) ∧
    Below (w.heap.size + 1) (w.alloc (.cells #[.slice none 0 0, .int .i64 0] 24)) wr ∧ w.heap.size + 2 ≤ wr.heap.size

/-- What holds behind a round's first half: the row has a byte for bit k. -/
def PH (w W : World) (n k g cap : Nat) (l : List Bool) (ys : List Nat) : Prop :=
  W.heap[w.heap.size + 1]? = some (.cells #[.slice (some ⟨g, 0, none⟩) (nb (k + 1)) cap, .int .i64 n] 24 (0, 0)) ∧ W.ownsRow (w.heap.size + 2) 5 1 (.slice (some ⟨g, 0, none⟩) (nb (k + 1)) cap) (nb (k + 1)) (vb ys) ∧
    isB ys ∧ ys.length = nb (k + 1) ∧ (∀ i, bitAt ys i = (l.take k).getD i false) ∧
    Below (w.heap.size + 1) (w.alloc (.cells #[.slice none 0 0, .int .i64 0] 24)) W ∧ w.heap.size + 2 ≤ W.heap.size ∧ w.heap.size + 2 ≤ g
theorem ph_grow {w wr w1 : World} {n k g cap : Nat} {v : Value} {l : List Bool} {ys : List Nat} {o : Obj} (h : PK w wr n k v l ys) (h8 : k % 8 = 0) (hkl : k ≤ l.length)
    (hown1 : w1.ownsRow (w.heap.size + 2) 5 1 (.slice (some ⟨g, 0, none⟩) (nb k + 1) cap) (nb k + 1) (vb ys ++ [.int .u8 0])) (hgrow : (wr.alloc o).grownBy w1 v.ownBlock) (hg : w.heap.size + 2 ≤ g) :
    PH w (w1.setCell ⟨w.heap.size + 1, 0, none⟩ (.slice (some ⟨g, 0, none⟩) (nb k + 1) cap)) n k g cap l (ys ++ [0]) := by
  obtain ⟨hbox, hown, hpk, hbel, hsz⟩ := h
  have hv : ∀ b, v.ownBlock = some b → w.heap.size + 2 ≤ b := by
    intro b hb
    rcases hown.2 with ⟨rfl, _⟩ | ⟨g', cap', cur, rfl, hg', _⟩
    · simp [Value.ownBlock] at hb
    · simp [Value.ownBlock] at hb; omega
  have hbox1 : w1.heap[w.heap.size + 1]? = some (.cells #[v, .int .i64 n] 24 (0, 0)) := box_grown (box_alloc hbox o) hgrow (fun e => by have := hv _ e.symm; omega)
  rw [show vb ys ++ [Value.int .u8 0] = vb (ys ++ [0]) from by simp [vb]] at hown1
  rw [← nb_succ0 h8] at hown1 ⊢
  refine ⟨?_, ownsRow_setCell_below hown1 (by simp) _, ?_, ?_, ?_, ?_, ?_, hg⟩
  · rw [box_set hbox1 0]; rfl
  · intro x hx
    rcases List.mem_append.1 hx with h | h
    · exact hpk.2.1 x h
    · simp at h; omega
  · have := hpk.1
    rw [List.length_take, Nat.min_eq_left hkl] at this
    rw [List.length_append, this, nb_succ0 h8]; rfl
  · intro i; rw [bitAt_snoc_zero]; exact hpk.2.2 i
  · exact (((hbel.alloc (by omega) _).grown hgrow (by simp; omega) (fun b hb => by have := hv b hb; omega)).setCell (by simp) _)
  · have := hgrow.size; simp at this ⊢; omega
theorem ph_keep {w wr : World} {n k g cap : Nat} {l : List Bool} {ys : List Nat} (h : PK w wr n k (.slice (some ⟨g, 0, none⟩) (nb k) cap) l ys) (h8 : k % 8 ≠ 0) (hkl : k ≤ l.length) (hg : w.heap.size + 2 ≤ g) : PH w wr n k g cap l ys := by
  obtain ⟨hbox, hown, hpk, hbel, hsz⟩ := h
  have := hpk.1
  rw [List.length_take, Nat.min_eq_left hkl] at this
  unfold PH
  rw [nb_succ1 h8]
  exact ⟨hbox, hown, hpk.2.1, this, hpk.2.2, hbel, hsz, hg⟩
theorem pk_no {w W : World} {n k g cap : Nat} {l : List Bool} {ys : List Nat} (h : PH w W n k g cap l ys) (hk : k < l.length) (hb : l.getD k false = false) : PK w W n (k + 1) (.slice (some ⟨g, 0, none⟩) (nb (k + 1)) cap) l ys := by
  obtain ⟨hbox, hown, hB, hl, hbits, hbel, hsz, hg⟩ := h
  have := pack_step hk hl hB hbits
  rw [hb, setBit_false (by rw [hl]; unfold nb; omega)] at this
  exact ⟨hbox, hown, this, hbel, hsz⟩
theorem pk_yes {w W : World} {n k g cap : Nat} {l : List Bool} {ys : List Nat} (h : PH w W n k g cap l ys) (hk : k < l.length) (hb : l.getD k false = true) (V : Int) (hV : V = ((ys.getD (k / 8) 0 ||| 2 ^ (7 - k % 8) : Nat) : Int)) :
    PK w (W.setCell ⟨g, k / 8, none⟩ (.int .u8 V)).drew n (k + 1) (.slice (some ⟨g, 0, none⟩) (nb (k + 1)) cap) l (setBit ys k true) := by
  obtain ⟨hbox, hown, hB, hl, hbits, hbel, hsz, hg⟩ := h
  subst hV
  have := pack_step hk hl hB hbits
  rw [hb] at this
  have hst := hown.stored (k / 8) (.int .u8 ((ys.getD (k / 8) 0 ||| 2 ^ (7 - k % 8) : Nat) : Int))
  rw [vb_set] at hst
  refine ⟨box_other hbox (by simp; omega) _, own_drew hst.1, this, (hbel.setCell (by simp; omega) _).drew, ?_⟩
  have := hst.2.size
  show _ ≤ (W.setCell _ _).heap.size
  omega
theorem or_bit (y k : Nat) (hy : y < 256) : bits .or .u8 (y : Int) (128 / 2 ^ (k % 8)) = ((y ||| 2 ^ (7 - k % 8) : Nat) : Int) := by
  have hk : k % 8 = 0 ∨ k % 8 = 1 ∨ k % 8 = 2 ∨ k % 8 = 3 ∨ k % 8 = 4 ∨ k % 8 = 5 ∨ k % 8 = 6 ∨ k % 8 = 7 := by omega
  have key : ∀ m : Nat, m ≤ 7 → bits .or .u8 (y : Int) ((2 ^ m : Nat) : Int) = ((y ||| 2 ^ m : Nat) : Int) := by
    intro m hm
    have hp := Nat.pow_le_pow_right (n := 2) (by omega) hm
    exact bits_or_u .u8 rfl y (2 ^ m) hy (by show 2 ^ m < 256; omega)
  rcases hk with h | h | h | h | h | h | h | h
  · rw [h]; exact key 7 (by omega)
  · rw [h]; exact key 6 (by omega)
  · rw [h]; exact key 5 (by omega)
  · rw [h]; exact key 4 (by omega)
  · rw [h]; exact key 3 (by omega)
  · rw [h]; exact key 2 (by omega)
  · rw [h]; exact key 1 (by omega)
  · rw [h]; exact key 0 (by omega)

theorem own_pos' {w : World} {base e n : Nat} {v : Value} {xs : List Value} (h : w.ownsRow base e 1 v n xs) (hn : 0 < n) : ∃ g cap, v = .slice (some ⟨g, 0, none⟩) n cap ∧ base ≤ g := by
  rcases h.2 with ⟨_, h0⟩ | ⟨g, cap, cur, hv, hg, _⟩
  · omega
  · exact ⟨g, cap, hv, hg⟩
theorem bel_res {w wr : World} {o : Obj} (h : Below (w.heap.size + 1) (w.alloc o) wr) : Below w.heap.size w wr := ((Below.refl _ _).alloc (Nat.le_refl _) o).trans (h.mono (by omega))

set_option maxHeartbeats 4000000 in
theorem pack_core (a : Option Addr) (m cap : Nat) (l : List Bool) (w : World) (hl : l.length = m) (hm : m ≤ 2199023255552)
    (hsrc : ∀ j, j < m → ∃ g, a = some ⟨g, 0, none⟩ ∧ g < w.heap.size ∧ w.cell? ⟨g, j, none⟩ = some (.bool (l.getD j false))) :
    Calls Tryd.prog 28 #[.slice a m cap] w fun e w' =>
      ∃ v ys, e = .returned (.agg #[v, .int .i64 m]) ∧ w'.ownsRow w.heap.size 5 1 v ys.length (vb ys) ∧ IsPack ys l ∧ Below w.heap.size w w' := by
  obtain ⟨i0, hi, hz0, hz1, hz2⟩ := info_parts Tryd.info5
  go_enter Tryd.func28, Tryd.ntmps28
  go_wp2
  go_loopw [11] (fun iv wr => ∃ k v ys, k ≤ m ∧ iv = .int .i64 (k : Nat) ∧ PK w wr m k v l ys) (fun iv _ => m - (intOf iv).toNat)
  case atStart =>
    refine ⟨0, .slice none 0 0, [], Nat.zero_le _, rfl, ?_, World.ownsRow_nil _ _ _ _, ⟨by simp [nb], (fun x hx => by simp at hx), fun i => by simp [bitAt]⟩, (Below.refl _ _).alloc (by simp) _, by simp⟩
    have := heap_alloc_new (w.alloc (.cells #[.slice none 0 0, .int .i64 0] 24)) (.cells #[.slice none 0 0, .int .i64 m] 24)
    simpa using this
  case round =>
    obtain ⟨k, v, ys, hk, rfl, hbox, hown, hpk, hbel, hsz⟩ := hrel
    have hnb : nb k ≤ 274877906944 := by unfold nb; omega
    by_cases hlt : k < m
    · obtain ⟨g, rfl, hg, hcell⟩ := hsrc k hlt
      have hP : PK w wr m k v l ys := ⟨hbox, hown, hpk, hbel, hsz⟩
      have hcw : wr.cell? ⟨g, k, none⟩ = some (.bool (l.getD k false)) := by
        rw [hbel.cell (by simp; omega), World.cell?_alloc_past _ _ _ hg]; exact hcell
      have c0 : wr.cell? ⟨w.heap.size + 1, 0, none⟩ = some v := by rw [cell_of_box hbox]; rfl
      have f0 : wr.frozen? ⟨w.heap.size + 1, 0, none⟩ = false := free_of_box hbox 0
      have hkl : k < l.length := by omega
      have HKL : Hid _ := hkl
      obtain ⟨bv, hbe⟩ : ∃ bv, l.getD k false = bv := ⟨_, rfl⟩
      rw [hbe] at hcw
      have HBE : Hid _ := hbe
      clear hbe hkl hpk hsrc hcell
      by_cases h8 : k % 8 = 0
      · have b8 : (((k : Int) % 8) == 0) = true := beq_iff_eq.2 (by omega)
        have h8' : Hid _ := h8
        clear h8
        go_wp2_with (at_builtin; refine wpList_append_own _ rfl _ _ 22 rfl (w.heap.size + 2) 5 i0 (.int .u8 0) 1 1 Tryd.underlying22 hi hz0 hz1 hz2 rfl (by decide) _ (nb k) _ rfl (hown.alloc _) ⟨wr.heap.size, 0, none⟩ 1 1 [.int .u8 0] rfl rfl ?c1 ?c2 ?c3 ?c4 ?c5 ?_)
        case c1 =>
          intro j u hj
          match j, hj with
          | 0, hj => simp at hj; subst hj; simp [Addr.add]
        case c2 => intro u hu; simp at hu; subst hu; rfl
        case c3 => unfold maxLen; omega
        case c4 => omega
        case c5 => simp; omega
        intro v1 w1 hown1 hgrow1 _
        obtain ⟨g1, cap1, hv1, hg1⟩ := own_pos' hown1 (by omega)
        rw [hv1] at hown1 ⊢
        have hH := ph_grow hP h8'.out (by have := HKL.out; omega) hown1 hgrow1 hg1
        have hvb : v.ownBlock ≠ some (w.heap.size + 1) := by
          intro e
          rcases hown.2 with ⟨rfl, _⟩ | ⟨g', cap', cur, rfl, hg', _⟩
          · simp [Value.ownBlock] at e
          · simp [Value.ownBlock] at e; omega
        have hbox1 := box_grown (box_alloc hbox _) hgrow1 hvb.symm
        have c1 : w1.cell? ⟨w.heap.size + 1, 0, none⟩ = some v := by rw [cell_of_box hbox1]; rfl
        have f1 : w1.frozen? ⟨w.heap.size + 1, 0, none⟩ = false := free_of_box hbox1 0
        have hne : ¬ g1 = w.heap.size + 1 := by omega
        have hyl : (ys ++ [0]).getD (k / 8) 0 < 256 := getD_lt hH.2.2.1 _
        have cy : w1.cell? ⟨g1, k / 8, none⟩ = some (.int .u8 (((ys ++ [0]).getD (k / 8) 0 : Nat) : Int)) := by
          have := hH.2.1.cellAt (k / 8) (by unfold nb; omega)
          rw [vb_getD _ _ (by rw [hH.2.2.2.1]; unfold nb; omega)] at this
          rwa [World.cell?_setCell_other _ _ _ _ (by simp)] at this
        have fy : w1.frozen? ⟨g1, k / 8, none⟩ = false := hown1.frozenAt _
        have hor := or_bit ((ys ++ [0]).getD (k / 8) 0) k hyl
        have hidx : k / 8 < nb k + 1 := by unfold nb; omega
        clear hown hown1 hgrow1 hP hbox c0 f0 hbox1
        obtain ⟨y, hye⟩ : ∃ y, (ys ++ [0]).getD (k / 8) 0 = y := ⟨_, rfl⟩
        rw [hye] at cy hor
        have HY : Hid _ := hye
        clear hye hyl
        cases bv with
        | true =>
          go_wp2
          go_region
          go_wp2
          go_roundw
          case rel => exact ⟨k + 1, _, _, by omega, by go_num, pk_yes hH HKL.out HBE.out _ (by rw [HY.out])⟩
          case measure => simp [intOf]; omega
        | false =>
          go_wp2
          go_roundw
          case rel => exact ⟨k + 1, _, _, by omega, by go_num, pk_no hH HKL.out HBE.out⟩
          case measure => simp [intOf]; omega
      · have b8 : (((k : Int) % 8) == 0) = false := beq_eq_false_iff_ne.2 (by omega)
        obtain ⟨g1, cap1, hv1, hg1⟩ := own_pos' hown (by unfold nb; omega)
        subst hv1
        have hH := ph_keep hP h8 (by have := HKL.out; omega) hg1
        have hidx : k / 8 < nb k := by unfold nb; omega
        clear h8
        have hne : ¬ g1 = w.heap.size + 1 := by omega
        have hyl : ys.getD (k / 8) 0 < 256 := getD_lt hH.2.2.1 _
        have cy : wr.cell? ⟨g1, k / 8, none⟩ = some (.int .u8 ((ys.getD (k / 8) 0 : Nat) : Int)) := by
          have := hown.cellAt (k / 8) (by omega)
          rwa [vb_getD _ _ (by rw [hH.2.2.2.1]; unfold nb; omega)] at this
        have fy : wr.frozen? ⟨g1, k / 8, none⟩ = false := hown.frozenAt _
        have hor := or_bit (ys.getD (k / 8) 0) k hyl
        clear hown hP hbox
        obtain ⟨y, hye⟩ : ∃ y, ys.getD (k / 8) 0 = y := ⟨_, rfl⟩
        rw [hye] at cy hor
        have HY : Hid _ := hye
        clear hye hyl
        cases bv with
        | true =>
          go_wp2
          go_region
          go_wp2
          go_roundw
          case rel => exact ⟨k + 1, _, _, by omega, by go_num, pk_yes hH HKL.out HBE.out _ (by rw [HY.out])⟩
          case measure => simp [intOf]; omega
        | false =>
          go_wp2
          go_roundw
          case rel => exact ⟨k + 1, _, _, by omega, by go_num, pk_no hH HKL.out HBE.out⟩
          case measure => simp [intOf]; omega
    · obtain rfl : k = m := by omega
      have hbw := bel_res hbel
      have c0 : wr.cell? ⟨w.heap.size + 1, 0, none⟩ = some v := by rw [cell_of_box hbox]; rfl
      have c1 : wr.cell? ⟨w.heap.size + 1, 1, none⟩ = some (.int .i64 k) := by rw [cell_of_box hbox]; rfl
      have r0 : wr.cell? ⟨w.heap.size, 0, none⟩ = some (.slice none 0 0) := (hbel.cell (by simp)).trans (by simp)
      have r1 : wr.cell? ⟨w.heap.size, 1, none⟩ = some (.int .i64 0) := (hbel.cell (by simp)).trans (by simp)
      have f0 : wr.frozen? ⟨w.heap.size, 0, none⟩ = false := (hbel.frozen (by simp)).trans (by simp)
      have f1 : wr.frozen? ⟨w.heap.size, 1, none⟩ = false := (hbel.frozen (by simp)).trans (by simp)
      rw [List.take_of_length_le (by omega)] at hpk
      have hylen : ys.length = nb k := by rw [← hl]; exact hpk.1
      have hown2 : wr.ownsRow (w.heap.size + 2) 5 1 v ys.length (vb ys) := by rw [hylen]; exact hown
      obtain ⟨ao, lo, co, hv⟩ : ∃ ao lo co, v = .slice ao lo co := by
        rcases hown.2 with ⟨rfl, _⟩ | ⟨g', cap', cur, rfl, _⟩
        · exact ⟨_, _, _, rfl⟩
        · exact ⟨_, _, _, rfl⟩
      subst hv
      clear hbox hown hsrc hylen
      go_wp2
      refine bodyPost_ret (v := .agg #[.slice ao lo co, .int .i64 k]) (by simp [results, Tryd.results28, go_sem, r0, r1]) rfl ⟨_, ys, rfl, ?_, hpk, (hbw.setCell (by simp) _).setCell (by simp) _⟩
      exact own_mono (ownsRow_setCell_below (ownsRow_setCell_below hown2 (by simp) _) (by simp) _) (by omega)

theorem vt_len (l : List Bool) : (vt l).length = l.length := by simp [vt]
theorem vt_getD (l : List Bool) (j : Nat) (h : j < l.length) : (vt l)[j]? = some (.bool (l.getD j false)) := by simp [vt, h]
theorem pack_any (v : Value) (m base : Nat) (l : List Bool) (w : World) (hown : w.ownsRow base 4 1 v m (vt l)) (hm : m ≤ 2199023255552) :
    Calls Tryd.prog 28 #[v] w fun e w' =>
      ∃ v ys, e = .returned (.agg #[v, .int .i64 m]) ∧ w'.ownsRow w.heap.size 5 1 v ys.length (vb ys) ∧ IsPack ys l ∧ Below w.heap.size w w' := by
  have hl : l.length = m := by have := hown.1; rw [vt_len] at this; omega
  have h' := hown
  rcases hown.2 with ⟨rfl, rfl⟩ | ⟨g, cap, cur, rfl, hg, hh, _⟩
  · exact pack_core none 0 0 l w hl hm (fun j hj => by omega)
  · refine pack_core (some ⟨g, 0, none⟩) m cap l w hl hm (fun j hj => ⟨g, rfl, (Array.getElem?_eq_some_iff.1 hh).1, ?_⟩)
    rw [h'.cellAt j (by omega), vt_getD l j (by omega)]

set_option maxHeartbeats 1000000 in
theorem refCan_any (a : Option Addr) (len cap : Nat) (x : Int) (zs : List Nat) (w : World) (hB : Bs w a len zs) (hm : len ≤ 137438953472) (hx : x ≤ 9223372036854775807) :
    Calls Tryd.prog 17 #[.agg #[.slice a len cap, .int .i64 x]] w fun e w' => e = .returned (.bool (canB zs x)) ∧ Below w.heap.size w w' := by
  have h0 : Below w.heap.size w (w.alloc (.cells #[.slice a len cap, .int .i64 x] 24)) := (Below.refl _ _).alloc (Nat.le_refl _) _
  have hB2 := hB.below h0
  go_enter Tryd.func17, Tryd.ntmps17
  go_wp2_with fail
  refine (list_any a len cap x zs _ hB2 hm hx).mono ?_
  rintro e w1 ⟨v, rfl, _, _, hb1⟩
  go_wp2
  go_ret
  exact ⟨rfl, h0.trans (hb1.mono (by simp))⟩

end Go.Proofs.YtdpoiodaonhjiabDoor
