/- The walk of the document's list: bits as a list, or none. -/
import Derived.Test.YtcjhkpcnhnnjbaaDoorMa
import Derived.Test.YtcjhkpcnhnnjbaaDoorCodInj
namespace Go.Proofs.YtcjhkpcnhnnjbaaDoor.Cd
open Go.RowKit
set_option linter.unusedVariables false
theorem Tryd.info4 : (Tryd.prog.info? 4).map (fun i => (i.zero, i.size, i.bytes)) = some (some (.bool false), 1, 1) := by kernel_rfl

def vt (l : List Bool) : List Value := l.map Value.bool

theorem bit_walk (y i : Nat) (hy : y < 256) : (bits .and .u8 (y : Int) (128 / 2 ^ (i % 8)) != 0) = y.testBit (7 - i % 8) := by
  have hk : i % 8 = 0 ∨ i % 8 = 1 ∨ i % 8 = 2 ∨ i % 8 = 3 ∨ i % 8 = 4 ∨ i % 8 = 5 ∨ i % 8 = 6 ∨ i % 8 = 7 := by omega
  have key : ∀ m : Nat, m ≤ 7 → (bits .and .u8 (y : Int) ((2 ^ m : Nat) : Int) != 0) = y.testBit m := by
    intro m hm
    have hp := Nat.pow_le_pow_right (n := 2) (by omega) hm
    rw [bits_and_u .u8 rfl y (2 ^ m) hy (by show 2 ^ m < 256; omega)]
    rw [Bool.eq_iff_iff, bne_iff_ne]
    have e : y &&& 2 ^ m = if y.testBit m then 2 ^ m else 0 := by
      refine Nat.eq_of_testBit_eq fun j => ?_
      rw [Nat.testBit_and, Nat.testBit_two_pow]
      by_cases hj : m = j
      · subst hj; cases h : y.testBit m <;> simp [Nat.testBit_two_pow_self]
      · cases h : y.testBit m <;> simp [hj]
    rw [e]
    have hpos := Nat.two_pow_pos m
    cases h : y.testBit m
    · simp
    · simp only [if_true]
      generalize 2 ^ m = p at hpos ⊢
      simp
      omega
  rcases hk with h | h | h | h | h | h | h | h
  · rw [h]; exact key 7 (by omega)
  · rw [h]; exact key 6 (by omega)
  · rw [h]; exact key 5 (by omega)
  · rw [h]; exact key 4 (by omega)
  · rw [h]; exact key 3 (by omega)
  · rw [h]; exact key 2 (by omega)
  · rw [h]; exact key 1 (by omega)
  · rw [h]; exact key 0 (by omega)

theorem can_no {zs : List Nat} {n k : Nat} (hk : k < 8 * zs.length) (hn : n ≤ k) (hb : bitAt zs k = true) : canB zs n = false := by
  rw [Bool.eq_false_iff]
  intro h
  have := ((canB_iff zs n).1 h).2.2 k hk (by rw [Int.toNat_natCast]; exact hn)
  rw [hb] at this; cases this
theorem can_yes {zs : List Nat} {n : Nat} (hl : zs.length = nb n) (h : ∀ j, j < 8 * zs.length → n ≤ j → bitAt zs j = false) : canB zs n = true := by
  rw [canB_iff]
  exact ⟨by omega, by rw [Int.toNat_natCast]; exact hl, fun i hi hn => h i hi (by rw [Int.toNat_natCast] at hn; exact hn)⟩
theorem vt_snoc (zs : List Nat) (k : Nat) : vt (bitsL zs k) ++ [Value.bool (bitAt zs k)] = vt (bitsL zs (k + 1)) := by simp [vt, bitsL_succ]
theorem vt_length (zs : List Nat) (k : Nat) : (vt (bitsL zs k)).length = k := by simp [vt, bitsL_length]

end Go.Proofs.YtcjhkpcnhnnjbaaDoor.Cd

namespace Go.Proofs.YtcjhkpcnhnnjbaaDoor.Cd
open Go.RowKit
set_option linter.unusedVariables false

theorem low_walk (n i : Nat) (hn : n < 18446744073709551616) : (bits .and .u64 ((n : Int) / 2 ^ i) 1 == 1) = n.testBit i := by
  have h1 : n / 2 ^ i < 18446744073709551616 := Nat.lt_of_le_of_lt (Nat.div_le_self _ _) hn
  have e : ((n : Int) / 2 ^ i) = ((n / 2 ^ i : Nat) : Int) := by push_cast; rfl
  rw [e, and1_u64 _ h1, Nat.testBit_eq_decide_div_mod_eq]
  have h2 : n / 2 ^ i % 2 = 0 ∨ n / 2 ^ i % 2 = 1 := by omega
  rcases h2 with h2 | h2 <;> rw [h2] <;> rfl
theorem lowBits_take_succ (n count t : Nat) (ht : t < count) : (lowBits n count).take (t + 1) = (lowBits n count).take t ++ [n.testBit (count - 1 - t)] := by
  rw [List.take_succ_eq_append_getElem (by rw [lowBits_length]; exact ht)]
  simp [lowBits]
theorem vt_app (l : List Bool) (b : Bool) : vt l ++ [Value.bool b] = vt (l ++ [b]) := by simp [vt]

end Go.Proofs.YtcjhkpcnhnnjbaaDoor.Cd

namespace Go.Proofs.YtcjhkpcnhnnjbaaDoor.Cd
open Go.RowKit Go.Joins
set_option linter.unusedVariables false
set_option linter.unusedSimpArgs false

/-- The document's bits in memory: a block b with a row of its own. -/
def OI (w : World) (B b : Nat) (L : List Bool) : Prop :=
  B ≤ b ∧ ∃ v, w.heap[b]? = some (.cells #[v] 96 (0, 0)) ∧ w.ownsRow B 4 1 v L.length (vt L)
theorem OI.below {w w' : World} {B b : Nat} {L : List Bool} (h : OI w B b L) (hb : Below w.heap.size w w') : OI w' B b L := by
  obtain ⟨h1, v, h2, h3⟩ := h
  refine ⟨h1, v, (hb.block b (Array.getElem?_eq_some_iff.1 h2).1).trans h2, ?_⟩
  refine ⟨h3.1, ?_⟩
  rcases h3.2 with h4 | ⟨g, cap, cur, hv, hg, hh, r⟩
  · exact .inl h4
  · exact .inr ⟨g, cap, cur, hv, hg, (hb.block g (Array.getElem?_eq_some_iff.1 hh).1).trans hh, r⟩
set_option maxHeartbeats 4000000 in
set_option maxRecDepth 100000 in
theorem oput_any (B b n count : Nat) (L : List Bool) (w : World) (hBw : B ≤ w.heap.size) (h : OI w B b L) (hn : n < 18446744073709551616) (hc : count ≤ 64) (hL : L.length ≤ 1000000000) :
    Calls Tryd.prog 59 #[.pointer (some ⟨b, 0, none⟩), .int .u64 (n : Int), .int .i64 (count : Int)] w fun e w' =>
      e = .returned (.tuple #[]) ∧ OI w' B b (L ++ lowBits n count) ∧ Below B w w' ∧ Lib.OthersKept 4 (some b) w w' := by
  obtain ⟨i0, hi, hz0, hz1, hz2⟩ := info_parts Tryd.info4
  go_enter Tryd.func59, Tryd.ntmps59
  go_wp2_with fail
  go_loopw [6] (fun iv wr => ∃ t : Nat, t ≤ count ∧ iv = .int .i64 ((count : Int) - 1 - t) ∧ OI wr B b (L ++ (lowBits n count).take t) ∧ Below B w wr ∧ Lib.OthersKept 4 (some b) w wr) (fun iv _ => (intOf iv + 1).toNat)
  case atStart => exact ⟨0, Nat.zero_le _, congrArg (Value.int .i64) (by omega), by simpa using h, Below.refl _ _, Lib.OthersKept.refl _ _ _⟩
  case round =>
    obtain ⟨t, ht, rfl, hoi, hbel, hkp⟩ := hrel
    by_cases hlt : t < count
    · obtain ⟨i, hi1⟩ : ∃ i : Nat, i = count - 1 - t := ⟨_, rfl⟩
      have hie : ((count : Int) - 1 - t) = (i : Int) := by omega
      rw [hie]
      have hi64 : i < 64 := by omega
      have hlow := low_walk n i hn
      obtain ⟨hBb, v, hb, hown⟩ := hoi
      obtain ⟨vo, vc, rfl⟩ := own_slice hown
      obtain ⟨mL, hmL⟩ : ∃ mL, mL = (L ++ (lowBits n count).take t).length := ⟨_, rfl⟩
      rw [← hmL] at hb hown
      have hmb : mL ≤ 1000000064 := by rw [hmL, List.length_append, List.length_take, lowBits_length]; omega
      obtain ⟨bt, hbt⟩ : ∃ bt, bt = n.testBit i := ⟨_, rfl⟩
      rw [← hbt] at hlow
      have hsz := hbel.size
      have hBr : B ≤ wr.heap.size := by omega
      have hblt : b < wr.heap.size := (Array.getElem?_eq_some_iff.1 hb).1
      have hb1 : (wr.drew.alloc (.cells #[.bool bt] 4)).heap[b]? = some (.cells #[.slice vo mL vc] 96 (0, 0)) := (Below.heap_alloc _ _ _ hblt).trans hb
      have hown1 : (wr.drew.alloc (.cells #[.bool bt] 4)).ownsRow B 4 1 (.slice vo mL vc) mL (vt (L ++ (lowBits n count).take t)) := World.ownsRow.alloc (w := wr.drew) hown _
      have hcl : (wr.drew.alloc (.cells #[.bool bt] 4)).cell? ⟨wr.heap.size, 0, none⟩ = some (.bool bt) := cell_of_row _ _ _ _ _ _ (heap_alloc_new wr.drew (.cells #[.bool bt] 4))
      obtain ⟨v2, w2, hrun, hown2, hgr, _⟩ := run_append_own (P := Tryd.prog) (wr.drew.alloc (.cells #[.bool bt] 4)) B 94 94 4 i0 (.bool false) 1 1 Tryd.underlying94 hi hz0 hz1 hz2 rfl (by decide) (.slice vo mL vc) mL (vt (L ++ (lowBits n count).take t)) hown1 ⟨wr.heap.size, 0, none⟩ 1 1 [.bool bt] rfl (by intro j u hj; match j, hj with | 0, hj => simp at hj; subst hj; simpa [Addr.add] using hcl) (by intro u hu; simp at hu; subst hu; rfl) (by unfold maxLen; omega) (by omega) (by simp; omega)
      obtain ⟨a2, k2, rfl⟩ := own_slice hown2
      have hK1 : Lib.OthersKept 4 none wr w2 := ((Lib.OthersKept.refl 4 none wr).drew.alloc (.cells #[.bool bt] 4)).grown hgr (by
        intro q hq
        obtain ⟨c, fz, hc⟩ := Lib.ownsRowF_kind (World.ownsRowF_of hown1) q hq
        exact ⟨c, fz, hc⟩)
      have hb2 : w2.heap[b]? = some (.cells #[.slice vo mL vc] 96 (0, 0)) := hK1 b _ hb (fun h => by cases h) (fun c f h => by cases h)
      have hL2 : Below B wr w2 := (((Below.refl B wr).drew).alloc (by simp; omega) _).grown hgr (by simp; omega) (fun k hk => (hown1.lt k hk).1)
      have hne2 : (Value.slice a2 (mL + 1) k2).ownBlock ≠ some b := by
        intro h
        obtain ⟨c, fz, hc⟩ := Lib.ownsRowF_kind (World.ownsRowF_of hown2) b h
        rw [hb2] at hc
        cases hc
      have HF : Hid (OI (w2.setCell ⟨b, 0, none⟩ (.slice a2 (mL + 1) k2)) B b (L ++ (lowBits n count).take (t + 1)) ∧ Below B w (w2.setCell ⟨b, 0, none⟩ (.slice a2 (mL + 1) k2)) ∧ Lib.OthersKept 4 (some b) w (w2.setCell ⟨b, 0, none⟩ (.slice a2 (mL + 1) k2))) := hidn (by
        refine ⟨⟨hBb, .slice a2 (mL + 1) k2, block_setCell hb2 _, ?_⟩, (hbel.trans hL2).setCell (p := ⟨b, 0, none⟩) hBb _, (hkp.trans (fun k o h1 _ h3 => hK1 k o h1 (fun h => by cases h) h3)).setCell ⟨b, 0, none⟩ rfl _⟩
        rw [lowBits_take_succ n count t hlt, ← List.append_assoc, List.length_append, List.length_singleton, ← hmL, ← hi1, ← hbt, ← vt_app]
        exact own_setCell hown2 hne2 _)
      have c0 : wr.drew.cell? ⟨b, 0, none⟩ = some (.slice vo mL vc) := cell_of_row _ _ _ _ _ _ hb
      have c1 : (wr.drew.alloc (.cells #[.bool bt] 4)).cell? ⟨b, 0, none⟩ = some (.slice vo mL vc) := cell_of_row _ _ _ _ _ _ hb1
      have d0 : w2.cell? ⟨b, 0, none⟩ = some (.slice vo mL vc) := cell_of_row _ _ _ _ _ _ hb2
      have d1 : w2.frozen? ⟨b, 0, none⟩ = false := unfrozen_of_block hb2 _
      have hzd : wr.drew.heap.size = wr.heap.size := rfl
      clear hcl hmL hbt hb hown hown1 hb1 hown2 hgr hK1 hb2 hL2 hne2 hkp hi1
      go_wp2_with fail
      generalize hWd : wr.drew = wd at *
      refine wp_region_noPanic ?_
      refine wp_region_held_drew (S := fun _ => True) (by kernel_rfl) (trivial) (fun hHeld => ?_)
      rw [hWd]
      refine drawn_take (i := 0) (v := .pointer (some ⟨b, 0, none⟩)) (some 13) rfl rfl (by kernel_rfl) (by kernel_rfl) (by kernel_rfl) (fun _ _ _ h => h) (Or.inl ⟨by kernel_rfl, fun wq hw => by go_simp⟩) hHeld ?_
      simp only [Act.put, List.setIfInBounds_toArray, List.set_cons_succ, List.set_cons_zero]
      refine drawn_take (i := 1) (v := .pointer (some ⟨b, 0, none⟩)) (some 14) rfl rfl (by kernel_rfl) (by kernel_rfl) (by kernel_rfl) (fun _ _ _ h => h) (Or.inl ⟨by kernel_rfl, fun wq hw => by go_simp⟩) hHeld ?_
      simp only [Act.put, List.setIfInBounds_toArray, List.set_cons_succ, List.set_cons_zero]
      refine drawn_take (i := 2) (v := .pointer (some ⟨b, 0, none⟩)) (some 15) rfl rfl (by kernel_rfl) (by kernel_rfl) (by kernel_rfl) (fun _ _ _ h => h) (Or.inl ⟨by kernel_rfl, fun wq hw => by go_simp⟩) hHeld ?_
      simp only [Act.put, List.setIfInBounds_toArray, List.set_cons_succ, List.set_cons_zero]
      refine drawn_take (i := 3) (v := .pointer (some ⟨b, 0, none⟩)) (some 16) rfl rfl (by kernel_rfl) (by kernel_rfl) (by kernel_rfl) (fun _ _ _ h => h) (Or.inl ⟨by kernel_rfl, fun wq hw => by go_simp⟩) hHeld ?_
      simp only [Act.put, List.setIfInBounds_toArray, List.set_cons_succ, List.set_cons_zero]
      refine drawn_take (i := 5) (v := .int .u64 (n : Int)) (some 18) rfl rfl (by kernel_rfl) (by kernel_rfl) (by kernel_rfl) (fun _ _ _ h => h) (Or.inl ⟨by kernel_rfl, fun wq hw => by go_simp⟩) hHeld ?_
      simp only [Act.put, List.setIfInBounds_toArray, List.set_cons_succ, List.set_cons_zero]
      refine drawn_take (i := 6) (v := .int .i64 (i : Int)) (some 19) rfl rfl (by kernel_rfl) (by kernel_rfl) (by kernel_rfl) (fun _ _ _ h => h) (Or.inl ⟨by kernel_rfl, fun wq hw => by go_simp⟩) hHeld ?_
      simp only [Act.put, List.setIfInBounds_toArray, List.set_cons_succ, List.set_cons_zero]
      refine drawn_take (i := 7) (v := .int .u64 ((n : Int) / 2 ^ i)) (some 20) rfl rfl (by kernel_rfl) (by kernel_rfl) (by kernel_rfl) (fun _ _ _ h => h) (Or.inl ⟨by kernel_rfl, fun wq hw => by go_simp⟩) hHeld ?_
      simp only [Act.put, List.setIfInBounds_toArray, List.set_cons_succ, List.set_cons_zero]
      refine drawn_take (i := 8) (v := .int .u64 (bits BinOp.and IntKind.u64 ((n : Int) / 2 ^ i) 1)) (some 21) rfl rfl (by kernel_rfl) (by kernel_rfl) (by kernel_rfl) (fun _ _ _ h => h) (Or.inl ⟨by kernel_rfl, fun wq hw => by go_simp⟩) hHeld ?_
      simp only [Act.put, List.setIfInBounds_toArray, List.set_cons_succ, List.set_cons_zero]
      refine drawn_take (i := 9) (v := .bool bt) (some 22) rfl rfl (by kernel_rfl) (by kernel_rfl) (by kernel_rfl) (fun _ _ _ h => h) (Or.inl ⟨by kernel_rfl, fun wq hw => by go_simp⟩) hHeld ?_
      simp only [Act.put, List.setIfInBounds_toArray, List.set_cons_succ, List.set_cons_zero]
      rw [← hzd] at hrun
      refine wpAnyH_ready (rs := [4, 10]) (by kernel_rfl) (by simp) ?_
      refine rdy_val (i := 4) rfl rfl (some 17) rfl (.slice vo mL vc) wd (by go_simp) trivial (fun hHeld => ?_) ?_
      · simp only [Act.put, List.setIfInBounds_toArray, List.set_cons_succ, List.set_cons_zero]
        refine wpAnyH_ready (rs := [10]) (by kernel_rfl) (by simp) ?_
        refine rdy_val (i := 10) rfl rfl (some 23) rfl ((.slice (some ⟨wd.heap.size, 0, none⟩) 1 1)) (wd.alloc (.cells #[.bool bt] 4)) (by go_simp) (trivial) (fun hHeld => ?_) rdy_nil
        simp only [Act.put, List.setIfInBounds_toArray, List.set_cons_succ, List.set_cons_zero]
        refine wpAnyH_ready (rs := [11]) (by kernel_rfl) (by simp) ?_
        refine rdy_val (i := 11) rfl rfl (some 24) rfl ((.slice a2 (mL + 1) k2)) (w2) (app_run (x := .tmp 17) (y := .tmp 23) (by kernel_rfl) (by kernel_rfl) (by kernel_rfl) hrun) (trivial) (fun hHeld => ?_) rdy_nil
        simp only [Act.put, List.setIfInBounds_toArray, List.set_cons_succ, List.set_cons_zero]
        refine drawn_take (i := 12) (v := .pointer (some ⟨b, 0, none⟩)) (some 25) rfl rfl (by kernel_rfl) (by kernel_rfl) (by kernel_rfl) (fun _ _ _ h => h) (Or.inl ⟨by kernel_rfl, fun wq hw => by go_simp⟩) hHeld ?_
        simp only [Act.put, List.setIfInBounds_toArray, List.set_cons_succ, List.set_cons_zero]
        refine drawn_take (i := 13) (v := .pointer (some ⟨b, 0, none⟩)) (some 26) rfl rfl (by kernel_rfl) (by kernel_rfl) (by kernel_rfl) (fun _ _ _ h => h) (Or.inl ⟨by kernel_rfl, fun wq hw => by go_simp⟩) hHeld ?_
        simp only [Act.put, List.setIfInBounds_toArray, List.set_cons_succ, List.set_cons_zero]
        refine wpAnyH_ready (rs := [14]) (by kernel_rfl) (by simp) ?_
        refine rdy_unit (i := 14) rfl rfl none rfl (w2.setCell ⟨b, 0, none⟩ (.slice a2 (mL + 1) k2)) (by go_simp) (trivial) (fun hHeld => ?_) rdy_nil
        simp only [Act.put]
        refine wpAnyH_done (by kernel_rfl) ?_ _
        refine NoPanic.normal ?_
        clear hHeld
        clear hrun
        go_wp2_with fail
        go_roundw
        case rel => exact ⟨t + 1, by omega, by go_num, HF.out.1, HF.out.2.1, HF.out.2.2⟩
        case measure => simp [intOf]
      · refine rdy_val (i := 10) rfl rfl (some 23) rfl (.slice (some ⟨wd.heap.size, 0, none⟩) 1 1) (wd.alloc (.cells #[.bool bt] 4)) (by go_simp) trivial (fun hHeld => ?_) rdy_nil
        simp only [Act.put, List.setIfInBounds_toArray, List.set_cons_succ, List.set_cons_zero]
        refine wpAnyH_ready (rs := [4]) (by kernel_rfl) (by simp) ?_
        refine rdy_val (i := 4) rfl rfl (some 17) rfl ((.slice vo mL vc)) (wd.alloc (.cells #[.bool bt] 4)) (by go_simp) (trivial) (fun hHeld => ?_) rdy_nil
        simp only [Act.put, List.setIfInBounds_toArray, List.set_cons_succ, List.set_cons_zero]
        refine wpAnyH_ready (rs := [11]) (by kernel_rfl) (by simp) ?_
        refine rdy_val (i := 11) rfl rfl (some 24) rfl ((.slice a2 (mL + 1) k2)) (w2) (app_run (x := .tmp 17) (y := .tmp 23) (by kernel_rfl) (by kernel_rfl) (by kernel_rfl) hrun) (trivial) (fun hHeld => ?_) rdy_nil
        simp only [Act.put, List.setIfInBounds_toArray, List.set_cons_succ, List.set_cons_zero]
        refine drawn_take (i := 12) (v := .pointer (some ⟨b, 0, none⟩)) (some 25) rfl rfl (by kernel_rfl) (by kernel_rfl) (by kernel_rfl) (fun _ _ _ h => h) (Or.inl ⟨by kernel_rfl, fun wq hw => by go_simp⟩) hHeld ?_
        simp only [Act.put, List.setIfInBounds_toArray, List.set_cons_succ, List.set_cons_zero]
        refine drawn_take (i := 13) (v := .pointer (some ⟨b, 0, none⟩)) (some 26) rfl rfl (by kernel_rfl) (by kernel_rfl) (by kernel_rfl) (fun _ _ _ h => h) (Or.inl ⟨by kernel_rfl, fun wq hw => by go_simp⟩) hHeld ?_
        simp only [Act.put, List.setIfInBounds_toArray, List.set_cons_succ, List.set_cons_zero]
        refine wpAnyH_ready (rs := [14]) (by kernel_rfl) (by simp) ?_
        refine rdy_unit (i := 14) rfl rfl none rfl (w2.setCell ⟨b, 0, none⟩ (.slice a2 (mL + 1) k2)) (by go_simp) (trivial) (fun hHeld => ?_) rdy_nil
        simp only [Act.put]
        refine wpAnyH_done (by kernel_rfl) ?_ _
        refine NoPanic.normal ?_
        clear hHeld
        clear hrun
        go_wp2_with fail
        go_roundw
        case rel => exact ⟨t + 1, by omega, by go_num, HF.out.1, HF.out.2.1, HF.out.2.2⟩
        case measure => simp [intOf]
    · have hneg : ((count : Int) - 1 - t) < 0 := by omega
      have hte : t = count := by omega
      have HF : Hid (OI wr B b (L ++ lowBits n count) ∧ Below B w wr ∧ Lib.OthersKept 4 (some b) w wr) := hidn ⟨by rw [hte, List.take_of_length_le (by rw [lowBits_length]; omega)] at hoi; exact hoi, hbel, hkp⟩
      clear hoi hte
      go_wp2_with fail
      go_end0
      exact ⟨rfl, HF.out⟩

theorem oput_zero (B b count : Nat) (L : List Bool) (w : World) (hBw : B ≤ w.heap.size) (h : OI w B b L) (hc : count ≤ 64) (hL : L.length ≤ 1000000000) :
    Calls Tryd.prog 59 #[.pointer (some ⟨b, 0, none⟩), .int .u64 0, .int .i64 (count : Int)] w fun e w' =>
      e = .returned (.tuple #[]) ∧ OI w' B b (L ++ lowBits 0 count) ∧ Below B w w' ∧ Lib.OthersKept 4 (some b) w w' := oput_any B b 0 count L w hBw h (by omega) hc hL
/-- The class of a number, as the document tells it. -/
theorem cls_doc (n : Int) : (n = 0 → cls n = 0) ∧ (n ≠ 0 → -64 ≤ n → n ≤ 63 → cls n = 1) ∧ (¬ (-64 ≤ n ∧ n ≤ 63) → -2048 ≤ n → n ≤ 2047 → cls n = 2) ∧ (¬ (-2048 ≤ n ∧ n ≤ 2047) → -2147483648 ≤ n → n ≤ 2147483647 → cls n = 3) ∧ (¬ (-2147483648 ≤ n ∧ n ≤ 2147483647) → cls n = 4) := by
  unfold cls
  refine ⟨fun h => ?_, fun h1 h2 h3 => ?_, fun h1 h2 h3 => ?_, fun h1 h2 h3 => ?_, fun h => ?_⟩
  · rw [if_neg (by omega), if_neg (by omega), if_neg (by omega), if_neg (by omega)]
  · rw [if_neg (by omega), if_neg (by omega), if_neg (by omega), if_pos h1]
  · rw [if_neg (by omega), if_neg (by omega), if_pos (by omega)]
  · rw [if_neg (by omega), if_pos (by omega)]
  · rw [if_pos (by omega)]
set_option maxHeartbeats 4000000 in
set_option maxRecDepth 100000 in
theorem oputInt_any (B b : Nat) (n : Int) (L : List Bool) (w : World) (hBw : B ≤ w.heap.size) (h : OI w B b L) (hL : L.length ≤ 900000000) :
    Calls Tryd.prog 60 #[.pointer (some ⟨b, 0, none⟩), .int .i64 n] w fun e w' =>
      e = .returned (.tuple #[]) ∧ OI w' B b (L ++ intBits n) ∧ Below B w w' ∧ Lib.OthersKept 4 (some b) w w' := by
  obtain ⟨d0, d1, d2, d3, d4⟩ := cls_doc n
  have hu := u64_eq n
  have hul := u64_lt n
  by_cases c0 : n = 0
  · subst c0
    have e : intBits 0 = lowBits 0 1 := rfl
    rw [e]
    clear d0 d1 d2 d3 d4 hu
    go_enter Tryd.func60, Tryd.ntmps60
    go_wp2_with fail
    refine (oput_zero B b 1 L _ hBw h (by omega) (by omega)).mono ?_
    rintro e w1 ⟨rfl, hr⟩
    have HR := hidn hr
    clear hr
    go_wp2_with fail
    go_end0
    exact ⟨rfl, HR.out⟩
  · have b0 : (n == 0) = false := by simp [c0]
    obtain ⟨un, hun⟩ : ∃ un, un = u64 n := ⟨_, rfl⟩
    rw [← hun] at hu hul
    by_cases c1 : -64 ≤ n ∧ n ≤ 63
    · have b1 : decide (-64 ≤ n) = true := decide_eq_true (by omega)
      have b2 : decide (n ≤ 63) = true := decide_eq_true (by omega)
      have b3 : decide (-2048 ≤ n) = true := decide_eq_true (by omega)
      have b4 : decide (n ≤ 2047) = true := decide_eq_true (by omega)
      have b5 : decide (-2147483648 ≤ n) = true := decide_eq_true (by omega)
      have b6 : decide (n ≤ 2147483647) = true := decide_eq_true (by omega)
      have e : intBits n = lowBits 2 2 ++ lowBits un 7 := by unfold intBits; rw [d1 c0 c1.1 c1.2, hun]; rfl
      rw [e]
      clear d0 d1 d2 d3 d4 hun e
      go_enter Tryd.func60, Tryd.ntmps60
      go_wp2_with fail
      refine (oput_any B b 2 2 L _ hBw h (by omega) (by omega) (by omega)).mono ?_
      rintro e w1 ⟨rfl, h1, l1, k1⟩
      have s1 := l1.size
      go_wp2_with fail
      refine (oput_any B b un 7 _ _ (by omega) h1 hul (by omega) (by rw [List.length_append, lowBits_length]; omega)).mono ?_
      rintro e w2 ⟨rfl, h2, l2, k2⟩
      rw [List.append_assoc] at h2
      have HR := hidn (And.intro h2 (And.intro (l1.trans l2) (k1.trans k2)))
      clear h1 h2 l1 l2 k1 k2
      go_wp2_with fail
      go_end0
      exact ⟨rfl, HR.out⟩
    · by_cases c2 : -2048 ≤ n ∧ n ≤ 2047
      · by_cases c3 : n < -64
        · have b1 : decide (-64 ≤ n) = false := decide_eq_false (by omega)
          have b2 : decide (n ≤ 63) = true := decide_eq_true (by omega)
          have b3 : decide (-2048 ≤ n) = true := decide_eq_true (by omega)
          have b4 : decide (n ≤ 2047) = true := decide_eq_true (by omega)
          have b5 : decide (-2147483648 ≤ n) = true := decide_eq_true (by omega)
          have b6 : decide (n ≤ 2147483647) = true := decide_eq_true (by omega)
          have e : intBits n = lowBits 6 3 ++ lowBits un 12 := by unfold intBits; rw [d2 c1 c2.1 c2.2, hun]; rfl
          rw [e]
          clear d0 d1 d2 d3 d4 hun e
          go_enter Tryd.func60, Tryd.ntmps60
          go_wp2_with fail
          refine (oput_any B b 6 3 L _ hBw h (by omega) (by omega) (by omega)).mono ?_
          rintro e w1 ⟨rfl, h1, l1, k1⟩
          have s1 := l1.size
          go_wp2_with fail
          refine (oput_any B b un 12 _ _ (by omega) h1 hul (by omega) (by rw [List.length_append, lowBits_length]; omega)).mono ?_
          rintro e w2 ⟨rfl, h2, l2, k2⟩
          rw [List.append_assoc] at h2
          have HR := hidn (And.intro h2 (And.intro (l1.trans l2) (k1.trans k2)))
          clear h1 h2 l1 l2 k1 k2
          go_wp2_with fail
          go_end0
          exact ⟨rfl, HR.out⟩
        · have b1 : decide (-64 ≤ n) = true := decide_eq_true (by omega)
          have b2 : decide (n ≤ 63) = false := decide_eq_false (by omega)
          have b3 : decide (-2048 ≤ n) = true := decide_eq_true (by omega)
          have b4 : decide (n ≤ 2047) = true := decide_eq_true (by omega)
          have b5 : decide (-2147483648 ≤ n) = true := decide_eq_true (by omega)
          have b6 : decide (n ≤ 2147483647) = true := decide_eq_true (by omega)
          have e : intBits n = lowBits 6 3 ++ lowBits un 12 := by unfold intBits; rw [d2 c1 c2.1 c2.2, hun]; rfl
          rw [e]
          clear d0 d1 d2 d3 d4 hun e
          go_enter Tryd.func60, Tryd.ntmps60
          go_wp2_with fail
          refine (oput_any B b 6 3 L _ hBw h (by omega) (by omega) (by omega)).mono ?_
          rintro e w1 ⟨rfl, h1, l1, k1⟩
          have s1 := l1.size
          go_wp2_with fail
          refine (oput_any B b un 12 _ _ (by omega) h1 hul (by omega) (by rw [List.length_append, lowBits_length]; omega)).mono ?_
          rintro e w2 ⟨rfl, h2, l2, k2⟩
          rw [List.append_assoc] at h2
          have HR := hidn (And.intro h2 (And.intro (l1.trans l2) (k1.trans k2)))
          clear h1 h2 l1 l2 k1 k2
          go_wp2_with fail
          go_end0
          exact ⟨rfl, HR.out⟩
      · by_cases c4 : -2147483648 ≤ n ∧ n ≤ 2147483647
        · by_cases c3 : n < -2048
          · have b1 : decide (-64 ≤ n) = false := decide_eq_false (by omega)
            have b2 : decide (n ≤ 63) = true := decide_eq_true (by omega)
            have b3 : decide (-2048 ≤ n) = false := decide_eq_false (by omega)
            have b4 : decide (n ≤ 2047) = true := decide_eq_true (by omega)
            have b5 : decide (-2147483648 ≤ n) = true := decide_eq_true (by omega)
            have b6 : decide (n ≤ 2147483647) = true := decide_eq_true (by omega)
            have e : intBits n = lowBits 14 4 ++ lowBits un 32 := by unfold intBits; rw [d3 c2 c4.1 c4.2, hun]; rfl
            rw [e]
            clear d0 d1 d2 d3 d4 hun e
            go_enter Tryd.func60, Tryd.ntmps60
            go_wp2_with fail
            refine (oput_any B b 14 4 L _ hBw h (by omega) (by omega) (by omega)).mono ?_
            rintro e w1 ⟨rfl, h1, l1, k1⟩
            have s1 := l1.size
            go_wp2_with fail
            refine (oput_any B b un 32 _ _ (by omega) h1 hul (by omega) (by rw [List.length_append, lowBits_length]; omega)).mono ?_
            rintro e w2 ⟨rfl, h2, l2, k2⟩
            rw [List.append_assoc] at h2
            have HR := hidn (And.intro h2 (And.intro (l1.trans l2) (k1.trans k2)))
            clear h1 h2 l1 l2 k1 k2
            go_wp2_with fail
            go_end0
            exact ⟨rfl, HR.out⟩
          · have b1 : decide (-64 ≤ n) = true := decide_eq_true (by omega)
            have b2 : decide (n ≤ 63) = false := decide_eq_false (by omega)
            have b3 : decide (-2048 ≤ n) = true := decide_eq_true (by omega)
            have b4 : decide (n ≤ 2047) = false := decide_eq_false (by omega)
            have b5 : decide (-2147483648 ≤ n) = true := decide_eq_true (by omega)
            have b6 : decide (n ≤ 2147483647) = true := decide_eq_true (by omega)
            have e : intBits n = lowBits 14 4 ++ lowBits un 32 := by unfold intBits; rw [d3 c2 c4.1 c4.2, hun]; rfl
            rw [e]
            clear d0 d1 d2 d3 d4 hun e
            go_enter Tryd.func60, Tryd.ntmps60
            go_wp2_with fail
            refine (oput_any B b 14 4 L _ hBw h (by omega) (by omega) (by omega)).mono ?_
            rintro e w1 ⟨rfl, h1, l1, k1⟩
            have s1 := l1.size
            go_wp2_with fail
            refine (oput_any B b un 32 _ _ (by omega) h1 hul (by omega) (by rw [List.length_append, lowBits_length]; omega)).mono ?_
            rintro e w2 ⟨rfl, h2, l2, k2⟩
            rw [List.append_assoc] at h2
            have HR := hidn (And.intro h2 (And.intro (l1.trans l2) (k1.trans k2)))
            clear h1 h2 l1 l2 k1 k2
            go_wp2_with fail
            go_end0
            exact ⟨rfl, HR.out⟩
        · by_cases c3 : n < -2147483648
          · have b1 : decide (-64 ≤ n) = false := decide_eq_false (by omega)
            have b2 : decide (n ≤ 63) = true := decide_eq_true (by omega)
            have b3 : decide (-2048 ≤ n) = false := decide_eq_false (by omega)
            have b4 : decide (n ≤ 2047) = true := decide_eq_true (by omega)
            have b5 : decide (-2147483648 ≤ n) = false := decide_eq_false (by omega)
            have b6 : decide (n ≤ 2147483647) = true := decide_eq_true (by omega)
            have e : intBits n = lowBits 15 4 ++ lowBits un 64 := by unfold intBits; rw [d4 c4, hun]; rfl
            rw [e]
            clear d0 d1 d2 d3 d4 hun e
            go_enter Tryd.func60, Tryd.ntmps60
            go_wp2_with fail
            refine (oput_any B b 15 4 L _ hBw h (by omega) (by omega) (by omega)).mono ?_
            rintro e w1 ⟨rfl, h1, l1, k1⟩
            have s1 := l1.size
            go_wp2_with fail
            refine (oput_any B b un 64 _ _ (by omega) h1 hul (by omega) (by rw [List.length_append, lowBits_length]; omega)).mono ?_
            rintro e w2 ⟨rfl, h2, l2, k2⟩
            rw [List.append_assoc] at h2
            have HR := hidn (And.intro h2 (And.intro (l1.trans l2) (k1.trans k2)))
            clear h1 h2 l1 l2 k1 k2
            go_wp2_with fail
            go_end0
            exact ⟨rfl, HR.out⟩
          · have b1 : decide (-64 ≤ n) = true := decide_eq_true (by omega)
            have b2 : decide (n ≤ 63) = false := decide_eq_false (by omega)
            have b3 : decide (-2048 ≤ n) = true := decide_eq_true (by omega)
            have b4 : decide (n ≤ 2047) = false := decide_eq_false (by omega)
            have b5 : decide (-2147483648 ≤ n) = true := decide_eq_true (by omega)
            have b6 : decide (n ≤ 2147483647) = false := decide_eq_false (by omega)
            have e : intBits n = lowBits 15 4 ++ lowBits un 64 := by unfold intBits; rw [d4 c4, hun]; rfl
            rw [e]
            clear d0 d1 d2 d3 d4 hun e
            go_enter Tryd.func60, Tryd.ntmps60
            go_wp2_with fail
            refine (oput_any B b 15 4 L _ hBw h (by omega) (by omega) (by omega)).mono ?_
            rintro e w1 ⟨rfl, h1, l1, k1⟩
            have s1 := l1.size
            go_wp2_with fail
            refine (oput_any B b un 64 _ _ (by omega) h1 hul (by omega) (by rw [List.length_append, lowBits_length]; omega)).mono ?_
            rintro e w2 ⟨rfl, h2, l2, k2⟩
            rw [List.append_assoc] at h2
            have HR := hidn (And.intro h2 (And.intro (l1.trans l2) (k1.trans k2)))
            clear h1 h2 l1 l2 k1 k2
            go_wp2_with fail
            go_end0
            exact ⟨rfl, HR.out⟩

theorem low_walk0 (n i : Nat) (hn : n < 18446744073709551616) : (bits .and .u64 ((n : Int) / 2 ^ i) 1 == 0) = !n.testBit i := by
  have h1 : n / 2 ^ i < 18446744073709551616 := Nat.lt_of_le_of_lt (Nat.div_le_self _ _) hn
  have e : ((n : Int) / 2 ^ i) = ((n / 2 ^ i : Nat) : Int) := by push_cast; rfl
  rw [e, and1_u64 _ h1, Nat.testBit_eq_decide_div_mod_eq]
  have h2 : n / 2 ^ i % 2 = 0 ∨ n / 2 ^ i % 2 = 1 := by omega
  rcases h2 with h2 | h2 <;> rw [h2] <;> rfl
theorem hi_bits (x : Nat) (h0 : x ≠ 0) (h : x < 18446744073709551616) : (∀ k, k < hiZ x → x.testBit (63 - k) = false) ∧ x.testBit (63 - hiZ x) = true := by
  obtain ⟨z1, z2, _⟩ := zz_spec x h0 h
  obtain ⟨b1, b2, b3, b4⟩ := bitLenAux_spec 64 x (by omega) h
  have ebl : Lib.bitLenAux 64 x = 64 - hiZ x := z1
  rw [ebl] at b3 b4
  refine ⟨fun k hk => ?_, ?_⟩
  · refine Nat.testBit_lt_two_pow (Nat.lt_of_lt_of_le b4 (Nat.pow_le_pow_right (by omega) (by omega)))
  · rw [Nat.testBit_eq_decide_div_mod_eq]
    have hp := Nat.two_pow_pos (63 - hiZ x)
    have e1 : 64 - hiZ x - 1 = 63 - hiZ x := by omega
    have e2 : 64 - hiZ x = 63 - hiZ x + 1 := by omega
    rw [e1] at b3
    rw [e2, Nat.pow_succ] at b4
    have : x / 2 ^ (63 - hiZ x) = 1 := Nat.div_eq_of_lt_le (by omega) (by omega)
    rw [this]; rfl
theorem lo_bits (x : Nat) (h0 : x ≠ 0) (h : x < 18446744073709551616) : (∀ k, k < loZ x → x.testBit k = false) ∧ x.testBit (loZ x) = true := by
  obtain ⟨z1, z2, z3, z4, z5, z6, z7, z8, z9⟩ := zz_spec x h0 h
  have e : ∀ k, x.testBit k = (decide (loZ x ≤ k) && (x / 2 ^ loZ x).testBit (k - loZ x)) := by
    intro k
    have := Nat.testBit_mul_two_pow (x / 2 ^ loZ x) k (loZ x)
    rw [Nat.mul_comm, ← z6] at this
    rw [this]
  refine ⟨fun k hk => by rw [e, decide_eq_false (by omega)]; rfl, ?_⟩
  rw [e, Nat.sub_self, Nat.testBit_zero, z7]
  simp
set_option maxHeartbeats 4000000 in
set_option maxRecDepth 100000 in
theorem oputXor_some (B b x : Nat) (L : List Bool) (w : World) (hBw : B ≤ w.heap.size) (h : OI w B b L) (hL : L.length ≤ 900000000) (h0 : x ≠ 0) (hx : x < 18446744073709551616) :
    Calls Tryd.prog 61 #[.pointer (some ⟨b, 0, none⟩), .int .u64 (x : Int)] w fun e w' =>
      e = .returned (.tuple #[]) ∧ OI w' B b (L ++ turned x) ∧ Below B w w' ∧ Lib.OthersKept 4 (some b) w w' := by
  have hx0 : ((x : Int) == 0) = false := by simp; omega
  rw [turned_some x h0]
  obtain ⟨z1, z2, z3, z4, z5, z6, z7, z8, z9⟩ := zz_spec x h0 hx
  have P1 := hidn (hi_bits x h0 hx)
  have P2 := hidn (lo_bits x h0 hx)
  obtain ⟨q, hq⟩ : ∃ q, x / 2 ^ loZ x = q := ⟨_, rfl⟩
  have hql : q < 18446744073709551616 := by rw [← hq]; exact Nat.lt_of_le_of_lt (Nat.div_le_self _ _) hx
  have hqi : (x : Int) / 2 ^ loZ x = (q : Int) := by rw [← hq]; push_cast; rfl
  rw [hq]
  clear z1 z6 z7 z8 z9 hq
  generalize hiZ x = hi at *
  generalize loZ x = lo at *
  generalize widZ x = wd at *
  obtain ⟨wm, hwm⟩ : ∃ wm, wd - 1 = wm := ⟨_, rfl⟩
  rw [hwm]
  have r1 : (64 : Int) - (hi : Int) - (lo : Int) = (wd : Int) := by omega
  have r2 : (wd : Int) - 1 = (wm : Int) := by omega
  have r3 : IntKind.u64.wrap (hi : Int) = (hi : Int) := wrap_u_lt .u64 rfl _ (by show hi < 18446744073709551616; omega)
  have r4 : IntKind.u64.wrap (wm : Int) = (wm : Int) := wrap_u_lt .u64 rfl _ (by show wm < 18446744073709551616; omega)
  have hwd : wd ≤ 64 := by omega
  have hwm6 : wm ≤ 63 := by omega
  clear hwm z5 h0
  go_enter Tryd.func61, Tryd.ntmps61
  go_wp2_with fail
  go_loop [4] (fun hv => ∃ k : Nat, k ≤ hi ∧ hv = .int .i64 (k : Int)) (fun hv => hi - (intOf hv).toNat)
  case atStart => exact ⟨0, Nat.zero_le _, rfl⟩
  case round =>
    obtain ⟨k, hk, rfl⟩ := hrel
    obtain ⟨ex, hex⟩ : ∃ ex, ex = 63 - k := ⟨_, rfl⟩
    have rex : (63 : Int) - (k : Int) = (ex : Int) := by omega
    have hlw := low_walk0 x ex hx
    by_cases hlt : k < hi
    · have ht : x.testBit ex = false := by rw [hex]; exact P1.out.1 k hlt
      rw [ht] at hlw
      clear ht hex
      go_wp2_with fail
      go_round
      case rel => exact ⟨k + 1, by omega, by go_num⟩
      case measure => simp [intOf]; omega
    · obtain rfl : k = hi := by omega
      have ht : x.testBit ex = true := by rw [hex]; exact P1.out.2
      rw [ht] at hlw
      clear ht hex
      go_wp2_with fail
      go_loop [5] (fun lv => ∃ j : Nat, j ≤ lo ∧ lv = .int .i64 (j : Int)) (fun lv => lo - (intOf lv).toNat)
      case atStart => exact ⟨0, Nat.zero_le _, rfl⟩
      case round =>
        obtain ⟨j, hj, rfl⟩ := hrel
        have hlw2 := low_walk0 x j hx
        by_cases hlt2 : j < lo
        · have ht : x.testBit j = false := P2.out.1 j hlt2
          rw [ht] at hlw2
          clear ht
          go_wp2_with fail
          go_round
          case rel => exact ⟨j + 1, by omega, by go_num⟩
          case measure => simp [intOf]; omega
        · obtain rfl : j = lo := by omega
          have ht : x.testBit j = true := P2.out.2
          rw [ht, hqi] at hlw2
          clear ht
          go_wp2_with fail
          refine (oput_any B b 1 1 L _ hBw h (by omega) (by omega) (by omega)).mono ?_
          rintro e w1 ⟨rfl, h1, l1, k1⟩
          have s1 := l1.size
          go_wp2_with fail
          refine (oput_any B b k 6 _ _ (by omega) h1 (by omega) (by omega) (by simp [lowBits_length]; omega)).mono ?_
          rintro e w2 ⟨rfl, h2, l2, k2⟩
          have s2 := l2.size
          go_wp2_with fail
          refine (oput_any B b wm 6 _ _ (by omega) h2 (by omega) (by omega) (by simp [lowBits_length]; omega)).mono ?_
          rintro e w3 ⟨rfl, h3, l3, k3⟩
          have s3 := l3.size
          go_wp2_with fail
          refine (oput_any B b q wd _ _ (by omega) h3 (by omega) (by omega) (by simp [lowBits_length]; omega)).mono ?_
          rintro e w4 ⟨rfl, h4, l4, k4⟩
          have HR : Hid (OI w4 B b (L ++ (lowBits 1 1 ++ (lowBits k 6 ++ (lowBits wm 6 ++ lowBits q wd)))) ∧ Below B w w4 ∧ Lib.OthersKept 4 (some b) w w4) := hidn ⟨by simpa [List.append_assoc] using h4, ((l1.trans l2).trans l3).trans l4, ((k1.trans k2).trans k3).trans k4⟩
          clear h4 h3 h2 h1 l1 l2 l3 l4 k1 k2 k3 k4
          go_wp2_with fail
          go_end0
          exact ⟨rfl, HR.out⟩
set_option maxHeartbeats 4000000 in
set_option maxRecDepth 100000 in
theorem oputXor_any (B b x : Nat) (L : List Bool) (w : World) (hBw : B ≤ w.heap.size) (h : OI w B b L) (hL : L.length ≤ 900000000) (hx : x < 18446744073709551616) :
    Calls Tryd.prog 61 #[.pointer (some ⟨b, 0, none⟩), .int .u64 (x : Int)] w fun e w' =>
      e = .returned (.tuple #[]) ∧ OI w' B b (L ++ turned x) ∧ Below B w w' ∧ Lib.OthersKept 4 (some b) w w' := by
  by_cases h0 : x = 0
  · subst h0
    rw [turned_zero]
    go_enter Tryd.func61, Tryd.ntmps61
    go_wp2_with fail
    refine (oput_zero B b 1 L _ hBw h (by omega) (by omega)).mono ?_
    rintro e w1 ⟨rfl, hr⟩
    have HR := hidn hr
    clear hr
    go_wp2_with fail
    exact bodyPost_ret (v := .tuple #[]) (by simp [results, Tryd.results61, go_sem]) rfl ⟨rfl, HR.out⟩
  · exact oputXor_some B b x L w hBw h hL h0 hx
end Go.Proofs.YtcjhkpcnhnnjbaaDoor.Cd
