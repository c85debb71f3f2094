/- merge: what lies outside no gaps, above a floor. -/
import Derived.Test.YtccjgciknaooaaaMgA
import Derived.Test.YtccjgciknaooaaaMgH
import Derived.Test.YtccjgciknaooaaaAppK
import Derived.BigRegion
namespace Go.Proofs.Ytccjgciknaooaaa
open Go.RowKit Go.Joins
set_option linter.unusedVariables false

/-- One sample more onto the row. -/
theorem app_sam1 {B : Nat} {v : Value} {n : Nat} {l : List Sam} {W : World} (ho : W.ownsRow B 36 2 v n (vsm l)) (hB : B ≤ W.heap.size) (hn : n ≤ 1000000) (s : Sam) (ad : Addr) (hc0 : W.cell? ad = some (.int .i64 s.t)) (hc1 : W.cell? (ad.add 1) = some (.int .u64 (s.v : Int))) :
    ∃ g c' W', (Builtin.append_ #[25, 25] 25 #[v, .slice (some ad) 1 1]).run Try.prog W = .ok (.slice (some ⟨g, 0, none⟩) (n + 1) c') W' ∧ W'.ownsRow B 36 2 (.slice (some ⟨g, 0, none⟩) (n + 1) c') (n + 1) (vsm (l ++ [s])) ∧ W.grownBy W' v.ownBlock := by
  obtain ⟨i0, hi, hz0, hz1, hz2⟩ := info_parts Try.infoSam
  obtain ⟨g, c', W', hr, ho', hg, _⟩ := appN (P := Try.prog) W 25 25 36 i0 (.agg #[.int .i64 0, .int .u64 0]) 2 16 Try.underlying25 hi hz0 hz1 hz2 rfl (by decide) v n (vsm l) B ho hB ad 1 1 (by decide) (vsm [s]) rfl (by
    intro j u hj
    have hjl : j < 2 := (List.getElem?_eq_some_iff.1 hj).1
    match j, hjl, hj with
    | 0, _, hj => cases hj; rw [show ad.add 0 = ad from by cases ad; simp [Addr.add]]; exact hc0
    | 1, _, hj => cases hj; exact hc1) (one_vsm [s]) (by unfold maxLen; omega) (by omega)
  exact ⟨g, c', W', hr, by rw [vsm_app]; exact ho', hg⟩

theorem take_more (l : List Sam) (k : Nat) (h : k < l.length) : l.take (k + 1) = l.take k ++ [samD l k] := by
  rw [List.take_add_one, List.getElem?_eq_getElem h]
  simp [samD, List.getD_eq_getElem?_getD, List.getElem?_eq_getElem h]

set_option maxHeartbeats 4000000 in
set_option maxRecDepth 100000 in
theorem outside_all (a : Option Addr) (len cap : Nat) (l : List Sam) (floor : Int) (w : World) (h : Sm w a len l) (hm : len ≤ 1000000) (hf : ∀ k, k < len → floor ≤ (samD l k).t) :
    Calls Try.prog 23 #[.slice a len cap, .int .i64 floor, .slice none 0 0] w fun e w' => ∃ v, e = .returned v ∧ w'.ownsRow w.heap.size 36 2 v len (vsm l) ∧ Below w.heap.size w w' := by
  have HJ := hidn (joined_zero w)
  have HL := hidn h.1
  have H := hidn h
  have HF := hidn hf
  clear h hf
  go_enter Try.func23, Try.ntmps23
  go_wp2_with fail
  refine HJ.out.mono ?_
  rintro e w0 ⟨rfl, hb0⟩
  go_wp2_with fail
  go_loopw [7, 8, 16] (fun tv gv iv wr => ∃ k : Nat, k ≤ len ∧ iv = .int .i64 (k : Int) ∧ gv = .slice none 0 0 ∧ Hid (Below w.heap.size w wr) ∧ Hid (wr.ownsRow w.heap.size 36 2 tv k (vsm (l.take k)))) (fun _ _ iv _ => len - (intOf iv).toNat)
  case atStart => exact ⟨0, Nat.zero_le _, rfl, rfl, hidn hb0, hidn (World.ownsRow_nil _ _ _ _)⟩
  case round =>
    obtain ⟨k, hk, rfl, rfl, HB, HO⟩ := hrel
    obtain ⟨wo, hwo⟩ : ∃ wo, wo = wr := ⟨_, rfl⟩
    subst hwo
    by_cases hlt : k < len
    · obtain ⟨b, off, rfl, hbs, hcl⟩ := H.out.pos (by omega)
      have hc := hcl k hlt
      have hb := HB.out
      have c0 : wo.cell? ⟨b, off + k * 2, none⟩ = some (.int .i64 (samD l k).t) := (hb.cell (p := ⟨b, off + k * 2, none⟩) hbs).trans hc.1
      have c1 : wo.cell? ⟨b, off + k * 2 + 1, none⟩ = some (.int .u64 ((samD l k).v : Int)) := (hb.cell (p := ⟨b, off + k * 2 + 1, none⟩) hbs).trans hc.2
      have hfk := HF.out k hlt
      have HTM := hidn (take_more l k (by rw [HL.out]; exact hlt))
      obtain ⟨tk, htk⟩ : ∃ tk, tk = (samD l k).t := ⟨_, rfl⟩
      obtain ⟨vk, hvk⟩ : ∃ vk, vk = (samD l k).v := ⟨_, rfl⟩
      rw [← htk] at c0 hfk
      rw [← hvk] at c1
      obtain ⟨w1, hw1⟩ : ∃ w1, w1 = wo.alloc (.cells #[.int .i64 tk, .int .u64 (vk : Int)] 36) := ⟨_, rfl⟩
      have hb1 : Below wo.heap.size wo w1 := by rw [hw1]; exact (Below.refl _ wo).alloc (Nat.le_refl _) _
      have q1 : w1.heap[wo.heap.size]? = some (.cells #[.int .i64 tk, .int .u64 (vk : Int)] 36 (0, 0)) := by rw [hw1]; exact heap_alloc_new wo _
      have HW1 := hidn hw1
      have HB1 := hidn hb1
      have HQ1 := hidn q1
      have HS : Hid ((⟨tk, vk⟩ : Sam) = samD l k) := hidn (by rw [htk, hvk])
      clear htk hvk hcl hc hb hw1 hb1 q1
      go_wp2_with fail
      rw [← HW1.out]
      go_loopw [8] (fun gv wx => gv = .slice none 0 0 ∧ Hid (Below w1.heap.size w1 wx)) (fun _ _ => 0)
      case atStart => exact ⟨rfl, hidn (Below.refl _ _)⟩
      case round =>
        obtain ⟨rfl, HBX⟩ := hrel
        go_wp2_with fail
        obtain ⟨w3, hw3⟩ : ∃ w3, w3 = wr.drew.drew.alloc (.cells #[.int .i64 tk, .int .u64 (vk : Int)] 36) := ⟨_, rfl⟩
        have hbx := HBX.out
        have s1 : wo.heap.size < w1.heap.size := (Array.getElem?_eq_some_iff.1 HQ1.out).1
        have qX : wr.heap[wo.heap.size]? = some (.cells #[.int .i64 tk, .int .u64 (vk : Int)] 36 (0, 0)) := (hbx.block _ s1).trans HQ1.out
        have e0 : wr.cell? ⟨wo.heap.size, 0, none⟩ = some (.int .i64 tk) := cell_of_row _ _ _ _ _ _ qX
        have e1 : wr.cell? ⟨wo.heap.size, 1, none⟩ = some (.int .u64 (vk : Int)) := cell_of_row _ _ _ _ _ _ qX
        have b3 : Below wo.heap.size wo w3 := by rw [hw3]; exact (((HB1.out.trans (hbx.mono (Nat.le_of_lt s1))).drew).drew).alloc (by show wo.heap.size ≤ wr.heap.size; exact Nat.le_trans (Nat.le_of_lt s1) hbx.size) _
        have q3 : w3.heap[wr.heap.size]? = some (.cells #[.int .i64 tk, .int .u64 (vk : Int)] 36 (0, 0)) := by rw [hw3]; exact heap_alloc_new wr.drew.drew _
        obtain ⟨g, c', w4, hr, ho4, hg4⟩ := app_sam1 (own_skip HO.out b3) (Nat.le_trans HB.out.size b3.size) (by omega) (⟨tk, vk⟩ : Sam) ⟨wr.heap.size, 0, none⟩ (cell_of_row _ _ _ _ _ _ q3) (cell_of_row _ _ 1 _ _ _ q3)
        have HR := hidn hr
        have HW3 := hidn hw3
        have HB4 : Hid (Below w.heap.size w w4) := hidn ((HB.out.trans (b3.mono HB.out.size)).grown hg4 (Nat.le_trans HB.out.size b3.size) (fun k hk => (HO.out.lt k hk).1))
        have HO4 : Hid (w4.ownsRow w.heap.size 36 2 (.slice (some ⟨g, 0, none⟩) (k + 1) c') (k + 1) (vsm (l.take (k + 1)))) := hidn (by rw [HTM.out, ← HS.out]; exact ho4)
        clear hr hw3 b3 q3 qX ho4 hg4 hbx s1
        have HW3' : Hid (w3 = (wr.alloc (.cells #[.int .i64 tk, .int .u64 (vk : Int)] 36)).drew.drew) := hidn HW3.out
        go_region
        go_wp2_with fail
        go_region
        go_wp2_with (at_builtin; first | rw [← HW3.out] | rw [← HW3'.out]; refine wpList_app_run2 rfl (.tmp 54) (.tmp 56) 25 25 rfl rfl u7 (.slice (some ⟨wr.heap.size, 0, none⟩) 1 1) _ rfl rfl HR.out ?_)
        go_roundw
        case rel => exact ⟨k + 1, by omega, by first | rfl | simp, rfl, HB4, HO4⟩
        case measure => simp [intOf]; omega
    · obtain rfl : k = len := by omega
      have HT : Hid (l.take k = l) := hidn (List.take_of_length_le (by rw [HL.out]; omega))
      go_wp2_with fail
      go_ret
      exact ⟨_, rfl, by rw [← HT.out]; exact HO.out, HB.out⟩
end Go.Proofs.Ytccjgciknaooaaa
