/- Pairs: Load of a text of one extent; dryrotlaw05.awake. -/
import Derived.Test.YtdigblglehchbaaDoorMf
namespace Go.Proofs.YtdigblglehchbaaDoor
open Go.RowKit Go.Maps
set_option linter.unusedVariables false

set_option maxHeartbeats 4000000 in
theorem load_one (w : World) (d : Nat) (F : Nat → Prop) (N : Nat) (M : List UInt8 → List Ext) (free fuse : Int) (h : DiskOf w d F N M free fuse) (hT : CrcTab w) (hM0 : M [] = []) (s : ByteArray) (hs : s.size ≤ 20) (g E L : Nat) (hE1 : E = 1) (hEA : E = (M (fileA s).data.toList).length) (hEB : E = (M (fileB s).data.toList).length)
    (xa xb : Ext) (pa pb : List Nat) (q1 : (M (fileA s).data.toList)[0]? = some xa) (q2 : (M (fileB s).data.toList)[0]? = some xb) (q3 : openB xa.rd (nums (fileA s)) ((0 : Nat) : Int) = some (pa, g)) (q4 : openB xb.rd (nums (fileB s)) ((0 : Nat) : Int) = some (pb, g)) (q5 : pa.length = L) (hL0 : 0 < L) (hL : L ≤ 106) (q6 : ∀ x ∈ pa, x < 256) (q7 : ∀ x ∈ pb, x < 256) :
    Calls Tryd.prog 10 #[.pointer (some ⟨d, 0, none⟩), .string s, .int .i64 g] w fun e w' => ∃ a c, e = .returned (.tuple #[.slice a L c, .int .i64 0]) ∧ Bs w' a L pa ∧ Below w.heap.size w w' := by
  have HD := hidn h
  have HQ := hidn (And.intro q1 (And.intro q2 (And.intro q3 q4)))
  have HQ6 := hidn (And.intro q6 q7)
  have HQ5 := hidn q5
  have HE1 := hidn hE1
  have HEA := hidn hEA
  have HEB := hidn hEB
  have hHv := fun wx => halves_any wx s (by omega)
  have hsA : (fileA s).size ≤ maxLen := by
    have : (fileA s).size = s.size + 2 := by show (fileA s).data.size = _; rw [← Array.length_toList, fileA_list]; simp
    rw [this]; unfold maxLen; omega
  have hsB : (fileB s).size ≤ maxLen := by
    have : (fileB s).size = s.size + 2 := by show (fileB s).data.size = _; rw [← Array.length_toList, fileB_list]; simp
    rw [this]; unfold maxLen; omega
  obtain ⟨T, hTT⟩ : ∃ T, T = E * 106 := ⟨_, rfl⟩
  have hwT : IntKind.i64.wrap ((E : Int) * 106) = (T : Int) := by rw [IntKind.wrap_i64]; omega
  obtain ⟨i0, hi, hz0, hz1, hz2⟩ := info_parts Tryd.info5
  obtain ⟨Z, hZ⟩ : ∃ Z, Z = madeCells (Value.int .u8 0).cells (((T : Nat) : Int).toNat * i0.size) := ⟨_, rfl⟩
  have hZs : Z.size = T := by rw [hZ, size_madeCells, hz1]; simp
  have hmk : ∀ W : World, (Instr.makeSlice 22 (.int .i64 (T : Int)) (.int .i64 (T : Int))).run Tryd.prog W = .ok (.slice (some ⟨W.heap.size, 0, none⟩) T T) (W.alloc (.cells Z 5)) := fun W => by
    have h := run_make (P := Tryd.prog) W 22 5 i0 (.int .u8 0) Tryd.underlying22 hi hz0 .i64 .i64 (T : Int) (T : Int) (by omega) (by omega) (by rw [hz2]; omega) (by omega)
    rw [← hZ] at h
    simpa using h
  have HZS := hidn hZs
  have HTT := hidn hTT
  have hTb : T = 106 := by rw [hTT, hE1]
  have HTB := hidn hTb
  have hT106 : 106 ≤ T := by omega
  have hT107 : T ≤ 106 := by omega
  have hE0 : 0 < E := by omega
  have hE0' : ((E : Int) == 0) = false := beq_eq_false_iff_ne.2 (by omega)
  clear hZ hZs hTT hEA hEB q1 q2 q3 q4 q5 q6 q7 hE1 hTb
  go_enter Tryd.func10, Tryd.ntmps10
  go_wp2_with fail
  refine (pairMade _ d F N M free fuse HD.out hM0).mono ?_
  rintro e w1 ⟨rfl, hb1⟩
  go_wp2_with fail
  refine (hHv _).mono ?_
  rintro e w4 ⟨rfl, hb4⟩
  have hb14 : Below w.heap.size w w4 := hb1.trans (hb4.mono hb1.size)
  clear hb1 hb4 hHv h
  obtain ⟨fa, hfa⟩ : ∃ fa, fa = fileA s := ⟨_, rfl⟩
  obtain ⟨fb, hfb⟩ : ∃ fb, fb = fileB s := ⟨_, rfl⟩
  rw [← hfa] at HEA hsA
  rw [← hfb] at HEB hsB
  rw [← hfa, ← hfb]
  have HFA := hidn hfa
  have HFB := hidn hfb
  clear hfa hfb
  have hi0 : ∀ wx : World, (Instr.index 51 (.agg #[.string fa, .string fb]) (.int .i64 0)).run Tryd.prog wx = .ok (.string fa) wx := fun wx => by kernel_rfl
  have hi1 : ∀ wx : World, (Instr.index 51 (.agg #[.string fa, .string fb]) (.int .i64 1)).run Tryd.prog wx = .ok (.string fb) wx := fun wx => by kernel_rfl
  have HD4 := hidn (HD.out.below hb14)
  go_wp2_with fail
  go_loopw [8, 22] (fun cv iv wr => ∃ k : Nat, k ≤ 2 ∧ iv = .int .i64 k ∧ wr = w4 ∧ cv = .int .i64 (if k = 0 then (0 : Int) else (E : Int))) (fun _ iv _ => 2 - (intOf iv).toNat)
  case atStart => exact ⟨0, by omega, rfl, rfl, rfl⟩
  case round =>
    obtain ⟨k, hk, rfl, rfl, rfl⟩ := hrel
    match k, hk with
    | 0, _ =>
      go_wp2_with fail
      refine (extents_disk _ d F N M free fuse HD4.out fa hsA E HEA).mono ?_
      rintro e w6 ⟨rfl, rfl⟩
      go_wp2
      go_roundw
      case rel => exact ⟨1, by omega, by first | rfl | go_num | simp, by first | rfl | trivial, by first | rfl | simp⟩
      case measure => simp [intOf]
    | 1, _ =>
      go_wp2_with fail
      refine (extents_disk _ d F N M free fuse HD4.out fb hsB E HEB).mono ?_
      rintro e w6 ⟨rfl, rfl⟩
      go_wp2
      go_roundw
      case rel => exact ⟨2, by omega, by first | rfl | go_num | simp, by first | rfl | trivial, by first | rfl | simp⟩
      case measure => simp [intOf]
    | 2, _ =>
      go_wp2_with fail
      obtain ⟨tb, htb⟩ : ∃ tb, tb = wr.heap.size := ⟨_, rfl⟩
      obtain ⟨w5, hw5⟩ : ∃ w5, w5 = wr.alloc (.cells Z 5) := ⟨_, rfl⟩
      have hblk : w5.heap[tb]? = some (.cells Z 5 (0, 0)) := by rw [hw5, htb]; exact heap_alloc_new _ _
      have hb5 : Below w.heap.size w w5 := by rw [hw5]; exact hb14.alloc hb14.size _
      have hth : w5.there tb 0 T := by
        intro j hj
        rw [Nat.zero_add]
        refine ⟨?_, frozen_of_row _ _ j _ _ hblk⟩
        rw [cell_of_row _ _ _ _ _ _ hblk, Array.getElem?_eq_getElem (by rw [HZS.out]; exact hj)]
        rfl
      have hge : w.heap.size ≤ tb := by rw [htb]; exact hb14.size
      have hlt5 : tb < w5.heap.size := (Array.getElem?_eq_some_iff.1 hblk).1
      rw [← htb, ← hw5]
      simp only [show ((2 : Nat) : Int) = 2 from rfl]
      have HTH := hidn hth
      clear htb hw5 hblk hth hmk hi0 hi1
      go_loopw [12, 37] (fun ev iv wq => ∃ i lo : Nat, i ≤ 1 ∧ iv = .int .i64 i ∧ ev = .int .i64 lo ∧ Hid (i = 0 → lo = 0) ∧ Hid (i = 1 → lo = L ∧ Bs wq (some ⟨tb, 0, none⟩) L pa) ∧ Below w.heap.size w wq ∧ Hid (wq.there tb 0 T) ∧ tb < wq.heap.size) (fun _ iv _ => 1 - (intOf iv).toNat)
      case atStart => exact ⟨0, 0, Nat.zero_le _, rfl, rfl, hidn (fun _ => rfl), hidn (fun h => by cases h), hb5, HTH, hlt5⟩
      case round =>
        obtain ⟨i, lo, hi, rfl, rfl, HL0, HL1, hbq, HTQ, hltq⟩ := hrel
        by_cases hik : i = 0
        · subst hik
          have hiE : decide ((0 : Int) < (E : Int)) = true := by simp; omega
          have hiE2 : (0 : Int) < (E : Int) := by omega
          have hlo0 := hidn (HL0.out rfl)
          have hloT : lo < T := by rw [hlo0.out]; omega
          have hloL : Hid (lo + L ≤ T) := hidn (by rw [hlo0.out]; omega)
          simp only [show ((0 : Nat) : Int) = 0 from rfl]
          go_wp2_with fail
          refine (get_ith _ d F N M free fuse (HD.out.below hbq) (hT.below hbq) hM0 s hs 0 E xa xb HQ.out.1 HQ.out.2.1 (by rw [← HFA.out]; exact HEA.out) (by rw [← HFB.out]; exact HEB.out) xa.rd xb.rd (hidn rfl) (hidn rfl) pa pb g g L pb.length (hidn HQ.out.2.2.1) (hidn HQ.out.2.2.2) HQ5.out rfl HQ6.out.1 HQ6.out.2 (Nat.le_refl _)).mono ?_
          rintro e w6 ⟨a6, c6, rfl, hB6, hb6⟩
          have hbq6 : Below w.heap.size w w6 := hbq.trans (hb6.mono hbq.size)
          have hth6 := there_below HTQ.out hb6 hltq
          have hlt6 : tb < w6.heap.size := Nat.lt_of_lt_of_le hltq hb6.size
          obtain ⟨b6, o6, rfl, _, _⟩ := hB6.pos hL0
          have hsl := slice_from tb T lo hloT
          have hinfo : (Tryd.prog.info? 5).map (·.size) = some 1 := by kernel_rfl
          have hcp : ∀ ty, (Builtin.copy_ #[22, 22] ty #[.slice (some ⟨tb, lo, none⟩) (T - lo) (T - lo), .slice (some ⟨b6, o6, none⟩) L c6]).run Tryd.prog w6 = .ok (.int .i64 L) (w6.setCells tb lo (vb pa)) := by
            intro ty
            have := run_copy_cells (P := Tryd.prog) w6 22 22 ty 5 tb lo (T - lo) (T - lo) ⟨b6, o6, none⟩ L c6 (vb pa) Tryd.underlying22 hinfo (by rw [length_vb, HQ5.out]; show L = min L (T - lo); have := hloL.out; omega) (fun j v hj => by rw [add_none]; exact bs_range hB6 j v hj) (fun j hj => by have := (hth6 (lo + j) (by rw [length_vb, HQ5.out] at hj; have := hloL.out; omega)).1; simpa using this) (fun j hj => by have := (hth6 (lo + j) (by rw [length_vb, HQ5.out] at hj; have := hloL.out; omega)).2; simpa using this) (fun v hv => one_vb _ v hv)
            rw [length_vb, HQ5.out] at this
            exact this
          obtain ⟨l2, hl2⟩ : ∃ l2, l2 = lo + L := ⟨_, rfl⟩
          have hwl : IntKind.i64.wrap ((lo : Int) + (L : Int)) = (l2 : Int) := by rw [IntKind.wrap_i64]; have := hloL.out; omega
          have hwl2 : (lo : Int) + (L : Int) = (l2 : Int) := by omega
          obtain ⟨w7, hw7⟩ : ∃ w7, w7 = w6.setCells tb lo (vb pa) := ⟨_, rfl⟩
          rw [← hw7] at hcp
          have hb7 : Below w.heap.size w w7 := by
            rw [hw7]
            exact hbq6.trans (below_setCells tb hge _ _ _)
          have HT7 : Hid (w7.there tb 0 T) := hidn (by rw [hw7]; exact World.there_setCells hth6 _ _ _)
          have hlt7 : tb < w7.heap.size := Nat.lt_of_lt_of_le hlt6 (by rw [hw7]; exact (below_setCells (B := w.heap.size) tb hge _ _ _).size)
          have HL2 : Hid (l2 = L) := hidn (by rw [hl2, hlo0.out]; omega)
          have HB7 : Hid (Bs w7 (some ⟨tb, 0, none⟩) L pa) := hidn (by
            have hr := World.rangeAt_setCells_same w6 tb lo (vb pa) (fun j hj => by have := hth6 (lo + j) (by rw [length_vb, HQ5.out] at hj; have := hloL.out; omega); simpa using this)
            rw [← hw7, hlo0.out] at hr
            refine ⟨HQ5.out, by unfold maxLen; omega, HQ6.out.1, (fun h => by cases h), fun x hx j hj => ?_⟩
            cases hx
            rw [add_none]
            exact hr j _ (vb_getD pa j (by rw [HQ5.out]; exact hj)))
          clear hB6 hb6 hbq hbq6 hth6 hlt6 hw7 hl2 hinfo hltq HL0 HL1
          go_wp2
          go_roundw
          case rel => exact ⟨1, l2, Nat.le_refl _, by first | rfl | go_num, rfl, hidn (fun h => by cases h), hidn (fun _ => ⟨HL2.out, HB7.out⟩), hb7, HT7, hlt7⟩
          case measure => simp [intOf]
        · obtain rfl : i = 1 := by omega
          have hiE : ¬ (1 : Int) < (E : Int) := by have := HE1.out; omega
          have hiE2 : decide ((1 : Int) < (E : Int)) = false := by simp; have := HE1.out; omega
          obtain ⟨hlL, hBf⟩ := HL1.out rfl
          have HLL := hidn hlL
          have HBF := hidn hBf
          have hloT : lo ≤ T := by rw [hlL]; omega
          have hloTi : (lo : Int) ≤ (T : Int) := by omega
          have HFIN : Hid (∃ a, (∃ x, (Ending.returned (.tuple #[.slice (some ⟨tb, 0, none⟩) lo T, .int .i64 0]) : Ending) = .returned (.tuple #[.slice a L x, .int .i64 0])) ∧ Bs wr a L pa ∧ Below w.heap.size w wr) := hidn ⟨some ⟨tb, 0, none⟩, ⟨T, by rw [hlL]⟩, hBf, hbq⟩
          have hlo0 : (0 : Int) ≤ (lo : Int) := by omega
          clear hlL hBf HL0 HL1
          go_wp2
          exact bodyPost_ret (v := .tuple #[.slice (some ⟨tb, 0, none⟩) lo T, .int .i64 0]) (by simp [results, Tryd.results10, go_sem]) rfl HFIN.out

def ext5 (s : ByteArray) : Ext := (zeroE.wrote (frameB (nums s) 0 1 [97, 98])).synced
theorem ext5_rd (s : ByteArray) : (ext5 s).rd = frameB (nums s) 0 1 [97, 98] := by simp [ext5, Ext.synced, Ext.wrote, Ext.rd]
theorem ext5_file (s : ByteArray) : (fileL s 1 [97, 98] 1).map Ext.synced = [ext5 s] := by simp [fileL, List.range_succ, ext5, partP]
theorem ext5_open (s : ByteArray) : openB (ext5 s).rd (nums s) ((0 : Nat) : Int) = some ([97, 98], 1) := by rw [ext5_rd]; exact openB_frame (nums s) 0 1 [97, 98] (by omega) (by omega) (by decide)
theorem fileX_ne : (fileB nmX).data.toList ≠ (fileA nmX).data.toList := by decide +kernel
theorem fileX_empty : [] ≠ (fileA nmX).data.toList ∧ [] ≠ (fileB nmX).data.toList := by constructor <;> decide +kernel
set_option maxHeartbeats 2000000 in
theorem awake5_any (w : World) (hT : CrcTab w) :
    Calls Tryd.prog 9 #[] w fun e w' => e = .returned (.bool true) ∧ Below w.heap.size w w' := by
  have kc := fun (w : World) (C : Array Value) (n c : Nat) => Lib.run_convert_bytes_const (P := Tryd.prog) w 22 5 C n c Tryd.underlying22 Tryd.underlying5
  have HT := hidn hT
  clear hT
  go_enter Tryd.func9, Tryd.ntmps9
  go_wp2_with fail
  refine (new_any _ 10 (by omega)).mono ?_
  rintro e w1 ⟨rfl, hD1, hb1, hs1⟩
  have HD1 := hidn hD1
  have HS1 := hidn hs1
  clear hD1 hs1
  go_wp2_with fail
  have hb1' : Below w1.heap.size w1 (w1.alloc (.cells #[.int .u8 97, .int .u8 98] 5 (2, 3))) := (Below.refl _ _).alloc (Nat.le_refl _) _
  have hB1 : Bs (w1.alloc (.cells #[.int .u8 97, .int .u8 98] 5 (2, 3))) (some ⟨w1.heap.size, 0, none⟩) 2 [97, 98] := bs_new w1 [97, 98] (2, 3) (by decide) (by decide)
  have hBF : BsF (fun k => w.heap.size ≤ k ∧ k < w.heap.size + 2) (w1.alloc (.cells #[.int .u8 97, .int .u8 98] 5 (2, 3))) (some ⟨w1.heap.size, 0, none⟩) 2 [97, 98] := ⟨hB1, fun x hx _ hF => by cases hx; have := HS1.out; have h2 : w1.heap.size < w.heap.size + 2 := hF.2; omega⟩
  have hb11 : Below w.heap.size w (w1.alloc (.cells #[.int .u8 97, .int .u8 98] 5 (2, 3))) := hb1.trans (hb1'.mono hb1.size)
  have hS1 : Sound5 (w1.alloc (.cells #[.int .u8 97, .int .u8 98] 5 (2, 3))) (fun k => w.heap.size ≤ k ∧ k < w.heap.size + 2) := ⟨HT.out.below hb11, fun hF => by have := HT.out.lt; omega, fun k hk => by have := hb1'.size; have := HS1.out; omega⟩
  refine (store_new _ _ _ 0 _ 10 (HD1.out.below hb1') hS1 rfl nmX (by decide) nmX_A nmX_B rfl rfl 1 (by omega) _ 2 2 [97, 98] hBF (by omega) (by omega) 1 (hidn (by decide)) (by unfold maxLen; omega) (by omega) (by omega)).mono ?_
  rintro e w2 ⟨rfl, F2, hD2, hG2⟩
  have HD2 := hidn hD2
  have HB2 : Hid (Below w.heap.size w w2) := hidn (hb11.trans (hG2.1.below hb11.size (fun k hk => hk.1)))
  have HS2 := hidn (hS1.gr hG2)
  clear hD2 hG2 hb1 hb1' hB1 hBF hb11 hS1 kc
  rw [ext5_file, ext5_file] at HD2
  obtain ⟨M1, hM1⟩ : ∃ M1, M1 = upd (upd (fun _ => []) (fileA nmX).data.toList [ext5 (fileA nmX)]) (fileB nmX).data.toList [ext5 (fileB nmX)] := ⟨_, rfl⟩
  rw [← hM1] at HD2
  have HA1 : Hid (M1 (fileA nmX).data.toList = [ext5 (fileA nmX)]) := hidn (by rw [hM1, upd_other _ _ _ _ (Ne.symm fileX_ne), upd_same])
  have HB1 : Hid (M1 (fileB nmX).data.toList = [ext5 (fileB nmX)]) := hidn (by rw [hM1, upd_same])
  have HE1 : Hid (M1 [] = []) := hidn (by rw [hM1, upd_other _ _ _ _ fileX_empty.2, upd_other _ _ _ _ fileX_empty.1])
  clear hM1
  go_wp2_with fail
  refine (load_one _ _ F2 _ M1 _ _ HD2.out HS2.out.tab HE1.out nmX (by decide) 1 1 2 rfl (by rw [HA1.out]; rfl) (by rw [HB1.out]; rfl) (ext5 (fileA nmX)) (ext5 (fileB nmX)) [97, 98] [97, 98] (by rw [HA1.out]; rfl) (by rw [HB1.out]; rfl) (ext5_open _) (ext5_open _) rfl (by omega) (by omega) (by decide) (by decide)).mono ?_
  rintro r w3 ⟨a3, c3, rfl, hB3, hb3⟩
  have HBB3 := hidn (HB2.out.trans (hb3.mono HB2.out.size))
  have hs3 := hB3.str (cap := c3)
  have hq : (strB [97, 98]).toList = [97, 98] := by decide +kernel
  generalize strB [97, 98] = st at *
  clear hb3 hB3
  go_wp2
  go_ret
  exact ⟨rfl, HBB3.out⟩
end Go.Proofs.YtdigblglehchbaaDoor
