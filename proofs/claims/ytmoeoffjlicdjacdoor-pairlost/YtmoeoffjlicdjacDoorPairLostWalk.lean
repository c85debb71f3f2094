/- The walk of dryrotlaw05.PairLost: it returns true. -/
import Derived.Test.YtmoeoffjlicdjacDoorPairLoadL
import Derived.OpenShut
namespace Go.Proofs.YtmoeoffjlicdjacDoor
open Go.RowKit Go.Maps
set_option linter.unusedVariables false

def fullE (z : List Nat) : Ext := ⟨z, z, z, false⟩
theorem fullE_new (z : List Nat) : (zeroE.wrote z).synced = fullE z := by simp [Ext.synced, Ext.wrote, fullE]
def filesF (s : ByteArray) (g : Nat) (zs : List Nat) (E : Nat) : List Ext := (List.range E).map fun j => fullE (frameB (nums s) j g (partP zs j))
theorem filesF_eq (s : ByteArray) (g : Nat) (zs : List Nat) (E : Nat) : (fileL s g zs E).map Ext.synced = filesF s g zs E := by
  simp [fileL, filesF, fullE_new]
theorem filesF_length (s : ByteArray) (g : Nat) (zs : List Nat) (E : Nat) : (filesF s g zs E).length = E := by simp [filesF]
theorem filesF_at (s : ByteArray) (g : Nat) (zs : List Nat) (E i : Nat) (hi : i < E) : (filesF s g zs E)[i]? = some (fullE (frameB (nums s) i g (partP zs i))) := by simp [filesF, hi]
theorem rd_fullE (z : List Nat) : (fullE z).rd = z := rfl
theorem rd_rot (z : List Nat) (k m : Nat) : ((fullE z).rot k m).rd = z.set k (z.getD k 0 ^^^ m) := rfl
theorem partP_le (zs : List Nat) (i : Nat) : (partP zs i).length ≤ 106 := by unfold partP; rw [List.length_take]; omega
theorem partP_mem {zs : List Nat} (h : ∀ x ∈ zs, x < 256) (i : Nat) : ∀ x ∈ partP zs i, x < 256 := fun x hx => h x (List.mem_of_mem_drop (List.mem_of_mem_take hx))
theorem partP_full (zs : List Nat) (i : Nat) (h : i + 1 < extB zs.length) : (partP zs i).length = 106 := by
  unfold extB at h
  unfold partP
  rw [List.length_take, List.length_drop]
  split at h <;> omega
theorem or1_8 (m : Nat) (h : m < 256) : bits .or .u8 (m : Int) 1 = ((m ||| 1 : Nat) : Int) := bits_or_u .u8 rfl m 1 h (by decide)
theorem or1_lt8 (m : Nat) (h : m < 256) : m ||| 1 < 256 := Nat.or_lt_two_pow (n := 8) h (by decide)
theorem or1_ne8 (m : Nat) : m ||| 1 ≠ 0 := by
  intro h
  have := congrArg (fun x => x.testBit 0) h
  simp at this
theorem xor_ne8 (x y : Nat) (h : y ≠ 0) : x ^^^ y ≠ x := by
  intro e
  have : x ^^^ y = x ^^^ 0 := by simpa using e
  exact h (xor_cancel_left this)
theorem turned_none (nm : List Nat) (i g : Nat) (p : List Nat) (hp : p.length ≤ 106) (hz : ∀ x ∈ p, x < 256) (k m : Nat) (hk : k < 128) (hm : m < 256) (hm0 : m ≠ 0) : openB ((frameB nm i g p).set k ((frameB nm i g p).getD k 0 ^^^ m)) nm (i : Int) = none := by
  refine openB_turned nm i i g p hp hz k _ hk ?_ (xor_ne8 _ _ hm0)
  refine Nat.xor_lt_two_pow (n := 8) ?_ hm
  exact getD_b (by rw [frameB_length nm i g p hp]; exact hk) (frameB_lt nm i g p hp hz)
def nmA : ByteArray := ⟨#[120, 46, 97]⟩
def nmB : ByteArray := ⟨#[120, 46, 98]⟩
theorem fileA_x : fileA nmX = nmA := by decide +kernel
theorem fileB_x : fileB nmX = nmB := by decide +kernel
theorem nmB_ne : nmB.data.toList ≠ nmA.data.toList := by decide +kernel
theorem nm_empty : [] ≠ nmA.data.toList ∧ [] ≠ nmB.data.toList := by constructor <;> decide +kernel

set_option maxHeartbeats 4000000 in
theorem pairLost_walk (a : Option Addr) (len cap : Nat) (zs : List Nat) (iI atI : Int) (x y : Nat) (w : World) (hB : Bs w a len zs) (hcap : len ≤ cap) (hcm : cap ≤ maxLen) (hT : CrcTab w) (hx : x < 256) (hy : y < 256) :
    Calls Tryd.prog 3 #[.slice a len cap, .int .i64 iI, .int .i64 atI, .int .u8 x, .int .u8 y] w fun e w' => e = .returned (.bool true) ∧ Below w.heap.size w w' := by
  obtain ⟨m, hm⟩ : ∃ m, m = min len 600 := ⟨_, rfl⟩
  have hmn : (if (600 : Int) < (len : Int) then (600 : Int) else (len : Int)) = (m : Int) := by split <;> omega
  have hBm := bs_cut hB m (by omega)
  obtain ⟨pp, hpp⟩ : ∃ pp, pp = zs.take m := ⟨_, rfl⟩
  rw [← hpp] at hBm
  obtain ⟨E, hE⟩ : ∃ E, E = extB m := ⟨_, rfl⟩
  have hE6 : 1 ≤ E ∧ E ≤ 6 := by rw [hE]; unfold extB; split <;> omega
  have hmc : (m : Int) ≤ (cap : Int) := by omega
  have hmc' : m ≤ cap := by omega
  have hm6 : m ≤ 600 := by omega
  have HE := hidn hE
  have HBm := hidn hBm
  have hsx : nmX.size ≤ 1000 := by decide
  -- the numbers
  obtain ⟨K, hK⟩ : ∃ K : Nat, (IntKind.u64.wrap iI).tmod (E : Int) = (K : Int) ∧ K < E := by
    have h0 : 0 ≤ IntKind.u64.wrap iI := by rw [IntKind.wrap_u64]; omega
    refine ⟨((IntKind.u64.wrap iI).tmod E).toNat, ?_, ?_⟩
    · rw [Int.toNat_of_nonneg (Int.tmod_nonneg _ h0)]
    · have h1 := Int.tmod_nonneg (E : Int) h0
      have h2 := Int.tmod_lt_of_pos (IntKind.u64.wrap iI) (show (0 : Int) < E by omega)
      omega
  obtain ⟨hK1, hK2⟩ := hK
  obtain ⟨t, ht⟩ : ∃ t : Nat, (IntKind.u64.wrap atI).tmod 128 = (t : Int) ∧ t < 128 := by
    have h0 : 0 ≤ IntKind.u64.wrap atI := by rw [IntKind.wrap_u64]; omega
    refine ⟨((IntKind.u64.wrap atI).tmod 128).toNat, ?_, ?_⟩
    · rw [Int.toNat_of_nonneg (Int.tmod_nonneg _ h0)]
    · have h1 := Int.tmod_nonneg 128 h0
      have h2 := Int.tmod_lt_of_pos (IntKind.u64.wrap atI) (show (0 : Int) < 128 by omega)
      omega
  obtain ⟨ht1, ht2⟩ := ht
  have hwE : IntKind.u64.wrap (E : Int) = (E : Int) := by rw [IntKind.wrap_u64]; omega
  have hwK : IntKind.i64.wrap (K : Int) = (K : Int) := by rw [IntKind.wrap_i64]; omega
  have hwt : IntKind.i64.wrap (t : Int) = (t : Int) := by rw [IntKind.wrap_i64]; omega
  have hEn : (E : Int) ≠ 0 := by omega
  have hEb : ((E : Int) == 0) = false := beq_eq_false_iff_ne.2 hEn
  obtain ⟨mx, hmx⟩ : ∃ mx, mx = x ||| 1 := ⟨_, rfl⟩
  obtain ⟨my, hmy⟩ : ∃ my, my = y ||| 1 := ⟨_, rfl⟩
  have hox : bits .or .u8 (x : Int) 1 = (mx : Int) := by rw [hmx]; exact or1_8 x hx
  have hoy : bits .or .u8 (y : Int) 1 = (my : Int) := by rw [hmy]; exact or1_8 y hy
  have HMX : Hid (mx < 256 ∧ mx ≠ 0) := hidn (by rw [hmx]; exact ⟨or1_lt8 x hx, or1_ne8 x⟩)
  have HMY : Hid (my < 256 ∧ my ≠ 0) := hidn (by rw [hmy]; exact ⟨or1_lt8 y hy, or1_ne8 y⟩)
  have HK2 := hidn hK2
  have HT2 := hidn ht2
  clear hpp hE hm hBm hB hmx hmy hK2 ht2
  go_enter Tryd.func3, Tryd.ntmps3
  go_wp2_with fail
  refine (new_any _ 20 (by omega)).mono ?_
  rintro e w1 ⟨rfl, hD1, hb1, hs1⟩
  have hB1 : BsF (fun k => w.heap.size ≤ k ∧ k < w.heap.size + 2) w1 a m pp := by
    refine ⟨HBm.out.below hb1, fun x hx hl hF => ?_⟩
    have e : (x.add 0).block = x.block := by unfold Addr.add; split <;> rfl
    have := block_lt_of_cell (HBm.out.2.2.2.2 x hx 0 hl)
    omega
  have hS1 : Sound5 w1 (fun k => w.heap.size ≤ k ∧ k < w.heap.size + 2) := ⟨hT.below hb1, fun hF => by have := hT.lt; omega, fun k hk => by rw [hs1]; exact hk.2⟩
  go_wp2_with fail
  refine (store_new _ _ _ 0 _ 20 hD1 hS1 rfl nmX hsx nmX_A nmX_B rfl rfl 1 (by omega) a m cap pp hB1 hmc' (by omega) E HE (by unfold maxLen; omega) (by omega) (by omega)).mono ?_
  rw [fileA_x, fileB_x, filesF_eq, filesF_eq]
  rintro e w2 ⟨rfl, F2, hD2, hG2⟩
  have HD2 := hidn hD2
  have HS2 := hidn (hS1.gr hG2)
  have HG2 := hidn hG2
  clear hD2 hG2 hD1 hS1 hB1
  have hzA : nmA.size ≤ maxLen := by decide
  have hzB : nmB.size ≤ maxLen := by decide
  obtain ⟨M1, hM1⟩ : ∃ M1, M1 = upd (upd (fun _ => []) nmA.data.toList (filesF nmA 1 pp E)) nmB.data.toList (filesF nmB 1 pp E) := ⟨_, rfl⟩
  rw [← hM1] at HD2
  have hA1 : M1 nmA.data.toList = filesF nmA 1 pp E := by rw [hM1, upd_other _ _ _ _ (Ne.symm nmB_ne), upd_same]
  have hB1 : M1 nmB.data.toList = filesF nmB 1 pp E := by rw [hM1, upd_same]
  have hE1 : M1 [] = [] := by rw [hM1, upd_other _ _ _ _ nm_empty.2, upd_other _ _ _ _ nm_empty.1]
  have HA1 := hidn hA1
  have HB1 := hidn hB1
  have HE1 := hidn hE1
  clear hM1 hA1 hB1 hE1
  go_wp2_with fail
  refine (extents_disk _ _ _ _ _ _ _ HD2.out nmA hzA E (hidn (by rw [HA1.out, filesF_length]))).mono ?_
  rintro e w3 ⟨rfl, rfl⟩
  go_wp2_with fail
  refine (rot_some _ _ _ _ _ _ _ HD2.out nmA hzA K E (K * 385) (hidn (by rw [HA1.out, filesF_length])) HK2.out rfl t mx HT2.out HMX.out.1 _ (hidn (by rw [HA1.out]; exact filesF_at nmA 1 pp E K HK2.out))).mono ?_
  rintro e w4 ⟨rfl, hD4, hG4⟩
  have HD4 := hidn hD4
  have HG4 := hidn (HG2.out.trans hG4)
  have HS4 := hidn (HS2.out.gr hG4)
  clear hD4 hG4
  have HB4 : Hid (upd M1 nmA.data.toList ((M1 nmA.data.toList).set K ((fullE (frameB (nums nmA) K 1 (partP pp K))).rot t mx)) nmB.data.toList = filesF nmB 1 pp E) := hidn (by rw [upd_other _ _ _ _ nmB_ne]; exact HB1.out)
  go_wp2_with fail
  refine (rot_some _ _ _ _ _ _ _ HD4.out nmB hzB K E (K * 385) (hidn (by rw [HB4.out, filesF_length])) HK2.out rfl t my HT2.out HMY.out.1 _ (hidn (by rw [HB4.out]; exact filesF_at nmB 1 pp E K HK2.out))).mono ?_
  rintro e w5 ⟨rfl, hD5, hG5⟩
  have HD5 := hidn hD5
  have HG5 := hidn (HG4.out.trans hG5)
  have HS5 := hidn (HS4.out.gr hG5)
  clear hD5 hG5
  rw [HB4.out, HA1.out] at HD5
  obtain ⟨M5, hM5⟩ : ∃ M5, M5 = upd (upd M1 nmA.data.toList ((filesF nmA 1 pp E).set K ((fullE (frameB (nums nmA) K 1 (partP pp K))).rot t mx))) nmB.data.toList ((filesF nmB 1 pp E).set K ((fullE (frameB (nums nmB) K 1 (partP pp K))).rot t my)) := ⟨_, rfl⟩
  rw [← hM5] at HD5
  have hA5 : M5 nmA.data.toList = (filesF nmA 1 pp E).set K ((fullE (frameB (nums nmA) K 1 (partP pp K))).rot t mx) := by rw [hM5, upd_other _ _ _ _ (Ne.symm nmB_ne), upd_same]
  have hB5 : M5 nmB.data.toList = (filesF nmB 1 pp E).set K ((fullE (frameB (nums nmB) K 1 (partP pp K))).rot t my) := by rw [hM5, upd_same]
  have hE5 : M5 [] = [] := by rw [hM5, upd_other _ _ _ _ nm_empty.2, upd_other _ _ _ _ nm_empty.1]; exact HE1.out
  have hpz := HBm.out.2.2.1
  have hgl : ∀ wx, Below w5.heap.size w5 wx → Calls Tryd.prog 14 #[.pointer (some ⟨w.heap.size + 1, 0, none⟩), .string nmX, .int .i64 K] wx fun e w' => e = .returned (.tuple #[.slice none 0 0, .int .i64 0, .int .i64 50]) ∧ Below wx.heap.size wx w' := by
    intro wx hbx
    refine get_lost wx _ _ _ M5 _ _ (HD5.out.below hbx) (HS5.out.tab.below hbx) hE5 nmX (by decide) K E _ _ (by rw [fileA_x, hA5, List.getElem?_set_self (by rw [filesF_length]; exact HK2.out)]) (by rw [fileB_x, hB5, List.getElem?_set_self (by rw [filesF_length]; exact HK2.out)]) (by rw [fileA_x, hA5, List.length_set, filesF_length]) (by rw [fileB_x, hB5, List.length_set, filesF_length]) _ _ (hidn rfl) (hidn rfl) (hidn ?_) (hidn ?_)
    · rw [fileA_x, rd_rot]
      exact turned_none _ K 1 _ (partP_le _ _) (partP_mem hpz _) t mx HT2.out HMX.out.1 HMX.out.2
    · rw [fileB_x, rd_rot]
      exact turned_none _ K 1 _ (partP_le _ _) (partP_mem hpz _) t my HT2.out HMY.out.1 HMY.out.2
  have hld := load_lost w5 _ _ _ M5 _ _ HD5.out HS5.out.tab hE5 nmX (by decide) 1 E K (by omega) HK2.out (by rw [fileA_x, hA5, List.length_set, filesF_length]) (by rw [fileB_x, hB5, List.length_set, filesF_length]) (by
    intro i hi
    have hiE : i < E := Nat.lt_trans hi HK2.out
    refine ⟨_, _, partP pp i, partP pp i, by rw [fileA_x, hA5, List.getElem?_set_ne (by omega)]; exact filesF_at nmA 1 pp E i hiE, by rw [fileB_x, hB5, List.getElem?_set_ne (by omega)]; exact filesF_at nmB 1 pp E i hiE, ?_, ?_, ?_, partP_mem hpz _, partP_mem hpz _⟩
    · rw [fileA_x, rd_fullE]
      exact openB_frame _ i 1 _ (by omega) (by omega) (partP_le _ _)
    · rw [fileB_x, rd_fullE]
      exact openB_frame _ i 1 _ (by omega) (by omega) (partP_le _ _)
    · refine partP_full pp i ?_
      rw [HBm.out.1, ← HE.out]
      have := HK2.out
      omega) hgl
  have HLD := hidn hld
  have HGL := hidn hgl
  have HL5 := hidn (HG5.out.1.below (n := w.heap.size) hb1.size (fun k hk => hk.1))
  clear hld hgl hA5 hB5 hE5 hM5 hpz
  go_wp2_with fail
  refine HLD.out.mono ?_
  rintro e w6 ⟨rfl, hb6⟩
  go_wp2_with fail
  refine (mend_lost _ _ nmX K (HGL.out _ hb6)).mono ?_
  rintro e w7 ⟨rfl, hb7⟩
  go_wp2
  go_ret
  exact ⟨rfl, (hb1.trans HL5.out).trans ((hb6.mono (Nat.le_trans hb1.size HL5.out.size)).trans (hb7.mono (Nat.le_trans (Nat.le_trans hb1.size HL5.out.size) hb6.size)))⟩

theorem pairLost_all (a : Option Addr) (len cap : Nat) (zs : List Nat) (iI atI xI yI : Int) (w : World) (hB : Bs w a len zs) (hcap : len ≤ cap) (hcm : cap ≤ maxLen) (hT : CrcTab w) (hx : (Lit.int .u8 xI).wf = true) (hy : (Lit.int .u8 yI).wf = true) :
    Calls Tryd.prog 3 #[.slice a len cap, .int .i64 iI, .int .i64 atI, .int .u8 xI, .int .u8 yI] w fun e w' => e = .returned (.bool true) ∧ Below w.heap.size w w' := by
  have b1 := bounds_u8 hx
  have b2 := bounds_u8 hy
  obtain ⟨x, rfl⟩ := Int.eq_ofNat_of_zero_le b1.1
  obtain ⟨y, rfl⟩ := Int.eq_ofNat_of_zero_le b2.1
  exact pairLost_walk a len cap zs iI atI x y w hB hcap hcm hT (by omega) (by omega)
end Go.Proofs.YtmoeoffjlicdjacDoor
