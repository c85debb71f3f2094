/- append of so many noughts onto a row of bytes of one's own. -/
import Derived.Test.YtplielcjfmomlaaDoorAppA
import Derived.Lib.AppendZerosOnto
import Derived.Test.YtplielcjfmomlaaDoorMi
namespace Go.Proofs.YtplielcjfmomlaaDoor
open Go.RowKit
set_option linter.unusedVariables false

theorem zeroCells_u8 (n : Nat) : (Builtin.zeroCells (Value.int .u8 0).cells n).toList = vb (List.replicate n 0) := by
  have e : ∀ i, [Value.int .u8 0][i % 1]?.getD default = Value.int .u8 0 := fun i => by rw [Nat.mod_one]; rfl
  simp [Builtin.zeroCells, vb, Value.cells, e]
  rw [List.map_const', List.length_range]

theorem zeroArr_u8 (n : Nat) : Builtin.zeroCells (Value.int .u8 0).cells n = (vb (List.replicate n 0)).toArray := by rw [← zeroCells_u8, Array.toArray_toList]

theorem appZ (w : World) (base : Nat) (v : Value) (n k : Nat) (xs : List Value) (hown : w.ownsRow base 5 1 v n xs) (hbase : base ≤ w.heap.size) (h0 : 0 < k) (hk : n + k ≤ 1000000) :
    ∃ v' w', (∀ ty, (Builtin.append_ #[22, 3] ty #[v, .int .i64 (k : Int)]).run Tryd.prog w = .ok v' w') ∧ w'.ownsRow base 5 1 v' (n + k) (xs ++ vb (List.replicate k 0)) ∧ w.grownBy w' v.ownBlock := by
  obtain ⟨i0, hi, hz0, hz1, hz2⟩ := info_parts Tryd.info5
  have hlen : (xs ++ vb (List.replicate k 0)).length = (n + k) * 1 := by rw [List.length_append, hown.1, length_vb, List.length_replicate]; omega
  have grown : ∀ (old : Nat), old < n + k → ∀ (row : Option Nat),
      (w.drew.alloc (.cells (xs.toArray ++ Builtin.zeroCells (Value.int .u8 0).cells k ++ Builtin.zeroCells (Value.int .u8 0).cells (grownCap w (n + k) old 5 - (n + k))) 5)).ownsRow base 5 1
        (.slice (some ⟨w.heap.size, 0, none⟩) (n + k) (grownCap w (n + k) old 5)) (n + k) (xs ++ vb (List.replicate k 0)) ∧
      w.grownBy (w.drew.alloc (.cells (xs.toArray ++ Builtin.zeroCells (Value.int .u8 0).cells k ++ Builtin.zeroCells (Value.int .u8 0).cells (grownCap w (n + k) old 5 - (n + k))) 5)) row := by
    intro old ho row
    have hge := grownCap_ge w (n + k) old 5
    have hcm : grownCap w (n + k) old 5 ≤ maxLen := grownCap_le_maxLen w (n + k) old 5 (by unfold maxLen; omega)
    refine ⟨⟨hlen, .inr ⟨w.heap.size, _, _, rfl, hbase, heap_alloc_new w.drew _, hge, hcm, ?_, ?_⟩⟩, ⟨rfl, rfl, rfl, by simp, fun k hk _ => Below.heap_alloc w.drew _ k hk⟩⟩
    · simp only [Array.size_append, List.size_toArray, size_zeroCells, hown.1]
      simp only [Value.cells, List.size_toArray, List.length_cons, List.length_nil]
      omega
    · simp only [Array.toList_append, zeroCells_u8]
      rw [← hlen]
      exact List.take_left
  rcases hown.2 with ⟨rfl, rfl⟩ | ⟨g, cap, cur, rfl, hbg, hg, hnc, hcm, hcs, htake⟩
  · have hx : xs = [] := List.eq_nil_of_length_eq_zero (by simpa using hown.1)
    subst hx
    have hgr := grown 0 (by omega) (Value.ownBlock (.slice none 0 0))
    refine ⟨_, _, fun ty => ?_, hgr.1, hgr.2⟩
    have h := Lib.run_append_grow_zeros (P := Tryd.prog) w 22 3 ty 5 i0 (.int .u8 0) .i64 .i64 Tryd.underlying22 Tryd.underlying3 hi hz0 none 0 0 [] (run_firstCells_none w.drew i0.size 0 0 0) k h0 (by omega) (by omega) (by omega) (by rw [hz2]; omega) (growslice_fits (by omega) (by rw [hz2]; omega))
    exact h
  · by_cases hroom : n + k ≤ cap
    · have hst := run_storeCells_at Tryd.prog g (n * 1) 5 (vb (List.replicate k 0)) 0 cur w hg (by rw [length_vb, List.length_replicate, hcs]; omega) (one_vb _)
      simp only [Nat.add_zero] at hst
      refine ⟨.slice (some ⟨g, 0, none⟩) (n + k) cap, w.setRow g (cur.toList.take (n * 1) ++ vb (List.replicate k 0) ++ cur.toList.drop (n * 1 + (vb (List.replicate k 0)).length)).toArray, fun ty => ?_, ⟨hlen, .inr ⟨g, cap, _, rfl, hbg, setRow_heap w g cur _ 5 _ hg, hroom, hcm, ?_, ?_⟩⟩, ⟨rfl, rfl, rfl, by simp, fun k _ hk => setRow_other w g k _ (fun e => hk (by simp [Value.ownBlock, e]))⟩⟩
      · have hk0 : k ≠ 0 := by omega
        have hw : IntKind.i64.wrap (k : Int) = k := by rw [IntKind.wrap_i64]; omega
        have hneg : ¬ ((k : Int) < 0) := by omega
        have h48 : ¬ (281474976710656 < (k : Int)) := by omega
        simp [Builtin.append_, run_underlying Tryd.underlying22, run_underlying Tryd.underlying3, sizeOf, typeInfo, zeroValue, hi, hz0, hz1, hz2, asInt, asIntOf, hw, hroom, hneg, hk0, h48, Addr.add_lit, zeroArr_u8]
        have hst2 : (storeCells ⟨g, n, none⟩ (vb (List.replicate k 0))).run Tryd.prog w = .ok () (w.setRow g (List.take n cur.toList ++ (vb (List.replicate k 0) ++ List.drop (n + (vb (List.replicate k 0)).length) cur.toList)).toArray) := by simpa using hst
        rw [hst2]
        rfl
      · simp only [List.size_toArray, List.length_append, List.length_take, List.length_drop, Array.length_toList, length_vb, List.length_replicate]
        omega
      · rw [htake, ← hlen]
        exact List.take_left
    · have holds : ∀ j u, xs[j]? = some u → w.cell? ((⟨g, 0, none⟩ : Addr).add j) = some u := hown.cells (g := g) rfl
      have hgr := grown cap (by omega) (Value.ownBlock (.slice (some ⟨g, 0, none⟩) n cap))
      refine ⟨_, _, fun ty => ?_, hgr.1, hgr.2⟩
      have h := Lib.run_append_grow_zeros (P := Tryd.prog) w 22 3 ty 5 i0 (.int .u8 0) .i64 .i64 Tryd.underlying22 Tryd.underlying3 hi hz0 (some ⟨g, 0, none⟩) n cap xs (run_firstCells_some (P := Tryd.prog) w.drew i0.size n ⟨g, 0, none⟩ n cap xs (by rw [hz1]; exact hown.1) holds) k h0 (by omega) (by omega) (by omega) (by rw [hz2]; omega) (growslice_fits (by omega) (by rw [hz2]; omega))
      exact h
end Go.Proofs.YtplielcjfmomlaaDoor

namespace Go.Proofs.YtplielcjfmomlaaDoor
open Go.RowKit Go.Maps
set_option linter.unusedVariables false

theorem recP_short (M : List UInt8 → List Ext) (s : ByteArray) (at' en : Nat) (z : List Nat) (h1 : 1 ≤ z.length) (h2 : z.length ≤ 1000000) (hS : Stored (fun i => getP M s (i : Int)) at' z) (hen : en < at' + needB (z.length : Int)) : recP M s at' en = none := by
  obtain ⟨g, hg⟩ := hS
  have hL := recB_length z
  have h0 := hg 0 _ (partsB_at _ 0 (by omega))
  rw [Nat.add_zero, Nat.mul_zero, List.drop_zero] at h0
  have h4 : (recB z).take 4 = putB z.length 4 := by
    unfold recB
    rw [List.take_append_of_le_length (by rw [putB_length]; omega), List.take_of_length_le (by rw [putB_length]; omega)]
  have hget : getB 0 (((recB z).take 106).take 4) = z.length := by
    rw [take_take4, h4, getB_putB]
    have e4 : (256 : Nat) ^ 4 = 4294967296 := by decide
    rw [e4]
    exact Nat.mod_eq_of_lt (by omega)
  unfold recP
  simp only at h0
  rw [h0]
  simp only
  rw [if_neg (by rw [List.length_take, hL]; omega), hget, if_pos (Or.inr hen)]

theorem readP_short (M : List UInt8 → List Ext) (s : ByteArray) (en : Nat) (z : List Nat) (h1 : 1 ≤ z.length) (h2 : z.length ≤ 1000000) (hS : Stored (fun i => getP M s (i : Int)) 0 z) (h0 : 0 < en) (hen : en < needB (z.length : Int)) : readP M s en = none := by
  unfold readP
  show (if 0 < en then _ else _) = _
  rw [if_pos h0, recP_short M s 0 en z h1 h2 hS (by omega)]

theorem readP_more (M : List UInt8 → List Ext) (s : ByteArray) (en : Nat) (z : List Nat) (h1 : 1 ≤ z.length) (h2 : z.length ≤ 1000000) (hS : Stored (fun i => getP M s (i : Int)) 0 z) (hen : en = needB (z.length : Int) + 1) (hno : getP M s ((needB (z.length : Int) : Nat) : Int) = none) : readP M s en = none := by
  have hn : 1 ≤ needB (z.length : Int) := by rw [needB_yes _ h1 h2]; omega
  unfold readP
  obtain ⟨f, hf⟩ : ∃ f, en = f + 1 := ⟨en - 1, by omega⟩
  show (if 0 < en then _ else _) = _
  rw [if_pos (by omega), recP_stored M s 0 en z h1 h2 hS (by omega)]
  simp only
  rw [Nat.zero_add, hf]
  show (if needB (z.length : Int) < f + 1 then _ else _) = _
  rw [if_pos (by omega)]
  have : recP M s (needB (z.length : Int)) (f + 1) = none := by
    unfold recP
    rw [hno]
  rw [this]

theorem getP_none {M : List UInt8 → List Ext} {s : ByteArray} {i : Nat} (hA : (M (fileA s).data.toList).length ≤ i) (hB : (M (fileB s).data.toList).length ≤ i) : getP M s (i : Int) = none := by
  unfold getP rdO
  rw [if_neg (by omega), if_neg (by omega), Int.toNat_natCast, List.getElem?_eq_none hA, List.getElem?_eq_none hB]
  rfl

theorem wmod_cut (x : Int) (k : Nat) (hk : 1 ≤ k) (hk2 : k ≤ 1000) : ∃ r : Nat, r < k ∧ IntKind.i64.wrap (IntKind.u64.wrap ((IntKind.u64.wrap x).tmod (k : Int))) = (r : Int) ∧ (IntKind.u64.wrap x).tmod (k : Int) = (r : Int) := by
  have h1 : IntKind.u64.wrap x = x % 18446744073709551616 := by rw [IntKind.wrap_u64]
  obtain ⟨u, hu⟩ : ∃ u : Nat, IntKind.u64.wrap x = (u : Int) := ⟨(IntKind.u64.wrap x).toNat, by rw [h1]; omega⟩
  rw [hu]
  have e : ((u : Int)).tmod (k : Int) = ((u % k : Nat) : Int) := by rw [Int.tmod_eq_emod_of_nonneg (by omega)]; simp
  have hlt : u % k < k := Nat.mod_lt _ (by omega)
  refine ⟨u % k, hlt, ?_, e⟩
  rw [e, IntKind.wrap_u64, IntKind.wrap_i64]
  omega

set_option maxRecDepth 100000 in
set_option maxHeartbeats 4000000 in
theorem walCuts_walk (y0 y1 y2 : Value) (a : Option Addr) (l c : Nat) (hlc : l ≤ c) (zs : List Nat) (x : Int) (w : World) (hB : Bs w a l zs) (hT : CrcTab w) :
    Calls Tryd.prog 6 #[.agg #[y0, y1, y2, .slice a l c], .int .i64 x] w fun e w' => e = .returned (.bool true) ∧ Below w.heap.size w w' := by
  obtain ⟨m, hm⟩ : ∃ m, m = min l 500 := ⟨_, rfl⟩
  have HM := hidn hm
  have hBm := hidn (bs_cut hB m (by omega))
  have hm5 : m ≤ 500 := by omega
  have HT := hidn hT
  have b1 : Below w.heap.size w (w.alloc (.cells #[y0, y1, y2, .slice a l c] 38)) := (Below.refl _ _).alloc (Nat.le_refl _) _
  clear hm hT hB
  go_enter Tryd.func6, Tryd.ntmps6
  go_wp2_with fail
  refine (cut_any _ y0 y1 y2 a l c hlc m HM).mono ?_
  rintro e w2 ⟨rfl, hb2⟩
  have b2 := b1.trans (hb2.mono b1.size)
  have HCl := hidn (clone_any a m c (zs.take m) w2 (hBm.out.below b2) (by omega))
  clear b1 hb2
  go_wp2_with fail
  refine HCl.out.mono ?_
  clear HCl
  rintro e w3 ⟨v3, rfl, hown3, hb3⟩
  have b3 := b2.trans (hb3.mono b2.size)
  obtain ⟨v4, w4, hrun, hown4, hgr4⟩ := appZ w3 w.heap.size v3 m 200 (vb (zs.take m)) (own_mono hown3 b2.size) b3.size (by omega) (by omega)
  have b4 : Below w.heap.size w w4 := b3.grown hgr4 b3.size (fun k hk => by have := (hown3.lt k hk).1; have := b2.size; omega)
  obtain ⟨g4, c4, e4, hg4, _⟩ := own_pos hown4 (by omega)
  subst e4
  obtain ⟨z, hz⟩ : ∃ z, z = zs.take m ++ List.replicate 200 0 := ⟨_, rfl⟩
  have hzb : ∀ y ∈ z, y < 256 := by
    intro y hy
    rw [hz] at hy
    rcases List.mem_append.1 hy with h | h
    · exact hBm.out.2.2.1 y h
    · have := List.eq_of_mem_replicate h; omega
  obtain ⟨n, hn⟩ : ∃ n, n = m + 200 := ⟨_, rfl⟩
  have hzl : z.length = n := by rw [hz, List.length_append, List.length_replicate, hBm.out.1, hn]
  have hB4 : Bs w4 (some ⟨g4, 0, none⟩) n z := by
    have h := hown4
    rw [← vb_appendB, ← hz, ← hn, ← hzl] at h
    obtain ⟨a2, c2, e2, hx⟩ := bs_of_own h hzb
    rw [hzl] at e2 hx
    cases e2
    exact hx
  have HRUN := hidn hrun
  have HZL := hidn hzl
  have HB4 := hidn hB4
  rw [← hn] at HRUN
  have HNb : Hid (200 ≤ n ∧ n ≤ 700) := hidn (by omega)
  clear hown3 hown4 hgr4 hb3 b2 b3 hrun hz hzb hB4 hzl hn hBm
  go_wp2_with (at_builtin; refine wpList_app_runM rfl _ _ 22 3 22 rfl rfl v3 _ _ rfl rfl (HRUN.out _) ?_; clear HRUN)
  refine (new_any _ 60 (by omega)).mono ?_
  rintro e w5 ⟨rfl, hD5, hb5, hs5⟩
  have b5 := b4.trans (hb5.mono b4.size)
  have HD5 := hidn hD5
  have hS5 : Sound5 w5 (fun k => w4.heap.size ≤ k ∧ k < w4.heap.size + 2) := ⟨HT.out.below b5, fun hF => by have := HT.out.lt; have := b4.size; omega, fun k hk => by omega⟩
  have hlt4 : g4 < w4.heap.size := by
    have := block_lt_of_cell (HB4.out.2.2.2.2 _ rfl 0 (by have := HNb.out; omega))
    rw [add_none] at this
    exact this
  have hBF : BsF (fun k => w4.heap.size ≤ k ∧ k < w4.heap.size + 2) w5 (some ⟨g4, 0, none⟩) n z := ⟨HB4.out.below hb5, fun y hy _ hF => by cases hy; have h2 : w4.heap.size ≤ g4 := hF.1; omega⟩
  obtain ⟨E, hE⟩ : ∃ E, E = (n + 3) / 106 + 1 := ⟨_, rfl⟩
  have hEb : 2 ≤ E ∧ E ≤ 7 := by have := HNb.out; omega
  have HEE := hidn hE
  have HAp := hidn (append_end w5 _ _ 0 _ 60 HD5.out hS5 1 (by omega) 0 (logOK_new 1) 1 (by omega) (some ⟨g4, 0, none⟩) n c4 z hBF (by have := HNb.out; omega) (by have := HNb.out; omega) (by omega) (by omega) E HEE (by omega) (by omega))
  have HB5 := hidn b5
  have HG5 : Hid (∀ k, (fun k => w4.heap.size ≤ k ∧ k < w4.heap.size + 2) k → w.heap.size ≤ k) := hidn (fun k hk => by have := b4.size; omega)
  have HS5 := hidn hS5
  have HLp := hidn ((logOK_new 1).app (by omega) 1 (partsB (recB z)))
  have HSt := hidn (appM_stored (fun _ => []) (segN 1) 0 1 z rfl rfl (by omega) (by rw [recB_parts, HZL.out]; omega))
  obtain ⟨M, hM⟩ : ∃ M, M = appM (fun _ => []) (segN 1) 0 1 (partsB (recB z)) := ⟨_, rfl⟩
  rw [← hM] at HAp HLp HSt
  have hnd : needB (z.length : Int) = E := by rw [needB_yes _ (by rw [HZL.out]; have := HNb.out; omega) (by rw [HZL.out]; have := HNb.out; omega), HZL.out, hE]
  have hPL : (partsB (recB z)).length = E := by rw [recB_parts, HZL.out, hE]
  rw [hPL, Nat.zero_add] at HLp
  obtain ⟨r, hr1, hr2, hr3⟩ := wmod_cut x (E - 1) (by omega) (by omega)
  have hR1 : readP M (segN 1) (r + 1) = none := readP_short M (segN 1) (r + 1) z (by rw [HZL.out]; have := HNb.out; omega) (by rw [HZL.out]; have := HNb.out; omega) HSt.out (by omega) (by rw [hnd]; omega)
  have hR2 : readP M (segN 1) (E + 1) = none := readP_more M (segN 1) (E + 1) z (by rw [HZL.out]; have := HNb.out; omega) (by rw [HZL.out]; have := HNb.out; omega) HSt.out (by rw [hnd]) (by rw [hnd]; exact getP_none (by rw [← HLp.out.lA]; exact Nat.le_refl _) (by rw [← HLp.out.lB]; exact Nat.le_refl _))
  have HR1 := hidn hR1
  have HR2 := hidn hR2
  have HER := hidn hr1
  have hE2 : decide ((E : Int) < 2) = false := by simp; omega
  have hE3 : decide (E < 2) = false := by simp; omega
  have hwE : IntKind.i64.wrap ((E : Int) - 1) = ((E - 1 : Nat) : Int) := by rw [IntKind.wrap_i64]; omega
  obtain ⟨E1, hE1⟩ : ∃ E1, E1 = E - 1 := ⟨_, rfl⟩
  rw [← hE1] at hwE hr2 hr3
  have hwE' : (E : Int) - 1 = (E1 : Int) := by omega
  have hwE2 : IntKind.u64.wrap (E1 : Int) = (E1 : Int) := by rw [IntKind.wrap_u64]; omega
  have hE10 : ¬ ((E1 : Int) = 0) := by omega
  have hE11 : ¬ (E1 = 0) := by omega
  have hwr : IntKind.u64.wrap (r : Int) = (r : Int) := by rw [IntKind.wrap_u64]; omega
  have hwr2 : IntKind.i64.wrap (r : Int) = (r : Int) := by rw [IntKind.wrap_i64]; omega
  have hw1r : IntKind.i64.wrap (1 + (r : Int)) = ((r + 1 : Nat) : Int) := by rw [IntKind.wrap_i64]; omega
  obtain ⟨r1, hr1e⟩ : ∃ r1, r1 = r + 1 := ⟨_, rfl⟩
  rw [← hr1e] at hw1r HR1
  have hw1r' : 1 + (r : Int) = (r1 : Int) := by omega
  obtain ⟨E2, hE2e⟩ : ∃ E2, E2 = E + 1 := ⟨_, rfl⟩
  rw [← hE2e] at HR2
  have hw2r : IntKind.i64.wrap ((E : Int) + 1) = (E2 : Int) := by rw [IntKind.wrap_i64]; omega
  have hw2r' : (E : Int) + 1 = (E2 : Int) := by omega
  have HEb : Hid (r1 ≤ 100 ∧ E2 ≤ 100) := hidn (by omega)
  have hr1b : r1 ≤ 100 := by omega
  have hE2b : E2 ≤ 100 := by omega
  clear hb5 hs5 hD5 hS5 hBF hE hM hnd hPL hR1 hR2 hr1 b5 b4 hlt4 hg4 HD5 hE1 hr1e hE2e HB4
  go_wp2_with fail
  refine HAp.out.mono ?_
  clear HAp
  rintro e w6 ⟨rfl, F6, hD6, hG6⟩
  have HD6 := hidn hD6
  have HB6 := hidn (HB5.out.trans (hG6.1.below HB5.out.size HG5.out))
  have HS6 := hidn (HS5.out.gr hG6)
  have HRd1 := hidn (read_wal w6 _ F6 _ M _ _ HD6.out HS6.out.tab HLp.out.nil (segN 1) (by decide +kernel) r1 (by have := HEb.out; omega) ((1 : Nat) : Int) (by omega) (by omega) (wname_below w6 1 (by omega)))
  rw [HR1.out] at HRd1
  have HRd2 := fun (wx : World) (hx : Below w6.heap.size w6 wx) => read_wal wx _ F6 _ M _ _ (HD6.out.below hx) (HS6.out.tab.below hx) HLp.out.nil (segN 1) (by decide +kernel) E2 (by have := HEb.out; omega) ((1 : Nat) : Int) (by omega) (by omega) (wname_below wx 1 (by omega))
  rw [HR2.out] at HRd2
  clear hD6 hG6
  go_wp2_with fail
  refine HRd1.out.mono ?_
  clear HRd1
  rintro e w7 ⟨hb7, rfl⟩
  go_wp2_with fail
  refine (HRd2 _ hb7).mono ?_
  clear HRd2
  rintro e w8 ⟨hb8, rfl⟩
  have HB8 := hidn (HB6.out.trans ((hb7.trans (hb8.mono hb7.size)).mono HB6.out.size))
  clear hb7 hb8
  go_wp2
  go_ret
  exact ⟨rfl, HB8.out⟩
end Go.Proofs.YtplielcjfmomlaaDoor
