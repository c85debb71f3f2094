/- The document's pairs (dryrotref05) over the plain state: write, Both, Put. -/
import Derived.Test.YtdppolelakbbiaaGreatDoorMv
import Derived.Test.YtdppolelakbbiaaGreatDoorMm
import Derived.Test.YtdppolelakbbiaaGreatDoorMt
import Derived.Test.YtdppolelakbbiaaGreatDoorMn
namespace Go.Proofs.YtdppolelakbbiaaGreatDoor
open Go.RowKit Go.Maps
set_option linter.unusedVariables false
structure Pl where
 a : Option Addr
 l : Nat
 c : Nat
 zs : List Nat
def Pls (F : Nat → Prop) (w : World) (b off n : Nat) (l : List Pl) : Prop :=
 l.length = n ∧ 0 < n ∧ (∀ q ∈ l, BsF F w q.a q.l q.zs ∧ q.l ≤ 106 ∧ (q.a = none → q.c = 0)) ∧ ¬ F b ∧ ∀ j q, l[j]? = some q → w.cell? ⟨b, off + j, none⟩ = some (.slice q.a q.l q.c)
theorem Pls.gr {F F' : Nat → Prop} {w w' : World} {b off n : Nat} {l : List Pl} (h : Pls F w b off n l) (hG : Gr F F' w w') : Pls F' w' b off n l := by
 obtain ⟨h1, h2, h3, h4, h5⟩ := h
 obtain ⟨q0, hq0⟩ : ∃ q0, l[0]? = some q0 := ⟨_, lQ6 (by omega)⟩
 have hb0 : b < w.heap.size := block_lt_of_cell (h5 0 q0 hq0)
 exact ⟨h1, h2, fun q hq => ⟨(h3 q hq).1.gr hG, (h3 q hq).2⟩, hG.not hb0 h4, fun j q hq => (World.cell?_of_block (w := w) (a := ⟨b, off + j, none⟩) (hG.1.block b hb0 h4)).trans (h5 j q hq)⟩
def plB (l : List Pl) : List (List Nat) := l.map Pl.zs
theorem wrAll_step {st stk : St} {s : ByteArray} {at' g k : Nat} {l : List Pl} {q : Pl} (h : wrAll st s at' g (plB (l.take k)) = (stk, 0)) (hq : l[k]? = some q) : wrAll st s at' g (plB (l.take (k + 1))) = wrD stk s.data.toList (at' + k) (frameB (nums s) (at' + k) g q.zs) := by
 have hk := (lQ4.1 hq).1
 have e : plB (l.take (k + 1)) = plB (l.take k) ++ [q.zs] := by
  unfold plB
  rw [List.take_add_one, hq, List.map_append]
  rfl
 rw [e, wrAll_snoc, h]
 unfold wrStep
 have e2 : (plB (l.take k)).length = k := by unfold plB; rw [List.length_map, List.length_take]; omega
 rw [if_pos rfl, e2]
theorem wrAll_done {st stk : St} {v : Int} {s : ByteArray} {at' g k : Nat} {l : List Pl} (h : wrAll st s at' g (plB (l.take k)) = (stk, v)) (hv : v ≠ 0) : halfD st s at' g (plB l) = (stk, v) := by
 have e : plB l = plB (l.take k) ++ plB (l.drop k) := by
  unfold plB
  rw [← List.map_append, List.take_append_drop]
 have h2 := wrAll_stuck s g st at' (plB (l.take k)) (by rw [h]; exact hv) (plB (l.drop k))
 rw [← e, h] at h2
 unfold halfD
 rw [h2, if_neg hv]
set_option maxHeartbeats 4000000 in
set_option maxRecDepth 100000 in
theorem write5Y (w : World) (y : Nat) (F : Nat → Prop) (room : Int) (st : St) (h : DiskY w y F room st) (hF : ∀ k, F k → k < w.heap.size) (s : ByteArray) (hs : nameB s.data.toList = true) (at' g : Nat) (hg : g ≤ 4611686018427387904) (b off n c : Nat) (l : List Pl) (hP : Pls F w b off n l) (hat : at' + n ≤ 2147483647) :
  Calls Tryz.prog 99 #[.pointer (some ⟨y, 0, none⟩), .string s, .int .i64 (at' : Int), .int .i64 (g : Int), .slice (some ⟨b, off, none⟩) n c] w (YPost w y F room (halfD st s at' g (plB l))) := by
 have hsm : s.size ≤ maxLen := by have := (name_size hs).2; unfold maxLen; omega
 have HD := hidn h
 have HF := hidn hF
 have HS := hidn hs
 have HP := hidn hP
 have HL := hidn hP.1
 clear h hF hs hP
 go_enter Tryz.func99, Tryz.ntmps99
 go_wp2_with fail
 go_loopw [18] (fun iv wr => ∃ (k : Nat) (F' : Nat → Prop) (stk : St), k ≤ n ∧ iv = .int .i64 (k : Int) ∧ Hid (Gr F F' w wr) ∧ Hid (DiskY wr y F' room stk) ∧ Hid (wrAll st s at' g (plB (l.take k)) = (stk, 0))) (fun iv _ => n - (intOf iv).toNat)
 case atStart => exact ⟨0, F, st, Nat.zero_le _, rfl, hidn (Gr.refl _ _), HD, hidn rfl⟩
 case round =>
  obtain ⟨k, F', stk, hk, rfl, HG, HDk, HW⟩ := hrel
  have HFk := hidn (HG.out.lt HF.out)
  have HPk := hidn (HP.out.gr HG.out)
  by_cases hlt : k < n
  ·
   have hlt2 : (k : Int) < (n : Int) := by omega
   obtain ⟨q, hq⟩ : ∃ q, l[k]? = some q := ⟨_, lQ6 (by rw [HL.out]; exact hlt)⟩
   have c0 := HPk.out.2.2.2.2 k q hq
   obtain ⟨hqB, hql, hqn⟩ := HPk.out.2.2.1 q (lQ7 hq)
   have HST := hidn (wrAll_step HW.out hq)
   obtain ⟨qa, ql, qc, qz⟩ := q
   simp only at c0 hqB hql hqn HST
   have hi : IntKind.i64.wrap ((at' : Int) + (k : Int)) = ((at' + k : Nat) : Int) := by rw [IntKind.wrap_i64]; omega
   obtain ⟨ik, hik⟩ : ∃ ik, ik = at' + k := ⟨_, rfl⟩
   have hi2 : (at' : Int) + (k : Int) = (ik : Int) := by rw [hik]; omega
   rw [← hik] at hi HST
   have hik2 : ik ≤ 2147483647 := by omega
   obtain ⟨fz, hfz⟩ : ∃ fz, fz = frameB (nums s) ik g qz := ⟨_, rfl⟩
   have HFR := hidn (refFrame_ok s (ik : Int) (g : Int) ik g rfl rfl qa ql qc qz wr hqB.1 hqn hsm hik2 hg hql)
   have hfl : ∀ x ∈ fz, x < 256 := by rw [hfz]; exact frameB_lt _ _ _ _ (by rw [hqB.1.1]; exact hql) hqB.1.2.2.1
   rw [← hfz] at HFR HST
   have HFL := hidn hfl
   clear hq hqB hqn hik hfz hfl
   go_wp2_with fail
   refine HFR.out.mono ?_
   clear HFR
   rintro e w2 ⟨v, rfl, hown, hb2⟩
   obtain ⟨ba, bc, rfl, hba, hbc, _⟩ := own_form (hidn hown) (by omega)
   have hBs := bs_of_own hown HFL.out
   obtain ⟨a9, c9, e9, hB9⟩ := hBs
   obtain ⟨e7, e8⟩ : a9 = some ⟨ba, 0, none⟩ ∧ c9 = bc := by simpa using e9.symm
   rw [e7] at hB9
   clear e7 e8 e9
   have hBF : BsF F' w2 (some ⟨ba, 0, none⟩) 128 fz := ⟨hB9, fun x hx _ hf => by cases hx; have h5 : ba < wr.heap.size := HFk.out _ hf; omega⟩
   have HWr := hidn (writeY_st w2 y F' room stk (HDk.out.below HFk.out hb2) (fun k hk => lQ2 (HFk.out k hk) hb2.size) s HS.out ik ba 0 bc fz hBF)
   rw [← HST.out] at HWr
   have HG2 := hidn (HG.out.trans (Gr.of (Keeps.of_below (F := F') hb2)))
   obtain ⟨r, hr⟩ : ∃ r, r = wrAll st s at' g (plB (l.take (k + 1))) := ⟨_, rfl⟩
   rw [← hr] at HWr
   have HR := hidn hr
   obtain ⟨s1, v1⟩ := r
   clear hown hb2 hba hbc hB9 hBF hr c0
   go_wp2_with fail
   refine HWr.out.mono ?_
   clear HWr
   rintro e w3 ⟨he, F3, hD3, hG3⟩
   obtain rfl : e = .returned (.int .i64 v1) := he
   have HD3 := hidn (show DiskY w3 y F3 room s1 from hD3)
   have HG3 := hidn (HG2.out.trans hG3)
   clear hD3 hG3 HG2
   by_cases h0 : v1 = 0
   ·
    subst h0
    have HW2 : Hid (wrAll st s at' g (plB (l.take (k + 1))) = (s1, 0)) := hidn HR.out.symm
    go_wp2
    go_roundw
    case rel => exact ⟨k + 1, F3, s1, hlt, by simp, HG3, HD3, HW2⟩
    case measure => simp [intOf]; omega
   ·
    have h0' : (v1 != 0) = true := bne_iff_ne.2 h0
    have HZ := hidn (wrAll_done HR.out.symm h0)
    go_wp2
    go_ret
    rw [HZ.out]
    exact ⟨rfl, F3, HD3.out, HG3.out⟩
  ·
   have hlt2 : ¬ (k : Int) < (n : Int) := by omega
   have hkn : k = n := by omega
   have HWz : Hid (wrAll st s at' g (plB l) = (stk, 0)) := hidn (by have := HW.out; rw [hkn, List.take_of_length_le (by rw [HL.out]; omega)] at this; exact this)
   have HH : Hid (halfD st s at' g (plB l) = syD stk s.data.toList) := hidn (by unfold halfD; rw [HWz.out, if_pos rfl])
   clear hkn HW
   go_wp2_with fail
   refine (syncY_st _ y F' room stk HDk.out HFk.out s).mono ?_
   rw [← HH.out]
   obtain ⟨r, hr⟩ : ∃ r, r = halfD st s at' g (plB l) := ⟨_, rfl⟩
   rw [← hr]
   have HRR := hidn hr
   clear hr
   obtain ⟨s1, v1⟩ := r
   rintro e w3 ⟨he, F3, hD3, hG3⟩
   obtain rfl : e = .returned (.int .i64 v1) := he
   have HZ := hidn (And.intro (show DiskY w3 y F3 room s1 from hD3) (HG.out.trans hG3))
   clear hD3 hG3
   go_wp2
   go_ret
   rw [← HRR.out]
   exact ⟨rfl, F3, HZ.out⟩
end Go.Proofs.YtdppolelakbbiaaGreatDoor

namespace Go.Proofs.YtdppolelakbbiaaGreatDoor
open Go.RowKit Go.Maps
set_option linter.unusedVariables false
def bothD (st : St) (s : ByteArray) (at' g : Nat) (ps : List (List Nat)) : St × Int :=
 if (halfD st (fileA s) at' g ps).2 = 0 then halfD (halfD st (fileA s) at' g ps).1 (fileB s) at' g ps else halfD st (fileA s) at' g ps
theorem bothD_one (st : St) (s : ByteArray) (i g : Nat) (p : List Nat) : bothD st s i g [p] = putD st s i g p := by
 have h1 : ∀ (st : St) (s : ByteArray), halfD st s i g [p] = put1 st s i g p := fun st s => by
  have e : wrAll st s i g [p] = wrD st s.data.toList i (frameB (nums s) i g p) := rfl
  unfold halfD put1
  rw [e]
 unfold bothD putD
 rw [h1, h1]
set_option maxHeartbeats 4000000 in
set_option maxRecDepth 100000 in
theorem bothY (w : World) (y : Nat) (F : Nat → Prop) (room : Int) (st : St) (h : DiskY w y F room st) (hF : ∀ k, F k → k < w.heap.size) (s : ByteArray) (hss : s.size ≤ 1000) (hnA : nameB (fileA s).data.toList = true) (hnB : nameB (fileB s).data.toList = true) (at' g : Nat) (hg : g ≤ 4611686018427387904) (b off n c : Nat) (l : List Pl) (hP : Pls F w b off n l) (hat : at' + n ≤ 2147483647) :
  Calls Tryz.prog 42 #[.pointer (some ⟨y, 0, none⟩), .string s, .int .i64 (at' : Int), .int .i64 (g : Int), .slice (some ⟨b, off, none⟩) n c] w (YPost w y F room (bothD st s at' g (plB l))) := by
 have HD := hidn h
 have HF := hidn hF
 have HP := hidn hP
 have HA := hidn hnA
 have HB := hidn hnB
 have hHv := fun wx => halvesY_any wx s hss
 obtain ⟨fa, hfa⟩ : ∃ fa, fa = fileA s := ⟨_, rfl⟩
 obtain ⟨fb, hfb⟩ : ∃ fb, fb = fileB s := ⟨_, rfl⟩
 rw [← hfa, ← hfb] at hHv
 rw [← hfa] at HA
 rw [← hfb] at HB
 have hB0 : bothD st s at' g (plB l) = if (halfD st fa at' g (plB l)).2 = 0 then halfD (halfD st fa at' g (plB l)).1 fb at' g (plB l) else halfD st fa at' g (plB l) := by unfold bothD; rw [hfa, hfb]
 obtain ⟨Rz, hRz⟩ : ∃ Rz, Rz = bothD st s at' g (plB l) := ⟨_, rfl⟩
 rw [← hRz]
 have HRz := hidn (hRz.trans hB0)
 clear h hF hP hnA hnB hfa hfb hB0 hRz
 go_enter Tryz.func42, Tryz.ntmps42
 go_wp2_with fail
 refine (hHv _).mono ?_
 rintro e w1 ⟨rfl, hrow, hb1⟩
 have hw1 : w.heap.size < w1.heap.size := (lQ3.1 hrow).1
 have HRow := hidn hrow
 have HG1 := hidn (Gr.of (Keeps.of_below (F := F) hb1))
 have HD1 := hidn (HD.out.below HF.out hb1)
 have hnF : ¬ F w.heap.size := fun hf => Nat.lt_irrefl _ (HF.out _ hf)
 clear hHv hrow hb1
 go_wp2_with fail
 go_loopw [17] (fun iv wr => ∃ (k : Nat) (F' : Nat → Prop) (stk : St), k ≤ 2 ∧ iv = .int .i64 (k : Int) ∧ Hid (Gr F F' w wr) ∧ Hid (DiskY wr y F' room stk) ∧ Hid (wr.heap[w.heap.size]? = some (.cells #[.string fa, .string fb] 9 (0, 0))) ∧ Hid (¬ F' w.heap.size) ∧ ((k = 0 ∧ Hid (stk = st)) ∨ (k = 1 ∧ Hid (halfD st fa at' g (plB l) = (stk, 0))) ∨ (k = 2 ∧ Hid (Rz = (stk, 0))))) (fun iv _ => 2 - (intOf iv).toNat)
 case atStart => exact ⟨0, F, st, by omega, rfl, HG1, HD1, HRow, hidn hnF, Or.inl ⟨rfl, hidn rfl⟩⟩
 case round =>
  obtain ⟨k, F', stk, hk, rfl, HG, HDk, HRk, HNk, (⟨rfl, HK⟩ | ⟨rfl, HK⟩ | ⟨rfl, HK⟩)⟩ := hrel
  ·
   obtain rfl := HK.out
   have c0 : wr.cell? ⟨w.heap.size, 0, none⟩ = some (.string fa) := by rw [cell_of_row _ _ _ _ _ _ HRk.out]; rfl
   have HC := hidn (write5Y wr y F' room stk HDk.out (HG.out.lt HF.out) fa HA.out at' g hg b off n c l (HP.out.gr HG.out) hat)
   obtain ⟨r, hr⟩ : ∃ r, r = halfD stk fa at' g (plB l) := ⟨_, rfl⟩
   rw [← hr] at HC
   have HR := hidn hr
   obtain ⟨s1, v1⟩ := r
   clear hr
   go_wp2_with fail
   refine HC.out.mono ?_
   clear HC c0
   rintro e w3 ⟨he, F3, hD3, hG3⟩
   obtain rfl : e = .returned (.int .i64 v1) := he
   have HD3 := hidn (show DiskY w3 y F3 room s1 from hD3)
   have hrl := (lQ3.1 HRk.out).1
   have HR3 := hidn ((hG3.1.block _ hrl HNk.out).trans HRk.out)
   have HN3 := hidn (hG3.not hrl HNk.out)
   have HG3 := hidn (HG.out.trans hG3)
   clear hD3 hG3 hrl
   by_cases h0 : v1 = 0
   ·
    subst h0
    have HZ : Hid (halfD stk fa at' g (plB l) = (s1, 0)) := hidn HR.out.symm
    go_wp2
    go_roundw
    case rel => exact ⟨1, F3, s1, by omega, by simp, HG3, HD3, HR3, HN3, Or.inr (Or.inl ⟨rfl, HZ⟩)⟩
    case measure => simp [intOf]
   ·
    have h0' : (v1 != 0) = true := bne_iff_ne.2 h0
    have HZ : Hid (Rz = (s1, v1)) := hidn (by rw [HRz.out, ← HR.out, if_neg h0])
    go_wp2
    go_ret
    rw [HZ.out]
    exact ⟨rfl, F3, HD3.out, HG3.out⟩
  ·
   have c0 : wr.cell? ⟨w.heap.size, 1, none⟩ = some (.string fb) := by rw [cell_of_row _ _ _ _ _ _ HRk.out]; rfl
   have HC := hidn (write5Y wr y F' room stk HDk.out (HG.out.lt HF.out) fb HB.out at' g hg b off n c l (HP.out.gr HG.out) hat)
   obtain ⟨r, hr⟩ : ∃ r, r = halfD stk fb at' g (plB l) := ⟨_, rfl⟩
   rw [← hr] at HC
   have HR : Hid (Rz = r) := hidn (by rw [HRz.out, HK.out, if_pos rfl, hr])
   obtain ⟨s1, v1⟩ := r
   clear hr
   go_wp2_with fail
   refine HC.out.mono ?_
   clear HC c0
   rintro e w3 ⟨he, F3, hD3, hG3⟩
   obtain rfl : e = .returned (.int .i64 v1) := he
   have HD3 := hidn (show DiskY w3 y F3 room s1 from hD3)
   have hrl := (lQ3.1 HRk.out).1
   have HR3 := hidn ((hG3.1.block _ hrl HNk.out).trans HRk.out)
   have HN3 := hidn (hG3.not hrl HNk.out)
   have HG3 := hidn (HG.out.trans hG3)
   clear hD3 hG3 hrl
   by_cases h0 : v1 = 0
   ·
    subst h0
    go_wp2
    go_roundw
    case rel => exact ⟨2, F3, s1, by omega, by simp, HG3, HD3, HR3, HN3, Or.inr (Or.inr ⟨rfl, HR⟩)⟩
    case measure => simp [intOf]
   ·
    have h0' : (v1 != 0) = true := bne_iff_ne.2 h0
    go_wp2
    go_ret
    rw [HR.out]
    exact ⟨rfl, F3, HD3.out, HG3.out⟩
  ·
   go_wp2
   go_ret
   rw [HK.out]
   exact ⟨rfl, F', HDk.out, HG.out⟩
set_option maxHeartbeats 4000000 in
theorem putY_st (w : World) (y : Nat) (F : Nat → Prop) (room : Int) (st : St) (h : DiskY w y F room st) (hF : ∀ k, F k → k < w.heap.size) (s : ByteArray) (hss : s.size ≤ 1000) (hnA : nameB (fileA s).data.toList = true) (hnB : nameB (fileB s).data.toList = true) (i g : Nat) (hi : i ≤ 2147483646) (hg : g ≤ 4611686018427387904) (a : Option Addr) (len cap : Nat) (p : List Nat) (hB : BsF F w a len p) (hnil : a = none → cap = 0) (hlen : len ≤ 106) :
  Calls Tryz.prog 11 #[.pointer (some ⟨y, 0, none⟩), .string s, .int .i64 (i : Int), .int .i64 (g : Int), .slice a len cap] w (YPost w y F room (putD st s i g p)) := by
 have HD := hidn h
 have HF := hidn hF
 have HA := hidn hnA
 have HB := hidn hnB
 have HBs := hidn hB
 have hsm : s.size ≤ maxLen := by unfold maxLen; omega
 have HFR := hidn (refFrame_ok s (i : Int) (g : Int) i g rfl rfl a len cap p w hB.1 hnil hsm (by omega) hg hlen)
 clear h hF hnA hnB hB
 rw [← bothD_one]
 go_enter Tryz.func11, Tryz.ntmps11
 go_wp2_with fail
 refine HFR.out.mono ?_
 clear HFR
 rintro e w2 ⟨v, rfl, hown, hb2⟩
 obtain ⟨va, vc, rfl⟩ := own_sliceG hown
 have HG2 := hidn (Gr.of (Keeps.of_below (F := F) hb2))
 have HD2 := hidn (HD.out.below HF.out hb2)
 have HBs2 := hidn (HBs.out.below hb2)
 have HF2 := hidn (show ∀ k, F k → k < w2.heap.size from fun k hk => lQ2 (HF.out k hk) hb2.size)
 clear hown hb2
 go_wp2_with fail
 have hba : Below w2.heap.size w2 (w2.alloc (.cells #[.slice a len cap] 28)) := (Below.refl _ _).alloc (Nat.le_refl _) _
 have hPl : Pls F (w2.alloc (.cells #[.slice a len cap] 28)) w2.heap.size 0 1 [⟨a, len, cap, p⟩] := by
  refine ⟨rfl, by omega, fun q hq => ?_, fun hf => Nat.lt_irrefl _ (HF2.out _ hf), fun j q hq => ?_⟩
  ·
   rw [List.mem_singleton.1 hq]
   exact ⟨HBs2.out.below hba, hlen, hnil⟩
  ·
   have hj : j < 1 := (lQ4.1 hq).1
   obtain rfl : j = 0 := by omega
   obtain rfl : (⟨a, len, cap, p⟩ : Pl) = q := by simpa using hq
   rw [cell_of_row _ _ _ _ _ _ (heap_alloc_new _ _)]
   rfl
 refine (bothY _ y F room st (HD2.out.below HF2.out hba) (fun k hk => lQ2 (HF2.out k hk) hba.size) s hss HA.out HB.out i g hg w2.heap.size 0 1 1 [⟨a, len, cap, p⟩] hPl (by omega)).mono ?_
 have HG3 := hidn (HG2.out.trans (Gr.of (Keeps.of_below (F := F) hba)))
 rw [show plB [⟨a, len, cap, p⟩] = [p] from rfl]
 obtain ⟨r, hr⟩ : ∃ r, r = bothD st s i g [p] := ⟨_, rfl⟩
 rw [← hr]
 have HRR := hidn hr
 clear hr hba hPl
 obtain ⟨s1, v1⟩ := r
 rintro e w3 ⟨he, F3, hD3, hG3⟩
 obtain rfl : e = .returned (.int .i64 v1) := he
 have HZ := hidn (And.intro (show DiskY w3 y F3 room s1 from hD3) (HG3.out.trans hG3))
 clear hD3 hG3
 go_wp2
 go_ret
 rw [← HRR.out]
 exact ⟨rfl, F3, HZ.out⟩
end Go.Proofs.YtdppolelakbbiaaGreatDoor

namespace Go.Proofs.YtdppolelakbbiaaGreatDoor
open Go.RowKit Go.Maps
set_option linter.unusedVariables false
set_option maxHeartbeats 4000000 in
theorem refCan_any (w : World) (y0 y1 y2 y3 y4 y5 y6 y7 y8 y9 : Int) :
  Calls Tryz.prog 121 #[.agg (tQ y0 y1 y2 y3 y4 y5 y6 y7 y8 y9)] w fun e w' => e = .returned (.bool (ancB y0 y1 y2 y3 y4 y7 y8 y9)) ∧ Below w.heap.size w w' := by
 obtain ⟨R1, hR1⟩ : ∃ R, R = [y0, y1, y3, y8].all (inN 1) := ⟨_, rfl⟩
 obtain ⟨R2, hR2⟩ : ∃ R, R = [y2, y4, y7, y9].all (inN 0) := ⟨_, rfl⟩
 have hR : ancB y0 y1 y2 y3 y4 y7 y8 y9 = (R1 && R2) := by rw [hR1, hR2]; rfl
 rw [hR]
 have HR1 := hidn hR1
 have HR2 := hidn hR2
 clear hR hR1 hR2
 go_enter Tryz.func121, Tryz.ntmps121
 go_wp2_with fail
 have HI1 := hidn (ints_at (w.alloc (.cells (tQ y0 y1 y2 y3 y4 y5 y6 y7 y8 y9) 58)) (w.heap.size + 1) (by simp only [World.size_alloc]) [y0, y1, y3, y8] 3 (0, 0))
 have HB1 := hidn (below2 w (.cells (tQ y0 y1 y2 y3 y4 y5 y6 y7 y8 y9) 58) (.cells #[.int .i64 y0, .int .i64 y1, .int .i64 y3, .int .i64 y8] 3))
 have HA1 := hidn (alloc_at1 w (.cells (tQ y0 y1 y2 y3 y4 y5 y6 y7 y8 y9) 58) (.cells #[.int .i64 y0, .int .i64 y1, .int .i64 y3, .int .i64 y8] 3))
 simp only [List.map_cons, List.map_nil] at HI1
 generalize ((w.alloc (.cells (tQ y0 y1 y2 y3 y4 y5 y6 y7 y8 y9) 58)).alloc (.cells #[.int .i64 y0, .int .i64 y1, .int .i64 y3, .int .i64 y8] 3)) = W1 at *
 go_loopw [17] (fun iv wr => ∃ k : Nat, k ≤ 4 ∧ iv = .int .i64 (k : Int) ∧ Hid (([y0, y1, y3, y8].take k).all (inN 1) = true) ∧ wr = W1) (fun iv _ => 4 - (intOf iv).toNat)
 case atStart => exact ⟨0, Nat.zero_le _, rfl, hidn rfl, rfl⟩
 case round =>
  obtain ⟨k, hk, rfl, HA, rfl⟩ := hrel
  by_cases hlt : k < 4
  ·
   have hlt2 : (k : Int) < 4 := by omega
   obtain ⟨x, hx⟩ : ∃ x, [y0, y1, y3, y8][k]? = some x := ⟨_, lQ6 (by simpa using hlt)⟩
   have hcx := HI1.out k x hx
   rw [Nat.zero_add] at hcx
   have HX := hidn hx
   clear hx
   by_cases h1 : x < 1
   ·
    have HF : Hid (R1 = false) := hidn (by rw [HR1.out]; exact all_take_no HX.out (inN_low h1))
    have d1 : decide (x < 1) = true := by simpa using h1
    go_wp2
    go_ret
    rw [HF.out]
    exact ⟨rfl, HB1.out⟩
   ·
    have d1 : decide (x < 1) = false := by simpa using h1
    by_cases h2 : 4611686018427387904 < x
    ·
     have HF : Hid (R1 = false) := hidn (by rw [HR1.out]; exact all_take_no HX.out (inN_high h2))
     have d2 : decide (4611686018427387904 < x) = true := by simpa using h2
     go_wp2
     go_ret
     rw [HF.out]
     exact ⟨rfl, HB1.out⟩
    ·
     have d2 : decide (4611686018427387904 < x) = false := by simpa using h2
     have HA2 := hidn (all_take_yes HX.out HA.out (inN_yes (by omega) (by omega)))
     go_wp2
     go_roundw
     case rel => exact ⟨k + 1, hlt, by first | rfl | go_num | simp, HA2, by trivial⟩
     case measure => simp [intOf]; omega
  ·
   obtain rfl : k = 4 := by omega
   have HF : Hid (R1 = true) := hidn (by rw [HR1.out]; exact HA.out)
   have HF1 := HF
   clear HF HA
   obtain ⟨hc0, hc1, hc2, hc3, hc4, hc5, hc6, hc7, hc8, hc9⟩ := ten_cells HA1.out
   have HI2 := hidn (ints_at wr wr.heap.size rfl [y2, y4, y7, y9] 3 (0, 0))
   have HB2 := hidn (HB1.out.alloc HB1.out.size (.cells #[.int .i64 y2, .int .i64 y4, .int .i64 y7, .int .i64 y9] 3))
   simp only [List.map_cons, List.map_nil] at HI2
   go_wp2_with fail
   generalize wr.alloc (.cells #[.int .i64 y2, .int .i64 y4, .int .i64 y7, .int .i64 y9] 3) = W2 at *
   clear hc0 hc1 hc2 hc3 hc4 hc5 hc6 hc7 hc8 hc9
   go_loopw [38] (fun iv wr => ∃ k : Nat, k ≤ 4 ∧ iv = .int .i64 (k : Int) ∧ Hid (([y2, y4, y7, y9].take k).all (inN 0) = true) ∧ wr = W2) (fun iv _ => 4 - (intOf iv).toNat)
   case atStart => exact ⟨0, Nat.zero_le _, rfl, hidn rfl, rfl⟩
   case round =>
    obtain ⟨k, hk, rfl, HA, rfl⟩ := hrel
    by_cases hlt : k < 4
    ·
     have hlt2 : (k : Int) < 4 := by omega
     obtain ⟨x, hx⟩ : ∃ x, [y2, y4, y7, y9][k]? = some x := ⟨_, lQ6 (by simpa using hlt)⟩
     have hcx := HI2.out k x hx
     rw [Nat.zero_add] at hcx
     have HX := hidn hx
     clear hx
     by_cases h1 : x < 0
     ·
      have HF : Hid (R2 = false) := hidn (by rw [HR2.out]; exact all_take_no HX.out (inN_low h1))
      have d1 : decide (x < 0) = true := by simpa using h1
      go_wp2
      go_ret
      rw [HF.out]
      exact ⟨by rw [HF1.out]; rfl, HB2.out⟩
     ·
      have d1 : decide (x < 0) = false := by simpa using h1
      by_cases h2 : 4611686018427387904 < x
      ·
       have HF : Hid (R2 = false) := hidn (by rw [HR2.out]; exact all_take_no HX.out (inN_high h2))
       have d2 : decide (4611686018427387904 < x) = true := by simpa using h2
       go_wp2
       go_ret
       rw [HF.out]
       exact ⟨by rw [HF1.out]; rfl, HB2.out⟩
      ·
       have d2 : decide (4611686018427387904 < x) = false := by simpa using h2
       have HA2 := hidn (all_take_yes HX.out HA.out (inN_yes (by omega) (by omega)))
       go_wp2
       go_roundw
       case rel => exact ⟨k + 1, hlt, by first | rfl | go_num | simp, HA2, by trivial⟩
       case measure => simp [intOf]; omega
    ·
     obtain rfl : k = 4 := by omega
     have HF : Hid (R2 = true) := hidn (by rw [HR2.out]; exact HA.out)
     go_wp2
     go_ret
     rw [HF1.out, HF.out]
     exact ⟨rfl, HB2.out⟩
end Go.Proofs.YtdppolelakbbiaaGreatDoor

namespace Go.Proofs.YtdppolelakbbiaaGreatDoor
open Go.RowKit Go.Maps
set_option linter.unusedVariables false
set_option maxHeartbeats 1000000 in
theorem big_any (w : World) (x : Int) (n : Nat) (hn : n = u64 x) :
  Calls Tryz.prog 122 #[.int .i64 x] w fun e w' => e = .returned (.slice (some ⟨w.heap.size, 0, none⟩) 8 8) ∧ w'.ownsRow w.heap.size 5 1 (.slice (some ⟨w.heap.size, 0, none⟩) 8 8) 8 (vb (putB n 8)) ∧ Below w.heap.size w w' := by
 have hw1 : IntKind.u64.wrap x = (n : Int) := by rw [wrapU, hn]
 have hn64 : n < 18446744073709551616 := by rw [hn]; exact u64_lt x
 have HP := hidn (refPut_any n 8 8 w hn64 (by omega))
 clear hn
 go_enter Tryz.func122, Tryz.ntmps122
 go_wp2_with fail
 refine HP.out.mono ?_
 rintro e w1 ⟨rfl, hown, hb⟩
 have HO := hidn hown
 have HB := hidn hb
 clear hown hb
 go_wp2
 go_ret
 exact ⟨rfl, HO.out, HB.out⟩
set_option maxHeartbeats 1000000 in
theorem refEncode_no (w : World) (y0 y1 y2 y3 y4 y5 y6 y7 y8 y9 : Int) (h : ancB y0 y1 y2 y3 y4 y7 y8 y9 = false) :
  Calls Tryz.prog 78 #[.agg (tQ y0 y1 y2 y3 y4 y5 y6 y7 y8 y9)] w fun e w' => e = .returned (.tuple #[.slice none 0 0, .int .i64 1]) ∧ Below w.heap.size w w' := by
 have HC := hidn (refCan_any)
 go_enter Tryz.func78, Tryz.ntmps78
 go_wp2_with fail
 refine (HC.out _ y0 y1 y2 y3 y4 y5 y6 y7 y8 y9).mono ?_
 rw [h]
 rintro e w1 ⟨rfl, hb1⟩
 have HB1 := hidn ((below1 w _).trans (hb1.mono (below1 w _).size))
 clear hb1
 go_wp2
 go_ret2
 exact ⟨rfl, HB1.out⟩
set_option maxRecDepth 100000 in
set_option maxHeartbeats 4000000 in
theorem refEncode_yes (w : World) (y0 y1 y2 y3 y4 y5 y6 y7 y8 y9 : Int) (h : ancB y0 y1 y2 y3 y4 y7 y8 y9 = true) :
  Calls Tryz.prog 78 #[.agg (tQ y0 y1 y2 y3 y4 y5 y6 y7 y8 y9)] w fun e w' => ∃ v, e = .returned (.tuple #[v, .int .i64 0]) ∧ w'.ownsRow w.heap.size 5 1 v 80 (vb (wordsB [y0, y1, y2, y3, y4, y5, y6, y7, y8, y9])) ∧ Below w.heap.size w w' := by
 obtain ⟨i0, z0, hi, hz0, hz1, hz2, hzc⟩ := byInfoA
 have HC := hidn (refCan_any)
 go_enter Tryz.func78, Tryz.ntmps78
 go_wp2_with fail
 refine (HC.out _ y0 y1 y2 y3 y4 y5 y6 y7 y8 y9).mono ?_
 rw [h]
 rintro e w1 ⟨rfl, hb1⟩
 have HB1 := hidn ((below1 w _).trans (hb1.mono (below1 w _).size))
 obtain ⟨hc0, hc1, hc2, hc3, hc4, hc5, hc6, hc7, hc8, hc9⟩ := ten_cells ((hb1.block w.heap.size (by rw [World.size_alloc]; omega)).trans (heap_alloc_new w _))
 clear hb1
 go_wp2_with fail
 have HI := hidn (ints_at w1 w1.heap.size rfl [y0, y1, y2, y3, y4, y5, y6, y7, y8, y9] 3 (0, 0))
 have HBA := hidn (HB1.out.alloc HB1.out.size (.cells (tQ y0 y1 y2 y3 y4 y5 y6 y7 y8 y9) 3))
 simp only [List.map_cons, List.map_nil] at HI
 clear hc0 hc1 hc2 hc3 hc4 hc5 hc6 hc7 hc8 hc9
 generalize w1.alloc (.cells (tQ y0 y1 y2 y3 y4 y5 y6 y7 y8 y9) 3) = W1 at *
 go_loopw [4, 32] (fun bv iv wr => ∃ k : Nat, k ≤ 10 ∧ iv = .int .i64 (k : Int) ∧ Hid (wr.ownsRow W1.heap.size 5 1 bv (8 * k) (vb (wordsB ([y0, y1, y2, y3, y4, y5, y6, y7, y8, y9].take k)))) ∧ Hid (Below W1.heap.size W1 wr)) (fun _ iv _ => 10 - (intOf iv).toNat)
 case atStart => exact ⟨0, Nat.zero_le _, rfl, hidn (World.ownsRow_nil _ _ _ _), hidn (Below.refl _ _)⟩
 case round =>
  obtain ⟨k, hk, rfl, HO, HBW⟩ := hrel
  by_cases hlt : k < 10
  ·
   have hlt2 : (k : Int) < 10 := by omega
   obtain ⟨x, hx⟩ : ∃ x, [y0, y1, y2, y3, y4, y5, y6, y7, y8, y9][k]? = some x := ⟨_, lQ6 (by simpa using hlt)⟩
   have hcx := HI.out k x hx
   rw [Nat.zero_add] at hcx
   have hcx2 := (HBW.out.cell (block_lt_of_cell hcx)).trans hcx
   have HX := hidn hx
   obtain ⟨n, hn⟩ : ∃ n, n = u64 x := ⟨_, rfl⟩
   have HN := hidn hn
   have HBig := hidn (big_any wr x n hn)
   obtain ⟨va, vc, e9⟩ : ∃ va vc, u4 = Value.slice va (8 * k) vc := by
    rcases HO.out.2 with ⟨h1, h2⟩ | ⟨g, cp, cur, h1, _⟩
    ·
     exact ⟨none, 0, by rw [h1, h2]⟩
    ·
     exact ⟨_, _, h1⟩
   clear hx hcx hn
   go_wp2_with fail
   refine HBig.out.mono ?_
   clear HBig
   rintro e w2 ⟨rfl, hown1, hb1⟩
   have HBW1 := hidn (HBW.out.trans (hb1.mono HBW.out.size))
   have hO1 := own_belowA HO.out hb1
   obtain ⟨v3, w3, hrun, hown3, hgr3⟩ := appAny w2 W1.heap.size 28 28 5 i0 z0 1 1 Tryz.underlying28 hi hz0 hz1 hz2 hzc (by decide) u4 (8 * k) (vb (wordsB ([y0, y1, y2, y3, y4, y5, y6, y7, y8, y9].take k))) hO1 HBW1.out.size (some ⟨wr.heap.size, 0, none⟩) 8 8 (vb (putB n 8)) (by rw [length_vb, putB_length]) (fun e => by cases e) (fun x hx j u hu => by cases hx; exact src_of_own hown1 j u hu) (one_vb _) (by unfold maxLen; omega) (by omega)
   have HB3 : Hid (Below W1.heap.size W1 w3) := hidn (HBW1.out.grown hgr3 HBW1.out.size (fun k hk => (hO1.lt k hk).1))
   have HO3 : Hid (w3.ownsRow W1.heap.size 5 1 v3 (8 * (k + 1)) (vb (wordsB ([y0, y1, y2, y3, y4, y5, y6, y7, y8, y9].take (k + 1))))) := hidn (by
    rw [List.take_add_one, HX.out, Option.toList_some, wordsB_snoc, vb_app, ← HN.out, Nat.mul_add]
    exact hown3)
   have HRUN := hidn hrun
   subst e9
   clear hrun hown3 hgr3 hO1 hown1 hb1 HO
   go_wp2_with (at_builtin; refine wpList_app_runA rfl _ _ 28 28 rfl rfl _ _ _ rfl rfl HRUN.out ?_; clear HRUN)
   go_roundw
   case rel => exact ⟨k + 1, hlt, by first | rfl | go_num | simp, HO3, HB3⟩
   case measure => simp [intOf]; omega
  ·
   obtain rfl : k = 10 := by omega
   have HO4 := hidn (own_monoA HO.out HBA.out.size)
   have HBE := hidn (HBA.out.trans (HBW.out.mono HBA.out.size))
   clear HO
   simp only [show ((10 : Nat) : Int) = 10 from rfl]
   go_wp2
   go_ret2
   exact ⟨_, rfl, HO4.out, HBE.out⟩
end Go.Proofs.YtdppolelakbbiaaGreatDoor
