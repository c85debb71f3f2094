/- The document's disk: List. -/
import Derived.Test.YtdppolelakbbiaaGreatDoorMq
namespace Go.Proofs.YtdppolelakbbiaaGreatDoor
open Go.RowKit Go.Maps
set_option linter.unusedVariables false
theorem info_str : ∃ i0, Tryz.prog.info? 9 = some i0 ∧ i0.zero = some (.string ⟨#[]⟩) ∧ i0.size = 1 ∧ i0.bytes = 16 := by
 have h : (Tryz.prog.info? 9).map (fun i => (i.zero, i.size, i.bytes)) = some (some (.string ⟨#[]⟩), 1, 16) := by kernel_rfl
 obtain ⟨i0, hi, h1, h2, h3⟩ := info_parts h
 exact ⟨i0, hi, h1, h2, h3⟩
def namesV (R : List Yf) : List Value := R.map fun f => .string f.name
theorem namesV_take (R : List Yf) (k : Nat) (f : Yf) (h : R[k]? = some f) : namesV (R.take (k + 1)) = namesV (R.take k) ++ [.string f.name] := by
 have hk := (lQ4.1 h)
 unfold namesV
 rw [List.take_succ_eq_append_getElem hk.1, List.map_append, hk.2]
 rfl
theorem own_slY {w : World} {base e size n : Nat} {v : Value} {xs : List Value} (h : w.ownsRow base e size v n xs) : ∃ a c, v = .slice a n c := by
 rcases h.2 with ⟨rfl, rfl⟩ | ⟨g, cap, cur, rfl, _⟩
 ·
  exact ⟨none, 0, rfl⟩
 ·
  exact ⟨_, _, rfl⟩
set_option maxRecDepth 100000 in
set_option maxHeartbeats 2000000 in
theorem listY_any (w : World) (y : Nat) (F : Nat → Prop) (fa : Option Addr) (fc : Nat) (R : List Yf) (room fuse : Int) (h : RyOf w y F fa fc R room fuse) (hF : ∀ k, F k → k < w.heap.size) (hR : R.length ≤ 1000000) :
  Calls Tryz.prog 64 #[.pointer (some ⟨y, 0, none⟩)] w fun e w' => ∃ v, e = .returned v ∧ w'.ownsRow w.heap.size 9 1 v R.length (namesV R) ∧ Below w.heap.size w w' := by
 have H := hidn h
 have HF := hidn hF
 have c1 : w.cell? ⟨y, 1, none⟩ = some (.slice fa R.length fc) := by rw [cell_of_row _ _ _ _ _ _ h.disk]; rfl
 obtain ⟨n, hn⟩ : ∃ n, n = R.length := ⟨_, rfl⟩
 rw [← hn] at c1 hR
 have HN := hidn hn
 obtain ⟨i0, hi, hz0, hz1, hz2⟩ := info_str
 clear h hF hn
 go_enter Tryz.func64, Tryz.ntmps64
 go_wp2_with fail
 clear c1
 go_loopw [11, 3] (fun iv ov wr => ∃ k : Nat, k ≤ n ∧ iv = .int .i64 (k : Int) ∧ Hid (wr.ownsRow w.heap.size 9 1 ov k (namesV (R.take k))) ∧ Hid (Below w.heap.size w wr)) (fun iv _ _ => n - (intOf iv).toNat)
 case atStart => exact ⟨0, Nat.zero_le _, rfl, hidn (World.ownsRow_nil _ _ _ _), hidn (Below.refl _ _)⟩
 case round =>
  obtain ⟨k, hk, rfl, HO, HB⟩ := hrel
  by_cases hlt : k < n
  ·
   have hlt2 : (k : Int) < (n : Int) := by omega
   obtain ⟨f, hf⟩ : ∃ f, R[k]? = some f := ⟨_, lQ6 (by rw [← HN.out]; exact hlt)⟩
   obtain ⟨g, hfa, hFg, hc0, hc1⟩ := (H.out.below HF.out HB.out).at hf
   subst hfa
   obtain ⟨nm, hnm⟩ : ∃ nm, nm = f.name := ⟨_, rfl⟩
   have htk := namesV_take R k f hf
   rw [← hnm] at hc0 htk
   unfold Yf.row at hc1
   obtain ⟨fg, hfg⟩ : ∃ fg, fg = f.g := ⟨_, rfl⟩
   obtain ⟨fl, hfl⟩ : ∃ fl, fl = f.l.length := ⟨_, rfl⟩
   obtain ⟨fcc, hfcc⟩ : ∃ fcc, fcc = f.c := ⟨_, rfl⟩
   rw [← hfg, ← hfl, ← hfcc] at hc1
   obtain ⟨va, vc, e9⟩ := own_slY HO.out
   obtain ⟨W1, hW1⟩ : ∃ W1, W1 = wr.alloc (.cells #[.string nm, .slice (some ⟨fg, 0, none⟩) fl fcc] 143) := ⟨_, rfl⟩
   have hB1 : Below wr.heap.size wr W1 := by rw [hW1]; exact (Below.refl _ _).alloc (Nat.le_refl _) _
   have hs1 : W1.heap.size = wr.heap.size + 1 := by rw [hW1, World.size_alloc]
   have hB2 : Below wr.heap.size wr (W1.alloc (.cells #[.string nm] 9)) := hB1.alloc hB1.size _
   have ho2 := own_other HO.out (w' := W1.alloc (.cells #[.string nm] 9)) (fun b hb => hB2.block b (own_lt HO.out b hb))
   obtain ⟨g4, c4, w4, hrun, hown4, hgr4, hpl4⟩ := appN (P := Tryz.prog) (W1.alloc (.cells #[.string nm] 9)) 90 90 9 i0 (.string ⟨#[]⟩) 1 16 Tryz.underlying90 hi hz0 hz1 hz2 rfl (by decide) _ k _ w.heap.size ho2 (by rw [World.size_alloc, hs1]; have := HB.out.size; omega) ⟨W1.heap.size, 0, none⟩ 1 1 (by omega) [.string nm] rfl (fun j u hu => by
    match j, hu with
    | 0, hu => cases hu; rw [add_none]; exact cell_of_row _ _ _ _ _ _ (heap_alloc_new _ _)) (fun u hu => by simp at hu; subst hu; rfl) (by unfold maxLen; omega) (by omega)
   rw [← htk] at hown4
   have hB4 : Below w.heap.size w w4 := (HB.out.trans (hB2.mono HB.out.size)).grown hgr4 (by rw [World.size_alloc, hs1]; have := HB.out.size; omega) (fun b hb => (HO.out.lt b hb).1)
   rw [hs1, hW1] at hrun
   have HRUN := hidn hrun
   have HN4 := hidn (And.intro hown4 hB4)
   subst e9
   clear hrun hown4 hgr4 hpl4 hB4 hB1 hB2 ho2 htk hf hnm hfg hfl hfcc hFg HO hs1 hW1
   go_wp2_with (at_builtin; refine wpList_app_run2 rfl _ _ 90 90 rfl rfl (.slice va k vc) _ _ rfl rfl HRUN.out ?_; clear HRUN)
   go_roundw
   case rel => exact ⟨k + 1, hlt, by simp, hidn HN4.out.1, hidn HN4.out.2⟩
   case measure => simp [intOf]; omega
  ·
   have hlt2 : ¬ (k : Int) < (n : Int) := by omega
   have hkn : k = n := by omega
   have hO := HO.out
   rw [hkn, HN.out, List.take_length] at hO
   have HO2 := hidn hO
   clear hO hkn
   go_wp2
   go_ret
   exact ⟨_, rfl, HO2.out, HB.out⟩
end Go.Proofs.YtdppolelakbbiaaGreatDoor
