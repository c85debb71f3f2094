/- dryrotlaw06.awake: it returns true. -/
import Derived.Test.YthnnpgleljfgjaaDoorStrPartsX
namespace Go.Proofs.YthnnpgleljfgjaaDoor
open Go.RowKit Go.Maps
set_option linter.unusedVariables false

theorem storeXr (w w1 : World) (r : Nat) (hr : r ≤ 100000) (hb1 : Below w.heap.size w w1) (hs1 : w1.heap.size = w.heap.size + 2) (d : Nat) (hD1 : DiskOf w1 d (fun k => w.heap.size ≤ k ∧ k < w.heap.size + 2) 0 (fun _ => []) r (-1)) (w1' : World) (hb1' : Below w1.heap.size w1 w1') (hT : CrcTab w) (g : Nat) (hg : g ≤ 4611686018427387904) (a : Option Addr) (m cap : Nat) (pp : List Nat) (hB1 : BsF (fun k => w.heap.size ≤ k ∧ k < w.heap.size + 2) w1' a m pp) (hcap : m ≤ cap) (hm : m ≤ 1500) (E : Nat) (HE : Hid (E = grpB m)) (hEr : 4 * E ≤ r) :
    Calls Tryd.prog 14 #[.pointer (some ⟨d, 0, none⟩), .string ⟨#[120]⟩, .int .i64 g, .slice a m cap] w1' fun e w' => e = .returned (.int .i64 0) ∧ ∃ F', DiskOf w' d F' (4 * E) (diskX g pp E 4) (r - 4 * E) (-1) ∧ Sound5 w' F' ∧ (∀ k, F' k → w.heap.size ≤ k) ∧ Below w.heap.size w w' := by
  have hE6 : E ≤ 5 := by rw [HE.out]; unfold grpB; split <;> omega
  have hb11 : Below w.heap.size w w1' := hb1.trans (hb1'.mono hb1.size)
  have hS1 : Sound5 w1' (fun k => w.heap.size ≤ k ∧ k < w.heap.size + 2) := ⟨hT.below hb11, fun hF => by have := hT.lt; omega, fun k hk => by have := hb1'.size; omega⟩
  refine (sstoreAll_new w1' d _ 0 _ r g pp E (hD1.below hb1') hS1 rfl ⟨#[120]⟩ x0 x1 x2 x3 (by decide) (hidn (by decide +kernel)) (hidn (by decide +kernel)) (hidn (by decide +kernel)) (hidn (by decide +kernel)) (hidn nameX_ok) (hidn (fun _ _ => rfl)) (hidn (fun k hk => diskX_other g pp E k k (Nat.le_refl _) hk)) hg a m cap hB1 hcap (by omega) HE (by unfold maxLen; omega) (by omega) (by omega)).mono ?_
  rintro e w' ⟨rfl, F', hD, hG⟩
  rw [Nat.zero_add] at hD
  exact ⟨rfl, F', hD, hS1.gr hG, hG.ge (by have := hb1'.size; omega) (fun k hk => hk.1), hb11.trans (hG.1.below hb11.size (fun k hk => hk.1))⟩

set_option maxHeartbeats 1000000 in
theorem awake6_any (w : World) (hT : CrcTab w) :
    Calls Tryd.prog 16 #[] w fun e w' => e = .returned (.bool true) ∧ Below w.heap.size w w' := by
  have kc := fun (w : World) (C : Array Value) (n c : Nat) => Lib.run_convert_bytes_const (P := Tryd.prog) w 22 5 C n c Tryd.underlying22 Tryd.underlying5
  have HT := hidn hT
  clear hT
  go_enter Tryd.func16, Tryd.ntmps16
  go_wp2_with fail
  refine (new_any _ 10 (by omega)).mono ?_
  rintro e w1 ⟨rfl, hD1, hb1, hs1⟩
  have HD1 := hidn hD1
  have HS1 := hidn hs1
  clear hD1 hs1
  go_wp2_with fail
  have hb1' : Below w1.heap.size w1 (w1.alloc (.cells #[.int .u8 97, .int .u8 98] 5 (2, 3))) := (Below.refl _ _).alloc (Nat.le_refl _) _
  have hB1 : Bs (w1.alloc (.cells #[.int .u8 97, .int .u8 98] 5 (2, 3))) (some ⟨w1.heap.size, 0, none⟩) 2 [97, 98] := bs_new w1 [97, 98] (2, 3) (by decide) (by decide)
  have hBF : BsF (fun k => w.heap.size ≤ k ∧ k < w.heap.size + 2) (w1.alloc (.cells #[.int .u8 97, .int .u8 98] 5 (2, 3))) (some ⟨w1.heap.size, 0, none⟩) 2 [97, 98] := ⟨hB1, fun x hx _ hF => by cases hx; have := HS1.out; have h2 : w1.heap.size < w.heap.size + 2 := hF.2; omega⟩
  refine (storeXr w w1 10 (by omega) hb1 HS1.out _ HD1.out _ hb1' HT.out 1 (by omega) _ 2 2 [97, 98] hBF (by omega) (by omega) 1 (hidn (by decide)) (by omega)).mono ?_
  rintro e w2 ⟨rfl, F2, hD2, hS2, hF2, hb2⟩
  have HD2 := hidn hD2
  have HS2 := hidn hS2
  have HB2 := hidn hb2
  have HP2 := hidn (partsX w2 _ F2 _ _ _ 1 [97, 98] 1 2 hD2 hS2.tab rfl (by omega) (hidn (by decide)) (by decide) (by omega))
  clear hD2 hS2 hF2 hb1 hb2 hb1' hB1 hBF kc
  go_wp2_with fail
  refine (sPart_any _ _ F2 _ _ _ _ HD2.out (diskX_nil _ _ _ 4 (Nat.le_refl _)) ⟨#[120]⟩ x0 x1 x2 x3 (by decide) (hidn (by decide +kernel)) (hidn (by decide +kernel)) (hidn (by decide +kernel)) (hidn (by decide +kernel)) 1 0 2 [97, 98] 2 rfl (by omega) (by decide) (by omega) (by omega) False HP2).mono ?_
  rintro r w3 ⟨hb3, (⟨_, hbad⟩ | ⟨_, a3, c3, rfl, hB3⟩)⟩
  · exfalso
    rcases hbad with h | h
    · omega
    · exact h
  have HBB3 := hidn (HB2.out.trans (hb3.mono HB2.out.size))
  have hB3' : Bs w3 a3 2 [97, 98] := hB3
  have hs3 := hB3'.str (cap := c3)
  have hq : (strB [97, 98]).toList = [97, 98] := by decide +kernel
  generalize strB [97, 98] = st at *
  clear hb3 hB3 hB3' HP2
  go_wp2
  go_ret
  exact ⟨rfl, HBB3.out⟩

end Go.Proofs.YthnnpgleljfgjaaDoor
