/- anchor: Encode. -/
import Derived.Test.YtoopdmfijbbfdaaDoorAnA
import Derived.Test.YtoopdmfijbbfdaaDoorFramedWalk
namespace Go.Proofs.YtoopdmfijbbfdaaDoor
open Go.RowKit Go.Maps
set_option linter.unusedVariables false

theorem byInfoA : ∃ (i0 : TypeInfo) (z0 : Value), Tryd.prog.info? 5 = some i0 ∧ i0.zero = some z0 ∧ i0.size = 1 ∧ i0.bytes = 1 ∧ z0.cells.size = 1 := by
  obtain ⟨i0, hi, hz0, hz1, hz2⟩ := info_parts Tryd.info5
  exact ⟨i0, _, hi, hz0, hz1, hz2, rfl⟩

theorem vb_app (a b : List Nat) : vb (a ++ b) = vb a ++ vb b := by simp [vb]

theorem own_belowA {w w' : World} {base e n : Nat} {v : Value} {xs : List Value} (h : w.ownsRow base e 1 v n xs) (hb : Below w.heap.size w w') : w'.ownsRow base e 1 v n xs := by
  obtain ⟨hl, h1⟩ := h
  refine ⟨hl, ?_⟩
  rcases h1 with h1 | ⟨g, cap, cur, hv, hg, hh, r⟩
  · exact .inl h1
  · exact .inr ⟨g, cap, cur, hv, hg, (hb.block g (Array.getElem?_eq_some_iff.1 hh).1).trans hh, r⟩

theorem wrapU (x : Int) : IntKind.u64.wrap x = (u64 x : Int) := by rw [IntKind.wrap_u64]; unfold u64; omega

set_option maxHeartbeats 1000000 in
theorem words_any (w : World) (b off len cap : Nat) (xs : List Int) (hl : xs.length = len) (hm : len ≤ 10) (hc : ∀ (j : Nat) (x : Int), xs[j]? = some x → w.cell? ⟨b, off + j, none⟩ = some (.int .i64 x)) :
    Calls Tryd.prog 29 #[.slice (some ⟨b, off, none⟩) len cap] w fun e w' => ∃ v, e = .returned v ∧ w'.ownsRow w.heap.size 5 1 v (8 * len) (vb (wordsB xs)) ∧ Below w.heap.size w w' := by
  obtain ⟨i0, z0, hi, hz0, hz1, hz2, hzc⟩ := byInfoA
  have HL := hidn hl
  have HC := hidn hc
  clear hl hc
  go_enter Tryd.func29, Tryd.ntmps29
  go_wp2_with fail
  go_loopw [3, 8] (fun bv iv wr => ∃ k : Nat, k ≤ len ∧ iv = .int .i64 (k : Int) ∧ Hid (wr.ownsRow w.heap.size 5 1 bv (8 * k) (vb (wordsB (xs.take k)))) ∧ Hid (Below w.heap.size w wr)) (fun _ iv _ => len - (intOf iv).toNat)
  case atStart => exact ⟨0, Nat.zero_le _, rfl, hidn (World.ownsRow_nil _ _ _ _), hidn (Below.refl _ _)⟩
  case round =>
    obtain ⟨k, hk, rfl, HO, HB⟩ := hrel
    by_cases hlt : k < len
    · have hlt2 : (k : Int) < (len : Int) := by omega
      obtain ⟨x, hx⟩ : ∃ x, xs[k]? = some x := ⟨_, List.getElem?_eq_getElem (by rw [HL.out]; exact hlt)⟩
      have hcx := HC.out k x hx
      have hcx2 := (HB.out.cell (block_lt_of_cell hcx)).trans hcx
      have HX := hidn hx
      obtain ⟨n, hn⟩ : ∃ n, n = u64 x := ⟨_, rfl⟩
      have hw1 : IntKind.u64.wrap x = (n : Int) := by rw [wrapU, hn]
      have hn64 : n < 18446744073709551616 := by rw [hn]; exact u64_lt x
      have HN := hidn hn
      obtain ⟨va, vc, e9⟩ : ∃ va vc, u3 = Value.slice va (8 * k) vc := by
        rcases HO.out.2 with ⟨h1, h2⟩ | ⟨g, cp, cur, h1, _⟩
        · exact ⟨none, 0, by rw [h1, h2]⟩
        · exact ⟨_, _, h1⟩
      clear hx hcx hn
      go_wp2_with fail
      refine (put_any n 8 8 _ hn64 (by omega)).mono ?_
      rintro e w1 ⟨rfl, hown1, hb1⟩
      have HB1 := hidn (HB.out.trans (hb1.mono HB.out.size))
      have hO1 := own_belowA HO.out hb1
      obtain ⟨v3, w3, hrun, hown3, hgr3⟩ := appAny w1 w.heap.size 24 24 5 i0 z0 1 1 Tryd.underlying24 hi hz0 hz1 hz2 hzc (by decide) u3 (8 * k) (vb (wordsB (xs.take k))) hO1 HB1.out.size (some ⟨wr.heap.size, 0, none⟩) 8 8 (vb (putB n 8)) (by rw [length_vb, putB_length]) (fun e => by cases e) (fun x hx j u hu => by cases hx; exact src_of_own hown1 j u hu) (one_vb _) (by unfold maxLen; omega) (by omega)
      have HB3 : Hid (Below w.heap.size w w3) := hidn (HB1.out.grown hgr3 HB1.out.size (fun k hk => (hO1.lt k hk).1))
      have HO3 : Hid (w3.ownsRow w.heap.size 5 1 v3 (8 * (k + 1)) (vb (wordsB (xs.take (k + 1))))) := hidn (by
        rw [List.take_add_one, HX.out, Option.toList_some, wordsB_snoc, vb_app, ← HN.out, Nat.mul_add]
        exact hown3)
      have HRUN := hidn hrun
      subst e9
      clear hrun hown3 hgr3 hO1 hown1 hb1 HO
      go_wp2_with (at_builtin; refine wpList_app_runA rfl _ _ 24 24 rfl rfl _ _ _ rfl rfl HRUN.out ?_; clear HRUN)
      go_roundw
      case rel => exact ⟨k + 1, hlt, by first | rfl | go_num | simp, HO3, HB3⟩
      case measure => simp [intOf]; omega
    · have hlt2 : ¬ (k : Int) < (len : Int) := by omega
      have hkl : k = len := by omega
      subst hkl
      have HO2 := HO.out
      rw [List.take_of_length_le (by rw [HL.out]; omega)] at HO2
      have HO4 := hidn HO2
      clear HO2 HO
      go_wp2
      go_ret
      exact ⟨_, rfl, HO4.out, HB.out⟩
end Go.Proofs.YtoopdmfijbbfdaaDoor
