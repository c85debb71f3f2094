/- merge.Sample: the document's Sample. -/
import Derived.Test.YthmknpdhgfmogabMsC
namespace Go.Proofs.Ythmknpdhgfmogab
open Go.RowKit Go.Joins
set_option linter.unusedVariables false

theorem oneS_no {l : List Sam} {x back : Int} (h : AtN l x 0) : oneS l back x = [] := by
  unfold oneS; rw [h.cnt, if_neg (by omega)]
theorem oneS_yes {l : List Sam} {x back : Int} {j : Nat} (h : AtN l x (j + 1)) (hb : x - (samD l j).t < back) : oneS l back x = [⟨x, (samD l j).v⟩] := by
  unfold oneS; rw [h.cnt, Nat.add_sub_cancel, if_pos ⟨by omega, hb⟩]
theorem oneS_far {l : List Sam} {x back : Int} {j : Nat} (h : AtN l x (j + 1)) (hb : ¬ x - (samD l j).t < back) : oneS l back x = [] := by
  unfold oneS; rw [h.cnt, Nat.add_sub_cancel, if_neg (fun q => hb q.2)]

theorem wrapS (n : Int) (h0 : 0 ≤ n) (h1 : n ≤ 9223372036854775807) : IntKind.u64.wrap n = n := by
  have hw : ∀ n : Int, IntKind.u64.wrap n = n % 18446744073709551616 := fun n => rfl
  rw [hw]; omega
theorem wrap_sub (x y : Int) (h : y ≤ x) (hx : x ≤ 9223372036854775807) (hy : -9223372036854775808 ≤ y) : IntKind.u64.wrap (IntKind.u64.wrap x - IntKind.u64.wrap y) = x - y := by
  have hw : ∀ n : Int, IntKind.u64.wrap n = n % 18446744073709551616 := fun n => rfl
  rw [hw, hw, hw]; omega

/-- What Sample leaves. -/
def SmpP (l : List Sam) (frm to step back : Int) (w : World) (e : Ending) (w' : World) : Prop :=
  Below w.heap.size w w' ∧
  ((badS l frm to step back = true ∧ e = .returned (.tuple #[.slice none 0 0, .int .i64 1])) ∨
  (badS l frm to step back = false ∧ 200 * step ≤ to - frm ∧ e = .returned (.tuple #[.slice none 0 0, .int .i64 290])) ∨
  (badS l frm to step back = false ∧ ∃ (n : Nat) (a : Option Addr) (c : Nat), n ≤ 199 ∧ frm + n * step ≤ to ∧ to - (frm + n * step) < step ∧ e = .returned (.tuple #[.slice a (smp l frm step back (n + 1)).length c, .int .i64 0]) ∧ Sm w' a (smp l frm step back (n + 1)).length (smp l frm step back (n + 1))))

set_option maxHeartbeats 4000000 in
set_option maxRecDepth 100000 in
theorem refSample_any (a : Option Addr) (len cap : Nat) (l : List Sam) (frm to step back : Int) (w : World) (h : Sm w a len l) (hm : len ≤ 1000000) (hf : -9223372036854775808 ≤ frm) (ht : to ≤ 9223372036854775807) (hs2 : step ≤ 9223372036854775807) (hb2 : back ≤ 9223372036854775807) :
    Calls Try.prog 26 #[.slice a len cap, .int .i64 frm, .int .i64 to, .int .i64 step, .int .i64 back] w (SmpP l frm to step back w) := by
  have HRI := hidn (refRises_any a len cap l w h)
  have HL := hidn h.1
  have H := hidn h
  clear h
  obtain ⟨rb, hrb⟩ : ∃ rb, rb = riseB l := ⟨_, rfl⟩
  rw [← hrb] at HRI
  have HRB := hidn hrb
  clear hrb
  by_cases hbad : (rb = false ∨ step < 1 ∨ to < frm ∨ back < 0)
  · have HBD : Hid (badS l frm to step back = true) := hidn (by
      unfold badS; rw [← HRB.out]
      rcases hbad with rfl | h | h | h
      · rfl
      · simp [h]
      · simp [h]
      · simp [h])
    cases rb
    · go_enter Try.func26, Try.ntmps26
      go_wp2_with fail
      refine HRI.out.mono ?_
      rintro e w1 ⟨rfl, b1⟩
      go_wp2_with fail
      go_ret2
      exact ⟨b1, .inl ⟨HBD.out, rfl⟩⟩
    by_cases h1 : step < 1
    · clear hbad
      go_enter Try.func26, Try.ntmps26
      go_wp2_with fail
      refine HRI.out.mono ?_
      rintro e w1 ⟨rfl, b1⟩
      go_wp2_with fail
      go_ret2
      exact ⟨b1, .inl ⟨HBD.out, rfl⟩⟩
    by_cases h2 : to < frm
    · clear hbad
      go_enter Try.func26, Try.ntmps26
      go_wp2_with fail
      refine HRI.out.mono ?_
      rintro e w1 ⟨rfl, b1⟩
      go_wp2_with fail
      go_ret2
      exact ⟨b1, .inl ⟨HBD.out, rfl⟩⟩
    have h3 : back < 0 := by
      rcases hbad with h | h | h | h
      · cases h
      · exact absurd h h1
      · exact absurd h h2
      · exact h
    clear hbad
    go_enter Try.func26, Try.ntmps26
    go_wp2_with fail
    refine HRI.out.mono ?_
    rintro e w1 ⟨rfl, b1⟩
    go_wp2_with fail
    go_ret2
    exact ⟨b1, .inl ⟨HBD.out, rfl⟩⟩
  · have hrt : rb = true := by
      cases rb
      · exact absurd (.inl rfl) hbad
      · rfl
    subst hrt
    have h1 : ¬ step < 1 := fun h => hbad (.inr (.inl h))
    have h2 : ¬ to < frm := fun h => hbad (.inr (.inr (.inl h)))
    have h3 : ¬ back < 0 := fun h => hbad (.inr (.inr (.inr h)))
    have HBD : Hid (badS l frm to step back = false) := hidn (by
      unfold badS; rw [← HRB.out]; simp; omega)
    have HRS := hidn (riseS_of HRB.out.symm)
    clear hbad
    go_enter Try.func26, Try.ntmps26
    go_wp2_with fail
    refine HRI.out.mono ?_
    rintro e w1 ⟨rfl, b1⟩
    have HT := hidn (times_any frm to step w1 (by omega) (by omega) hs2 hf ht)
    have HB1 := hidn b1
    clear b1 HRI
    go_wp2_with fail
    refine HT.out.mono ?_
    rintro e w2 (⟨hmany, rfl, b2⟩ | ⟨n, v, hn, hx1, hx2, rfl, ot, b2⟩)
    · have HB2 := hidn (HB1.out.trans (b2.mono HB1.out.size))
      have HMY := hidn hmany
      clear b2 hmany HT
      go_wp2_with fail
      go_ret2
      exact ⟨HB2.out, .inr (.inl ⟨HBD.out, HMY.out, rfl⟩)⟩
    · have HB2 := hidn (HB1.out.trans (b2.mono HB1.out.size))
      obtain ⟨gt, ct, rfl⟩ := own_some ot (by omega)
      have HCT : Hid (∀ k, k < n + 1 → w2.cell? ⟨gt, k, none⟩ = some (.int .i64 (frm + (k : Int) * step))) := hidn (fun k hk => by
        have q := ot.cells (g := gt) rfl k _ (vT_get frm step (n + 1) k hk)
        rw [add_none, Nat.zero_add] at q
        exact q)
      have HX1 := hidn hx1
      have HX2 := hidn hx2
      have HSM := hidn (H.out.below HB2.out)
      clear b2 ot HT hx1 hx2
      go_wp2_with fail
      go_loopw [14, 45] (fun ov kv wr => ∃ k : Nat, k ≤ n + 1 ∧ kv = .int .i64 (k : Int) ∧ Hid (Below w2.heap.size w2 wr) ∧ Hid (wr.ownsRow w2.heap.size 48 2 ov (smp l frm step back k).length (vsm (smp l frm step back k)))) (fun _ kv _ => n + 1 - (intOf kv).toNat)
      case atStart => exact ⟨0, by omega, rfl, hidn (Below.refl _ _), hidn (World.ownsRow_nil _ _ _ _)⟩
      case round =>
        obtain ⟨k, hk, rfl, HB, HO⟩ := hrel
        obtain ⟨wo, hwo⟩ : ∃ wo, wo = wr := ⟨_, rfl⟩
        subst hwo
        obtain ⟨ov0, hov0⟩ : ∃ o, o = u14 := ⟨_, rfl⟩
        subst hov0
        by_cases hlt : k < n + 1
        · have hlt2 : (k : Int) < (n : Int) + 1 := by omega
          obtain ⟨x, hx⟩ : ∃ x, x = frm + (k : Int) * step := ⟨_, rfl⟩
          have c0 : wo.cell? ⟨gt, k, none⟩ = some (.int .i64 x) := by rw [hx]; exact (HB.out.cell (p := ⟨gt, k, none⟩) (block_lt_of_cell (HCT.out k hlt))).trans (HCT.out k hlt)
          have hks : (k : Int) * step ≤ (n : Int) * step := Int.mul_le_mul_of_nonneg_right (by omega) (by omega)
          have hk0 : (0 : Int) ≤ (k : Int) * step := Int.mul_nonneg (by omega) (by omega)
          have hxt : x ≤ to := by have := HX1.out; omega
          have hfx : frm ≤ x := by omega
          have HX := hidn hx
          have HSW := hidn (HSM.out.below HB.out)
          clear hx hks hk0
          go_wp2_with fail
          go_loopw [14, 17] (fun ov iv wx => ∃ m : Nat, m ≤ len ∧ ((m = 0 ∧ iv = .int .i64 (-1)) ∨ ∃ j : Nat, m = j + 1 ∧ iv = .int .i64 (j : Int)) ∧ ov = ov0 ∧ Hid (wx = wo) ∧ Hid (∀ j, m ≤ j → j < len → x < (samD l j).t)) (fun _ iv _ => (intOf iv + 1).toNat)
          case atStart =>
            refine ⟨len, Nat.le_refl _, ?_, rfl, hidn rfl, hidn (fun j h1 h2 => by omega)⟩
            rcases Nat.eq_zero_or_pos len with h0 | h0
            · exact .inl ⟨h0, by rw [h0]; rfl⟩
            · exact .inr ⟨len - 1, by omega, by rw [show ((len - 1 : Nat) : Int) = (len : Int) - 1 from by omega]⟩
          case round =>
            obtain ⟨m, hmm, hiv, rfl, HW, HG⟩ := hrel
            have hwx := HW.out
            subst hwx
            rcases hiv with ⟨rfl, rfl⟩ | ⟨j, rfl, rfl⟩
            · have HONE : Hid (oneS l back x = []) := hidn (oneS_no ⟨Nat.zero_le _, fun j h => by omega, fun j _ h => HG.out j (by omega) (by rw [HL.out] at h; exact h)⟩)
              have HO2 : Hid (wr.ownsRow w2.heap.size 48 2 u14 (smp l frm step back (k + 1)).length (vsm (smp l frm step back (k + 1)))) := hidn (by rw [smp, ← HX.out, HONE.out, List.append_nil]; exact HO.out)
              go_wp2_with fail
              go_roundw
              case rel => exact ⟨k + 1, by omega, by first | rfl | simp, HB, HO2⟩
              case measure => simp [intOf]; omega
            · have hjl : j < len := by omega
              have hjl2 : (j : Int) < (len : Int) := by omega
              have hjn : ¬ (j : Int) < 0 := by omega
              have hj0 : (0 : Int) ≤ (j : Int) := by omega
              have hj9 : (j : Int) ≤ 1000000 := by omega
              obtain ⟨b, off, rfl, hbs, hcl⟩ := HSW.out.pos (by omega)
              obtain ⟨d0, d1⟩ := hcl j hjl
              have hok := HSW.out.2.2.1 j
              obtain ⟨y, hy⟩ : ∃ y, y = (samD l j).t := ⟨_, rfl⟩
              obtain ⟨v, hv⟩ : ∃ v, v = (samD l j).v := ⟨_, rfl⟩
              rw [← hy] at d0
              rw [← hv] at d1
              have hy0 : -9223372036854775808 ≤ y := by rw [hy]; exact hok.1
              have HY := hidn hy
              have HV := hidn hv
              clear hcl hok hy hv
              by_cases hyx : y ≤ x
              · have HAT : Hid (AtN l x (j + 1)) := hidn ⟨by rw [HL.out]; omega, fun i hi => by
                  rcases Nat.lt_or_ge i j with h3 | h3
                  · exact Int.le_trans (Int.le_of_lt (HRS.out i j h3 (by rw [HL.out]; exact hjl))) (by rw [← HY.out]; exact hyx)
                  · obtain rfl : i = j := by omega
                    rw [← HY.out]; exact hyx, fun i h1 h2 => HG.out i h1 (by rw [HL.out] at h2; exact h2)⟩
                have e1 := wrap_sub x y hyx (by omega) hy0
                have hwb := wrapS back (by omega) hb2
                by_cases hbk : x - y < back
                · have HONE : Hid (oneS l back x = [⟨x, v⟩]) := hidn (by rw [oneS_yes HAT.out (by rw [← HY.out]; exact hbk), HV.out])
                  obtain ⟨w3, hw3⟩ : ∃ w3, w3 = wr.alloc (.cells #[.int .i64 x, .int .u64 (v : Int)] 48) := ⟨_, rfl⟩
                  have b3 : Below wr.heap.size wr w3 := by rw [hw3]; exact (Below.refl _ wr).alloc (Nat.le_refl _) _
                  have q3 : w3.heap[wr.heap.size]? = some (.cells #[.int .i64 x, .int .u64 (v : Int)] 48 (0, 0)) := by rw [hw3]; exact heap_alloc_new wr _
                  obtain ⟨g, c', w4, hr, ho4, hg4⟩ := app_sam1 (own_skip HO.out b3) (Nat.le_trans HB.out.size b3.size) (by have := smp_len l frm step back k; omega) (⟨x, v⟩ : Sam) ⟨wr.heap.size, 0, none⟩ (cell_of_row _ _ _ _ _ _ q3) (cell_of_row _ _ 1 _ _ _ q3)
                  have HR := hidn hr
                  have HW3 := hidn hw3
                  have HB4 : Hid (Below w2.heap.size w2 w4) := hidn ((HB.out.trans (b3.mono HB.out.size)).grown hg4 (Nat.le_trans HB.out.size b3.size) (fun k hk => (HO.out.lt k hk).1))
                  have HO4 : Hid (w4.ownsRow w2.heap.size 48 2 (.slice (some ⟨g, 0, none⟩) ((smp l frm step back k).length + 1) c') (smp l frm step back (k + 1)).length (vsm (smp l frm step back (k + 1)))) := hidn (by rw [smp, ← HX.out, HONE.out, List.length_append]; exact ho4)
                  clear hr hw3 b3 q3 ho4 hg4
                  go_wp2_with (at_builtin; rw [← HW3.out]; refine wpList_app_run2 rfl (.tmp 75) (.tmp 83) 38 38 rfl rfl u14 (.slice (some ⟨wr.heap.size, 0, none⟩) 1 1) _ rfl rfl HR.out ?_)
                  go_roundw
                  case rel => exact ⟨k + 1, by omega, by first | rfl | simp, HB4, HO4⟩
                  case measure => first | (simp [intOf]; done) | (simp [intOf]; omega)
                · have HONE : Hid (oneS l back x = []) := hidn (oneS_far HAT.out (by rw [← HY.out]; exact hbk))
                  have HO2 : Hid (wr.ownsRow w2.heap.size 48 2 u14 (smp l frm step back (k + 1)).length (vsm (smp l frm step back (k + 1)))) := hidn (by rw [smp, ← HX.out, HONE.out, List.append_nil]; exact HO.out)
                  go_wp2_with fail
                  go_roundw
                  case rel => exact ⟨k + 1, by omega, by first | rfl | simp, HB, HO2⟩
                  case measure => first | (simp [intOf]; done) | (simp [intOf]; omega)
              · have HG2 : Hid (∀ i, j ≤ i → i < len → x < (samD l i).t) := hidn (fun i h1 h2 => by
                  rcases Nat.lt_or_ge j i with h3 | h3
                  · exact HG.out i h3 h2
                  · obtain rfl : i = j := by omega
                    rw [← HY.out]; omega)
                go_wp2_with fail
                go_roundw
                case rel =>
                  refine ⟨j, by omega, ?_, rfl, by first | exact hidn trivial | exact hidn rfl, HG2⟩
                  rcases Nat.eq_zero_or_pos j with h0 | h0
                  · exact .inl ⟨h0, by rw [h0]; rfl⟩
                  · exact .inr ⟨j - 1, by omega, by rw [show ((j - 1 : Nat) : Int) = (j : Int) - 1 from by omega]⟩
                case measure => first | (simp [intOf]; done) | (simp [intOf]; omega)
        · obtain rfl : k = n + 1 := by omega
          have hlt2 : ¬ ((n + 1 : Nat) : Int) < (n : Int) + 1 := by omega
          obtain ⟨ra, rc, hrv, _, hrs⟩ := sm_of_own HO.out (mem_ok (smp_ok l (HSM.out.2.2.1) frm to step back hf ht (by omega) (n + 1) (fun j hj => by
            have hks : (j : Int) * step ≤ (n : Int) * step := Int.mul_le_mul_of_nonneg_right (by omega) (by omega)
            have := HX1.out; omega)))
          subst hrv
          have HRR := hidn hrs
          have HBB := hidn (HB2.out.trans (HB.out.mono HB2.out.size))
          have HXX := hidn (And.intro HX1.out HX2.out)
          clear hrs
          go_wp2_with fail
          go_ret2
          exact ⟨HBB.out, .inr (.inr ⟨HBD.out, n, ra, rc, hn, HXX.out.1, HXX.out.2, rfl, HRR.out⟩)⟩
end Go.Proofs.Ythmknpdhgfmogab
