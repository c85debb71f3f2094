/- postings: canPack, putBody. -/
import Derived.Test.YthmknpdhgfmogaaPgB
import Derived.Test.YthmknpdhgfmogaaDrawn
namespace Go.Proofs.Ythmknpdhgfmogaa
open Go.RowKit Go.Joins
set_option linter.unusedVariables false

theorem zget {zs : List Int} {k : Nat} {x : Int} (h : zs[k]? = some x) : zs.getD k 0 = x := by rw [List.getD_eq_getElem?_getD, h]; rfl

set_option maxHeartbeats 2000000 in
set_option maxRecDepth 100000 in
theorem canPack_any (a : Option Addr) (len cap : Nat) (zs : List Int) (w : World) (h : Ils w a len zs) :
    Calls Try.prog 33 #[.slice a len cap] w fun e w' => e = .returned (.bool (canP zs)) ∧ w' = w := by
  have HL := hidn h.1
  have H := hidn h
  by_cases hbig : 100000 < len
  · have hbig2 : (100000 : Int) < (len : Int) := by omega
    have HC : Hid (canP zs = false) := hidn (by unfold canP; rw [HL.out]; simp; omega)
    clear h H
    go_enter Try.func33, Try.ntmps33
    go_wp2_with fail
    go_ret
    exact ⟨by rw [HC.out]; rfl, rfl⟩
  · have hbig2 : ¬ (100000 : Int) < (len : Int) := by omega
    clear h
    go_enter Try.func33, Try.ntmps33
    go_wp2_with fail
    go_loopw [10] (fun iv wr => ∃ k : Nat, k ≤ len ∧ iv = .int .i64 (k : Int) ∧ Hid (wr = w) ∧ Hid (∀ i, i < k → canAtP zs i = true)) (fun iv _ => len - (intOf iv).toNat)
    case atStart => exact ⟨0, Nat.zero_le _, rfl, hidn rfl, hidn (fun i hi => by omega)⟩
    case round =>
      obtain ⟨k, hk, rfl, HW, HK⟩ := hrel
      have hw := HW.out
      subst hw
      by_cases hlt : k < len
      · have hlt2 : (k : Int) < (len : Int) := by omega
        obtain ⟨x, hx⟩ : ∃ x, zs[k]? = some x := ⟨_, List.getElem?_eq_getElem (by rw [HL.out]; exact hlt)⟩
        obtain ⟨b, off, e, hc⟩ := H.out.at hx
        subst e
        have HX := hidn (zget hx)
        have HKL : Hid (k < zs.length) := hidn (by rw [HL.out]; exact hlt)
        by_cases h1 : x < 0
        · have HC : Hid (canP zs = false) := hidn (canP_no zs k HKL.out (by unfold canAtP; rw [HX.out]; simp; omega))
          clear hx
          go_wp2_with fail
          go_ret
          exact ⟨by rw [HC.out]; rfl, rfl⟩
        · by_cases h2 : 2147483647 < x
          · have HC : Hid (canP zs = false) := hidn (canP_no zs k HKL.out (by unfold canAtP; rw [HX.out]; simp; omega))
            clear hx
            go_wp2_with fail
            go_ret
            exact ⟨by rw [HC.out]; rfl, rfl⟩
          · cases k with
            | zero =>
              have HA : Hid (∀ i, i < 1 → canAtP zs i = true) := hidn (fun i hi => by
                obtain rfl : i = 0 := by omega
                unfold canAtP; rw [HX.out]; simp; omega)
              have hc0 : wr.cell? ⟨b, off, none⟩ = some (.int .i64 x) := hc
              clear hx hc
              go_wp2_with fail
              go_roundw
              case rel => exact ⟨1, by omega, by first | rfl | simp, hidn trivial, HA⟩
              case measure => simp [intOf]; omega
            | succ j =>
              obtain ⟨y, hy⟩ : ∃ y, zs[j]? = some y := ⟨_, List.getElem?_eq_getElem (by rw [HL.out]; omega)⟩
              obtain ⟨b2, off2, e2, hc2⟩ := H.out.at hy
              have e3 : b2 = b ∧ off2 = off := by cases e2; exact ⟨rfl, rfl⟩
              obtain ⟨rfl, rfl⟩ := e3
              have HY := hidn (zget hy)
              have hj0 : (0 : Int) < (j : Int) + 1 := by omega
              have hjl : j < len := by omega
              have hj1 : (j : Int) + 1 - 1 = (j : Int) := by omega
              clear e2 hx hy
              by_cases h3 : x ≤ y
              · have HC : Hid (canP zs = false) := hidn (canP_no zs (j + 1) HKL.out (by unfold canAtP; rw [HX.out, Nat.add_sub_cancel, HY.out]; simp; omega))
                go_wp2_with fail
                go_ret
                exact ⟨by rw [HC.out]; rfl, rfl⟩
              · have HA : Hid (∀ i, i < j + 1 + 1 → canAtP zs i = true) := hidn (fun i hi => by
                  by_cases hij : i = j + 1
                  · subst hij
                    unfold canAtP; rw [HX.out, Nat.add_sub_cancel, HY.out]; simp; omega
                  · exact HK.out i (by omega))
                go_wp2_with fail
                go_roundw
                case rel => exact ⟨j + 1 + 1, by omega, by first | rfl | simp, hidn trivial, HA⟩
                case measure => simp [intOf]; omega
      · have hlt2 : ¬ (k : Int) < (len : Int) := by omega
        have HC : Hid (canP zs = true) := hidn (canP_yes zs (by rw [HL.out]; omega) (fun i hi => HK.out i (by rw [HL.out] at hi; omega)))
        go_wp2_with fail
        go_ret
        exact ⟨by rw [HC.out]; rfl, rfl⟩

/-- Numbers that lie below a border. -/
def IlB (w : World) (B : Nat) (a : Option Addr) (len : Nat) (xs : List Nat) : Prop := Ils w a len (up xs) ∧ (0 < len → ∀ b off sp, a = some ⟨b, off, sp⟩ → b < B)

theorem IlB.bel {w w' : World} {B : Nat} {a : Option Addr} {len : Nat} {xs : List Nat} (h : IlB w B a len xs) (hb : Below B w w') : IlB w' B a len xs := by
  obtain ⟨⟨h1, h2, h3, h4⟩, h5⟩ := h
  refine ⟨⟨h1, h2, h3, fun x hx j b hj => ?_⟩, h5⟩
  have := h4 x hx j b hj
  obtain ⟨xb, xo, xs⟩ := x
  have e : (Addr.add ⟨xb, xo, xs⟩ j).block = xb := by unfold Addr.add; split <;> rfl
  exact (hb.cell (p := Addr.add ⟨xb, xo, xs⟩ j) (by rw [e]; exact h5 (by have := (List.getElem?_eq_some_iff.1 hj).1; omega) _ _ _ hx)).trans this

theorem IlB.at {w : World} {B : Nat} {a : Option Addr} {len j : Nat} {xs : List Nat} (h : IlB w B a len xs) (hj : j < len) : ∃ b off, a = some ⟨b, off, none⟩ ∧ b < B ∧ w.cell? ⟨b, off + j, none⟩ = some (.int .i64 ((nD xs j : Nat) : Int)) := by
  have hl : xs.length = len := by rw [← up_len]; exact h.1.1
  obtain ⟨b, off, e, hc⟩ := h.1.at (up_get (xs := xs) (i := j) (by omega))
  exact ⟨b, off, e, h.2 (by omega) _ _ _ e, hc⟩

set_option maxHeartbeats 4000000 in
set_option maxRecDepth 100000 in
theorem putBody_any (B : Nat) (v : Value) (zs : List Nat) (a : Option Addr) (len cap : Nat) (xs : List Nat) (w : World) (h : w.ownsRow B 5 1 v zs.length (vb zs)) (hI : IlB w B a len xs) (hr : RiseN xs) (hlen : len ≤ 1000) (hl : zs.length ≤ 1000000) (hB : B ≤ w.heap.size) :
    Calls Try.prog 36 #[v, .slice a len cap] w (PsP w B v.ownBlock (zs ++ body xs)) := by
  obtain ⟨row, hrow⟩ : ∃ row, row = v.ownBlock := ⟨_, rfl⟩
  rw [← hrow]
  have HS0 : Hid (Bld w w B row v zs) := hidn (by rw [hrow]; exact Bld.start h)
  obtain ⟨va, vc, e0⟩ := own_slice h
  subst e0
  have HB0 := hidn hB
  have HI := hidn hI
  have HLX : Hid (xs.length = len) := hidn (by rw [← up_len]; exact hI.1.1)
  have HR := hidn hr
  clear h hrow hI hr hB
  go_enter Try.func36, Try.ntmps36
  go_wp2_with fail
  go_loopw [0, 5] (fun bv iv wr => ∃ (k : Nat), iv = .int .i64 ((k : Int) + 1) ∧ (k = 0 ∨ k + 1 ≤ len) ∧ Hid (Bld w wr B row bv (zs ++ bodyTo xs k))) (fun _ iv _ => len + 1 - (intOf iv).toNat)
  case atStart => exact ⟨0, rfl, .inl rfl, hidn (by simpa [bodyTo] using HS0.out)⟩
  case round =>
    obtain ⟨k, rfl, hk, HB⟩ := hrel
    by_cases hlt : k + 1 < len
    · have hlt2 : (k : Int) + 1 < (len : Int) := by omega
      obtain ⟨b, off, e, hb, hc0⟩ := (HI.out.bel HB.out.bel).at (j := k) (by omega)
      subst e
      obtain ⟨b2, off2, e2, _, hc1⟩ := (HI.out.bel HB.out.bel).at (j := k + 1) (by omega)
      have e3 : b2 = b ∧ off2 = off := by cases e2; exact ⟨rfl, rfl⟩
      obtain ⟨rfl, rfl⟩ := e3
      clear e2
      have hrise := HR.out.2 k (by rw [HLX.out]; exact hlt)
      have hmax := HR.out.1 (k + 1) (by rw [HLX.out]; exact hlt)
      obtain ⟨p, hp⟩ : ∃ p, p = nD xs k := ⟨_, rfl⟩
      obtain ⟨q, hq⟩ : ∃ q, q = nD xs (k + 1) := ⟨_, rfl⟩
      rw [← hp] at hc0 hrise
      rw [← hq] at hc1 hrise hmax
      obtain ⟨d, hd⟩ : ∃ d, d = q - p - 1 := ⟨_, rfl⟩
      have hdd : (q : Int) - (p : Int) - 1 = (d : Int) := by omega
      have hkk : (k : Int) + 1 - 1 = (k : Int) := by omega
      have hk1 : k < len := by omega
      have HD : Hid (bodyTo xs (k + 1) = bodyTo xs k ++ shortB d) := hidn (by rw [hd, hp, hq]; rfl)
      have hbl : (zs ++ bodyTo xs k).length ≤ 10000000 := by
        rw [List.length_append]
        have := bodyTo_len xs HR.out k (by rw [HLX.out]; omega)
        omega
      obtain ⟨ua, uc, e9⟩ := own_slice HB.out.own
      subst e9
      obtain ⟨L, hL⟩ : ∃ L, L = (zs ++ bodyTo xs k).length := ⟨_, rfl⟩
      rw [← hL] at HB ⊢
      have hbw : B ≤ wr.heap.size := Nat.le_trans HB0.out HB.out.siz
      have HPS := hidn (fun (wx : World) (hx : Below wr.heap.size wr wx) => putShort_any B (.slice ua L uc) (zs ++ bodyTo xs k) d wx (own_skip HB.out.own hx) (by omega) hbl (Nat.le_trans hbw hx.size))
      have hdq : d < 2147483648 := by omega
      clear hp hq hd hL hrise
      go_wp2_with fail
      have n1 : ¬ (k : Int) + 1 < 0 := by omega
      have n2 : IntKind.i64.wrap (k : Int) = (k : Int) := by rw [IntKind.wrap_i64]; omega
      have n3 : IntKind.i64.wrap ((q : Int) - (p : Int)) = (q : Int) - (p : Int) := by rw [IntKind.wrap_i64]; omega
      have n4 : IntKind.i64.wrap (d : Int) = (d : Int) := by rw [IntKind.wrap_i64]; omega
      have HRD : Hid (∀ w', Below B wr w' → w'.cell? ⟨b2, off2 + k, none⟩ = some (.int .i64 (p : Int)) ∧ w'.cell? ⟨b2, off2 + (k + 1), none⟩ = some (.int .i64 (q : Int))) := hidn (fun w' hb' => ⟨(hb'.cell (p := ⟨b2, off2 + k, none⟩) hb).trans hc0, (hb'.cell (p := ⟨b2, off2 + (k + 1), none⟩) hb).trans hc1⟩)
      refine wp_region_noPanic ?_
      refine wp_region_held_drew (S := fun w' => Below B wr w') (by kernel_rfl) ((Below.refl _ wr).drew) (fun hHeld => ?_)
      refine drawn_take (i := 0) (v := .slice ua L uc) (some 12) rfl rfl (by kernel_rfl) (by kernel_rfl) (by kernel_rfl) (fun _ _ _ h => h) (Or.inl ⟨by kernel_rfl, fun wq hw => by go_simp⟩) hHeld ?_
      simp only [Act.put, List.setIfInBounds_toArray, List.set_cons_succ, List.set_cons_zero]
      refine drawn_take (i := 1) (v := .slice (some ⟨b2, off2, none⟩) len cap) (some 13) rfl rfl (by kernel_rfl) (by kernel_rfl) (by kernel_rfl) (fun _ _ _ h => h) (Or.inl ⟨by kernel_rfl, fun wq hw => by go_simp⟩) hHeld ?_
      simp only [Act.put, List.setIfInBounds_toArray, List.set_cons_succ, List.set_cons_zero]
      refine drawn_take (i := 2) (v := .int .i64 ((k : Int) + 1)) (some 14) rfl rfl (by kernel_rfl) (by kernel_rfl) (by kernel_rfl) (fun _ _ _ h => h) (Or.inl ⟨by kernel_rfl, fun wq hw => by go_simp⟩) hHeld ?_
      simp only [Act.put, List.setIfInBounds_toArray, List.set_cons_succ, List.set_cons_zero]
      refine drawn_take (i := 3) (v := .pointer (some ⟨b2, off2 + (k + 1), none⟩)) (some 15) rfl rfl (by kernel_rfl) (by kernel_rfl) (by kernel_rfl) (fun _ _ _ h => h) (Or.inl ⟨by kernel_rfl, fun wq hw => by go_simp⟩) hHeld ?_
      simp only [Act.put, List.setIfInBounds_toArray, List.set_cons_succ, List.set_cons_zero]
      refine drawn_take (i := 4) (v := .int .i64 (q : Int)) (some 16) rfl rfl (by kernel_rfl) (by kernel_rfl) (by kernel_rfl) (fun _ _ _ h => h) (Or.inl ⟨by kernel_rfl, fun wq hw => by have q9 := (HRD.out _ hw).2; go_simp⟩) hHeld ?_
      simp only [Act.put, List.setIfInBounds_toArray, List.set_cons_succ, List.set_cons_zero]
      refine drawn_take (i := 5) (v := .slice (some ⟨b2, off2, none⟩) len cap) (some 17) rfl rfl (by kernel_rfl) (by kernel_rfl) (by kernel_rfl) (fun _ _ _ h => h) (Or.inl ⟨by kernel_rfl, fun wq hw => by go_simp⟩) hHeld ?_
      simp only [Act.put, List.setIfInBounds_toArray, List.set_cons_succ, List.set_cons_zero]
      refine drawn_take (i := 6) (v := .int .i64 ((k : Int) + 1)) (some 18) rfl rfl (by kernel_rfl) (by kernel_rfl) (by kernel_rfl) (fun _ _ _ h => h) (Or.inl ⟨by kernel_rfl, fun wq hw => by go_simp⟩) hHeld ?_
      simp only [Act.put, List.setIfInBounds_toArray, List.set_cons_succ, List.set_cons_zero]
      refine drawn_take (i := 7) (v := .int .i64 (k : Int)) (some 19) rfl rfl (by kernel_rfl) (by kernel_rfl) (by kernel_rfl) (fun _ _ _ h => h) (Or.inl ⟨by kernel_rfl, fun wq hw => by go_simp⟩) hHeld ?_
      simp only [Act.put, List.setIfInBounds_toArray, List.set_cons_succ, List.set_cons_zero]
      refine drawn_take (i := 8) (v := .pointer (some ⟨b2, off2 + k, none⟩)) (some 20) rfl rfl (by kernel_rfl) (by kernel_rfl) (by kernel_rfl) (fun _ _ _ h => h) (Or.inl ⟨by kernel_rfl, fun wq hw => by go_simp⟩) hHeld ?_
      simp only [Act.put, List.setIfInBounds_toArray, List.set_cons_succ, List.set_cons_zero]
      refine drawn_take (i := 9) (v := .int .i64 (p : Int)) (some 21) rfl rfl (by kernel_rfl) (by kernel_rfl) (by kernel_rfl) (fun _ _ _ h => h) (Or.inl ⟨by kernel_rfl, fun wq hw => by have q9 := (HRD.out _ hw).1; go_simp⟩) hHeld ?_
      simp only [Act.put, List.setIfInBounds_toArray, List.set_cons_succ, List.set_cons_zero]
      refine drawn_take (i := 10) (v := .int .i64 ((q : Int) - (p : Int))) (some 22) rfl rfl (by kernel_rfl) (by kernel_rfl) (by kernel_rfl) (fun _ _ _ h => h) (Or.inl ⟨by kernel_rfl, fun wq hw => by go_simp⟩) hHeld ?_
      simp only [Act.put, List.setIfInBounds_toArray, List.set_cons_succ, List.set_cons_zero]
      refine drawn_take (i := 11) (v := .int .i64 (d : Int)) (some 23) rfl rfl (by kernel_rfl) (by kernel_rfl) (by kernel_rfl) (fun _ _ _ h => h) (Or.inl ⟨by kernel_rfl, fun wq hw => by go_simp⟩) hHeld ?_
      simp only [Act.put, List.setIfInBounds_toArray, List.set_cons_succ, List.set_cons_zero]
      refine wpAnyH_ready (rs := [12]) (by kernel_rfl) (by simp) ?_
      refine rdy_call (i := 12) rfl rfl (some 24) rfl 34 #[.slice ua L uc, .int .i64 (d : Int)] (call2_run (x := 12) (y := 23) rfl (fun _ _ => rfl) (by kernel_rfl) (by kernel_rfl)) (fun r w9 => Bld w w9 B row r (zs ++ bodyTo xs k ++ shortB d) ∧ Below B wr w9) ((HPS.out _ (Below.refl _ wr).drew).mono (by rintro e w9 ⟨r, rfl, hb⟩; exact ⟨r, rfl, (HB.out.below HB0.out (Below.refl _ wr).drew).trans hb, ((Below.refl _ wr).drew).trans hb.bel⟩)) (fun r w9 hR => ?_) rdy_nil
      have HB9 := hidn hR.1
      refine ⟨hR.2, fun hHeld => ?_⟩
      simp only [Act.put, List.setIfInBounds_toArray, List.set_cons_succ, List.set_cons_zero]
      refine drawn_take (i := 13) (v := r) (some 0) rfl rfl (by kernel_rfl) (by kernel_rfl) (by kernel_rfl) (fun _ _ _ h => h) (Or.inl ⟨by kernel_rfl, fun wq hw => by go_simp⟩) hHeld ?_
      simp only [Act.put, List.setIfInBounds_toArray, List.set_cons_zero]
      refine wpAnyH_done (by kernel_rfl) ?_ _
      refine NoPanic.normal ?_
      clear hHeld
      go_wp2_with fail
      go_roundw
      case rel => exact ⟨k + 1, by first | rfl | simp, .inr (by omega), hidn (by rw [HD.out, ← List.append_assoc]; exact HB9.out)⟩
      case measure => simp [intOf]; omega
    · have hlt2 : ¬ (k : Int) + 1 < (len : Int) := by omega
      have HF : Hid (Bld w wr B row u0 (zs ++ body xs)) := hidn (by
        have e : body xs = bodyTo xs k := by unfold body; rw [HLX.out, show len - 1 = k from by omega]
        rw [e]; exact HB.out)
      clear HB
      go_wp2_with fail
      go_ret
      exact ⟨_, rfl, HF.out⟩
end Go.Proofs.Ythmknpdhgfmogaa
