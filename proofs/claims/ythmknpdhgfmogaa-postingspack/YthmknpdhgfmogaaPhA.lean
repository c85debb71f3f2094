/- postings: the document's can, short, body. -/
import Derived.Test.YthmknpdhgfmogaaPgM
namespace Go.Proofs.Ythmknpdhgfmogaa
open Go.RowKit Go.Joins
set_option linter.unusedVariables false

set_option maxHeartbeats 2000000 in
set_option maxRecDepth 100000 in
theorem refCan_any (a : Option Addr) (len cap : Nat) (zs : List Int) (w : World) (h : Ils w a len zs) :
    Calls Try.prog 37 #[.slice a len cap] w fun e w' => e = .returned (.bool (canP zs)) ∧ w' = w := by
  have HL := hidn h.1
  have H := hidn h
  have hlm := h.2.1
  unfold maxLen at hlm
  clear h
  go_enter Try.func37, Try.ntmps37
  go_wp2_with fail
  go_loopw [7] (fun iv wr => ∃ k : Nat, k ≤ len ∧ iv = .int .i64 (k : Int) ∧ Hid (wr = w) ∧ Hid (∀ i, i < k → canAtP zs i = true)) (fun iv _ => len - (intOf iv).toNat)
  case atStart => exact ⟨0, Nat.zero_le _, rfl, hidn rfl, hidn (fun i hi => by omega)⟩
  case round =>
    obtain ⟨k, hk, rfl, HW, HK⟩ := hrel
    have hw := HW.out
    subst hw
    by_cases hlt : k < len
    · have hlt2 : (k : Int) < (len : Int) := by omega
      obtain ⟨x, hx⟩ : ∃ x, zs[k]? = some x := ⟨_, List.getElem?_eq_getElem (by rw [HL.out]; exact hlt)⟩
      obtain ⟨b, off, e, hc⟩ := H.out.at hx
      subst e
      have HX := hidn (zget hx)
      have HKL : Hid (k < zs.length) := hidn (by rw [HL.out]; exact hlt)
      by_cases h1 : x < 0
      · have HC : Hid (canP zs = false) := hidn (canP_no zs k HKL.out (by unfold canAtP; rw [HX.out]; simp; omega))
        clear hx
        go_wp2_with fail
        go_ret
        exact ⟨by rw [HC.out]; rfl, rfl⟩
      · by_cases h2 : 2147483647 < x
        · have HC : Hid (canP zs = false) := hidn (canP_no zs k HKL.out (by unfold canAtP; rw [HX.out]; simp; omega))
          clear hx
          go_wp2_with fail
          go_ret
          exact ⟨by rw [HC.out]; rfl, rfl⟩
        · cases k with
          | zero =>
            have HA : Hid (∀ i, i < 1 → canAtP zs i = true) := hidn (fun i hi => by
              obtain rfl : i = 0 := by omega
              unfold canAtP; rw [HX.out]; simp; omega)
            have hc0 : wr.cell? ⟨b, off, none⟩ = some (.int .i64 x) := hc
            clear hx hc
            go_wp2_with fail
            go_roundw
            case rel => exact ⟨1, by omega, by first | rfl | simp, hidn trivial, HA⟩
            case measure => simp [intOf]; omega
          | succ j =>
            obtain ⟨y, hy⟩ : ∃ y, zs[j]? = some y := ⟨_, List.getElem?_eq_getElem (by rw [HL.out]; omega)⟩
            obtain ⟨b2, off2, e2, hc2⟩ := H.out.at hy
            have e3 : b2 = b ∧ off2 = off := by cases e2; exact ⟨rfl, rfl⟩
            obtain ⟨rfl, rfl⟩ := e3
            have HY := hidn (zget hy)
            have hj0 : (0 : Int) < (j : Int) + 1 := by omega
            have hjl : j < len := by omega
            have hj1 : (j : Int) + 1 - 1 = (j : Int) := by omega
            have hjl2 : (j : Int) < (len : Int) := by omega
            have hjn : ¬ (j : Int) < 0 := by omega
            clear e2 hx hy
            by_cases h3 : x ≤ y
            · have HC : Hid (canP zs = false) := hidn (canP_no zs (j + 1) HKL.out (by unfold canAtP; rw [HX.out, Nat.add_sub_cancel, HY.out]; simp; omega))
              go_wp2_with fail
              go_ret
              exact ⟨by rw [HC.out]; rfl, rfl⟩
            · have HA : Hid (∀ i, i < j + 1 + 1 → canAtP zs i = true) := hidn (fun i hi => by
                by_cases hij : i = j + 1
                · subst hij
                  unfold canAtP; rw [HX.out, Nat.add_sub_cancel, HY.out]; simp; omega
                · exact HK.out i (by omega))
              go_wp2_with fail
              go_roundw
              case rel => exact ⟨j + 1 + 1, by omega, by first | rfl | simp, hidn trivial, HA⟩
              case measure => simp [intOf]; omega
    · have hlt2 : ¬ (k : Int) < (len : Int) := by omega
      by_cases hbig : len ≤ 100000
      · have hbig2 : (len : Int) ≤ 100000 := by omega
        have HC : Hid (canP zs = true) := hidn (canP_yes zs (by rw [HL.out]; omega) (fun i hi => HK.out i (by rw [HL.out] at hi; omega)))
        go_wp2_with fail
        go_ret
        exact ⟨by rw [HC.out]; rfl, rfl⟩
      · have hbig2 : ¬ (len : Int) ≤ 100000 := by omega
        have HC : Hid (canP zs = false) := hidn (by unfold canP; rw [HL.out]; simp; omega)
        go_wp2_with fail
        go_ret
        exact ⟨by rw [HC.out]; rfl, rfl⟩

set_option maxHeartbeats 4000000 in
set_option maxRecDepth 100000 in
theorem refShort_any (n : Nat) (w : World) (hn : n < 34359738368) :
    Calls Try.prog 38 #[.int .i64 (n : Int)] w fun e w' => ∃ g c, e = .returned (.slice (some ⟨g, 0, none⟩) (shortB n).length c) ∧ w'.ownsRow w.heap.size 5 1 (.slice (some ⟨g, 0, none⟩) (shortB n).length c) (shortB n).length (vb (shortB n)) ∧ Below w.heap.size w w' := by
  have hsh := shortB_len5 n hn
  go_enter Try.func38, Try.ntmps38
  go_wp2_with fail
  go_loopw [0, 3] (fun iv bv wr => ∃ (m L : Nat) (pre : List Nat) (a : Option Addr) (c : Nat), iv = .int .i64 (m : Int) ∧ m < 34359738368 ∧ bv = .slice a L c ∧ Hid (L = pre.length) ∧ Hid (Bld w wr w.heap.size none (.slice a L c) pre) ∧ Hid (pre ++ shortB m = shortB n)) (fun iv _ _ => (intOf iv).toNat)
  case atStart => exact ⟨n, 0, [], none, 0, rfl, hn, rfl, hidn rfl, hidn (Bld.start (v := .slice none 0 0) (World.ownsRow_nil _ _ _ _)), hidn rfl⟩
  case round =>
    obtain ⟨m, L, pre, a, c, rfl, hm, rfl, HL, HB, HP⟩ := hrel
    have hpl : pre.length ≤ 5 := by
      have h1 := congrArg List.length HP.out
      rw [List.length_append] at h1
      omega
    have hLn : L ≤ 5 := by have := HL.out; omega
    by_cases hlt : 128 ≤ m
    · have hlt2 : (128 : Int) ≤ (m : Int) := by omega
      obtain ⟨k, hk⟩ : ∃ k, k = m % 128 := ⟨_, rfl⟩
      have hk1 : (m : Int) % 128 = (k : Int) := by omega
      have hk2 : k < 128 := by omega
      obtain ⟨y, hy⟩ : ∃ y, y = k + 128 := ⟨_, rfl⟩
      have hy1 : (k : Int) + 128 = (y : Int) := by omega
      have hy2 : y < 256 := by omega
      obtain ⟨q, hq⟩ : ∃ q, q = m / 128 := ⟨_, rfl⟩
      have hsr : (m : Int) / 128 = (q : Int) := by rw [hq]; omega
      have hqm : q < m := by omega
      have HE : Hid (pre ++ [y] ++ shortB q = shortB n) := hidn (by
        rw [← HP.out, shortB_hi (n := m) (by omega), ← hq, hy, hk, List.append_assoc]
        rfl)
      obtain ⟨g, c', w', hr, hb⟩ := HB.out.app1 (Nat.le_refl _) y (by rw [← HL.out]; omega)
      rw [← HL.out] at hr hb
      have HR := hidn hr
      have HB2 : Hid (Bld w w' w.heap.size none (.slice (some ⟨g, 0, none⟩) (L + 1) c') (pre ++ [y])) := hidn hb
      have HL2 : Hid (L + 1 = (pre ++ [y]).length) := hidn (by rw [List.length_append, ← HL.out]; rfl)
      clear hr hb hk hy hq HB HP hpl
      go_wp2_with (at_builtin; refine wpList_app_run2 rfl _ _ 23 23 rfl rfl _ _ _ rfl rfl HR.out ?_; clear HR)
      go_roundw
      case rel => exact ⟨q, L + 1, pre ++ [y], some ⟨g, 0, none⟩, c', by first | rfl | simp, by omega, rfl, HL2, HB2, HE⟩
      case measure => simp [intOf]; omega
    · have hlt2 : ¬ (128 : Int) ≤ (m : Int) := by omega
      have hwr : IntKind.u8.wrap (m : Int) = (m : Int) := by rw [IntKind.wrap_u8]; omega
      have HE : Hid (pre ++ [m] = shortB n) := hidn (by rw [← HP.out, shortB_lo (n := m) (by omega)])
      obtain ⟨g, c', w', hr, hb⟩ := HB.out.app1 (Nat.le_refl _) m (by rw [← HL.out]; omega)
      rw [← HL.out] at hr hb
      have HR := hidn hr
      have HL2 : Hid (L + 1 = (shortB n).length) := hidn (by rw [← HE.out, List.length_append, ← HL.out]; rfl)
      have HB2 : Hid (Bld w w' w.heap.size none (.slice (some ⟨g, 0, none⟩) (L + 1) c') (shortB n)) := hidn (by rw [← HE.out]; exact hb)
      clear hr hb HB HP hpl
      go_wp2_with (at_builtin; refine wpList_app_run2 rfl _ _ 23 23 rfl rfl _ _ _ rfl rfl HR.out ?_; clear HR)
      go_ret
      refine ⟨g, c', by rw [← HL2.out]; rfl, ?_, HB2.out.bel⟩
      have := HB2.out.own
      rw [← HL2.out] at this ⊢
      exact this

theorem appRun_exec {o : Oper} {a : Act} {w w' : World} {t u : TypeId} {x y : Operand} {vx vy v : Value} (ho : o.op = .call { callee := .builtin .append, args := #[x, y], argTypes := #[t, u] }) (hx : a.eval x = vx) (hy : a.eval y = vy) (hr : (Builtin.append_ #[t, u] o.type #[vx, vy]).run Try.prog w = .ok v w') : (execOp a.eval o).run Try.prog w = .ok (.value v) w' := by
  unfold execOp
  simp only [ho, resolve, invoke, builtin, Sem.run_bind, Sem.run_pure, Result.andThen_ok, List.map_toArray, List.map_cons, List.map_nil, hx, hy, hr]

/-- A row that came new, as a source. -/
theorem new_src {w : World} {B g c n : Nat} {zs : List Nat} (h : w.ownsRow B 5 1 (.slice (some ⟨g, 0, none⟩) n c) n (vb zs)) : ∀ j u, (vb zs)[j]? = some u → w.cell? ((⟨g, 0, none⟩ : Addr).add j) = some u := h.cells (g := g) rfl

/-- What body leaves. -/
def RbP (w : World) (zs : List Nat) (e : Ending) (w' : World) : Prop := ∃ v, e = .returned v ∧ Bld w w' w.heap.size none v zs ∧ (zs = [] → v = .slice none 0 0)

theorem bodyTo_ne (xs : List Nat) (k : Nat) (h : 0 < k) : bodyTo xs k ≠ [] := by
  cases k with
  | zero => omega
  | succ k =>
    intro e
    have h1 := congrArg List.length e
    have h2 := shortB_pos (nD xs (k + 1) - nD xs k - 1)
    simp only [bodyTo, List.length_append, List.length_nil] at h1
    omega

set_option maxHeartbeats 4000000 in
set_option maxRecDepth 100000 in
theorem refBody_any (a : Option Addr) (len cap : Nat) (xs : List Nat) (w : World) (h : Ils w a len (up xs)) (hr : RiseN xs) (hlen : len ≤ 1000) :
    Calls Try.prog 39 #[.slice a len cap] w (RbP w (body xs)) := by
  have HS0 : Hid (Bld w w w.heap.size none (.slice none 0 0) []) := hidn (Bld.start (v := .slice none 0 0) (World.ownsRow_nil _ _ _ _))
  have HI := hidn h
  have HLX : Hid (xs.length = len) := hidn (by rw [← up_len]; exact h.1)
  have HR := hidn hr
  clear h hr
  go_enter Try.func39, Try.ntmps39
  go_wp2_with fail
  go_loopw [3, 7] (fun bv iv wr => ∃ (k : Nat), iv = .int .i64 (k : Int) ∧ k ≤ len ∧ Hid (Bld w wr w.heap.size none bv (bodyTo xs (k - 1))) ∧ Hid (k ≤ 1 → bv = .slice none 0 0)) (fun _ iv _ => len - (intOf iv).toNat)
  case atStart => exact ⟨0, rfl, Nat.zero_le _, HS0, hidn (fun _ => rfl)⟩
  case round =>
    obtain ⟨k, rfl, hk, HB, HNV⟩ := hrel
    by_cases hlt : k < len
    · have hlt2 : (k : Int) < (len : Int) := by omega
      cases k with
      | zero =>
        go_wp2_with fail
        go_roundw
        case rel => exact ⟨1, by first | rfl | simp, by omega, HB, hidn (fun _ => HNV.out (by omega))⟩
        case measure => simp [intOf]; omega
      | succ k =>
        obtain ⟨b, off, e, hc0⟩ := (HI.out.below HB.out.bel).at (up_get (xs := xs) (i := k) (by rw [HLX.out]; omega))
        subst e
        obtain ⟨b2, off2, e2, hc1⟩ := (HI.out.below HB.out.bel).at (up_get (xs := xs) (i := k + 1) (by rw [HLX.out]; exact hlt))
        have e3 : b2 = b ∧ off2 = off := by cases e2; exact ⟨rfl, rfl⟩
        obtain ⟨rfl, rfl⟩ := e3
        clear e2
        have hrise := HR.out.2 k (by rw [HLX.out]; exact hlt)
        have hmax := HR.out.1 (k + 1) (by rw [HLX.out]; exact hlt)
        have hb : b2 < w.heap.size := by
          obtain ⟨b9, off9, e9, h9⟩ := HI.out.at (up_get (xs := xs) (i := k) (by rw [HLX.out]; omega))
          cases e9
          exact block_lt_of_cell h9
        obtain ⟨p, hp⟩ : ∃ p, p = nD xs k := ⟨_, rfl⟩
        obtain ⟨q, hq⟩ : ∃ q, q = nD xs (k + 1) := ⟨_, rfl⟩
        rw [← hp] at hc0 hrise
        rw [← hq] at hc1 hrise hmax
        obtain ⟨d, hd⟩ : ∃ d, d = q - p - 1 := ⟨_, rfl⟩
        have hdd : (q : Int) - (p : Int) - 1 = (d : Int) := by omega
        have hk1 : k < len := by omega
        have hk0 : (0 : Int) < (k : Int) + 1 := by omega
        have HD : Hid (bodyTo xs (k + 1 + 1 - 1) = bodyTo xs (k + 1 - 1) ++ shortB d) := hidn (by rw [hd, hp, hq]; rfl)
        have hbl : (bodyTo xs (k + 1 - 1)).length ≤ 10000 := by
          have := bodyTo_len xs HR.out (k + 1 - 1) (by rw [HLX.out]; omega)
          omega
        obtain ⟨ua, uc, e9⟩ := own_slice HB.out.own
        subst e9
        obtain ⟨L, hL⟩ : ∃ L, L = (bodyTo xs (k + 1 - 1)).length := ⟨_, rfl⟩
        rw [← hL] at HB ⊢
        have HPS := hidn (fun wx => refShort_any d wx (by omega))
        have hdq : d < 2147483648 := by omega
        have n1 : ¬ (k : Int) + 1 < 0 := by omega
        have n2 : IntKind.i64.wrap (k : Int) = (k : Int) := by rw [IntKind.wrap_i64]; omega
        have n3 : IntKind.i64.wrap ((q : Int) - (p : Int)) = (q : Int) - (p : Int) := by rw [IntKind.wrap_i64]; omega
        have n4 : IntKind.i64.wrap (d : Int) = (d : Int) := by rw [IntKind.wrap_i64]; omega
        have HLL := hidn hL
        have HRD : Hid (∀ w', Below w.heap.size w w' → w'.cell? ⟨b2, off2 + k, none⟩ = some (.int .i64 (p : Int)) ∧ w'.cell? ⟨b2, off2 + (k + 1), none⟩ = some (.int .i64 (q : Int))) := hidn (fun w' hb' => ⟨(hb'.cell (p := ⟨b2, off2 + k, none⟩) hb).trans ((HB.out.bel.cell (p := ⟨b2, off2 + k, none⟩) hb).symm.trans hc0), (hb'.cell (p := ⟨b2, off2 + (k + 1), none⟩) hb).trans ((HB.out.bel.cell (p := ⟨b2, off2 + (k + 1), none⟩) hb).symm.trans hc1)⟩)
        clear hp hq hd hL hrise
        go_wp2_with fail
        refine wp_region_noPanic ?_
        refine wp_region_held_drew (S := fun w' => Below w.heap.size w w') (by kernel_rfl) (HB.out.bel.trans ((Below.refl _ wr).drew)) (fun hHeld => ?_)
        refine drawn_take (i := 0) (v := .slice ua L uc) (some 12) rfl rfl (by kernel_rfl) (by kernel_rfl) (by kernel_rfl) (fun _ _ _ h => h) (Or.inl ⟨by kernel_rfl, fun wq hw => by go_simp⟩) hHeld ?_
        simp only [Act.put, List.setIfInBounds_toArray, List.set_cons_succ, List.set_cons_zero]
        refine drawn_take (i := 1) (v := .slice (some ⟨b2, off2, none⟩) len cap) (some 13) rfl rfl (by kernel_rfl) (by kernel_rfl) (by kernel_rfl) (fun _ _ _ h => h) (Or.inl ⟨by kernel_rfl, fun wq hw => by go_simp⟩) hHeld ?_
        simp only [Act.put, List.setIfInBounds_toArray, List.set_cons_succ, List.set_cons_zero]
        refine drawn_take (i := 2) (v := .int .i64 ((k : Int) + 1)) (some 14) rfl rfl (by kernel_rfl) (by kernel_rfl) (by kernel_rfl) (fun _ _ _ h => h) (Or.inl ⟨by kernel_rfl, fun wq hw => by go_simp⟩) hHeld ?_
        simp only [Act.put, List.setIfInBounds_toArray, List.set_cons_succ, List.set_cons_zero]
        refine drawn_take (i := 3) (v := .pointer (some ⟨b2, off2 + (k + 1), none⟩)) (some 15) rfl rfl (by kernel_rfl) (by kernel_rfl) (by kernel_rfl) (fun _ _ _ h => h) (Or.inl ⟨by kernel_rfl, fun wq hw => by go_simp⟩) hHeld ?_
        simp only [Act.put, List.setIfInBounds_toArray, List.set_cons_succ, List.set_cons_zero]
        refine drawn_take (i := 4) (v := .int .i64 (q : Int)) (some 16) rfl rfl (by kernel_rfl) (by kernel_rfl) (by kernel_rfl) (fun _ _ _ h => h) (Or.inl ⟨by kernel_rfl, fun wq hw => by have q9 := (HRD.out _ hw).2; go_simp⟩) hHeld ?_
        simp only [Act.put, List.setIfInBounds_toArray, List.set_cons_succ, List.set_cons_zero]
        refine drawn_take (i := 5) (v := .slice (some ⟨b2, off2, none⟩) len cap) (some 17) rfl rfl (by kernel_rfl) (by kernel_rfl) (by kernel_rfl) (fun _ _ _ h => h) (Or.inl ⟨by kernel_rfl, fun wq hw => by go_simp⟩) hHeld ?_
        simp only [Act.put, List.setIfInBounds_toArray, List.set_cons_succ, List.set_cons_zero]
        refine drawn_take (i := 6) (v := .int .i64 ((k : Int) + 1)) (some 18) rfl rfl (by kernel_rfl) (by kernel_rfl) (by kernel_rfl) (fun _ _ _ h => h) (Or.inl ⟨by kernel_rfl, fun wq hw => by go_simp⟩) hHeld ?_
        simp only [Act.put, List.setIfInBounds_toArray, List.set_cons_succ, List.set_cons_zero]
        refine drawn_take (i := 7) (v := .int .i64 (k : Int)) (some 19) rfl rfl (by kernel_rfl) (by kernel_rfl) (by kernel_rfl) (fun _ _ _ h => h) (Or.inl ⟨by kernel_rfl, fun wq hw => by go_simp⟩) hHeld ?_
        simp only [Act.put, List.setIfInBounds_toArray, List.set_cons_succ, List.set_cons_zero]
        refine drawn_take (i := 8) (v := .pointer (some ⟨b2, off2 + k, none⟩)) (some 20) rfl rfl (by kernel_rfl) (by kernel_rfl) (by kernel_rfl) (fun _ _ _ h => h) (Or.inl ⟨by kernel_rfl, fun wq hw => by go_simp⟩) hHeld ?_
        simp only [Act.put, List.setIfInBounds_toArray, List.set_cons_succ, List.set_cons_zero]
        refine drawn_take (i := 9) (v := .int .i64 (p : Int)) (some 21) rfl rfl (by kernel_rfl) (by kernel_rfl) (by kernel_rfl) (fun _ _ _ h => h) (Or.inl ⟨by kernel_rfl, fun wq hw => by have q9 := (HRD.out _ hw).1; go_simp⟩) hHeld ?_
        simp only [Act.put, List.setIfInBounds_toArray, List.set_cons_succ, List.set_cons_zero]
        refine drawn_take (i := 10) (v := .int .i64 ((q : Int) - (p : Int))) (some 22) rfl rfl (by kernel_rfl) (by kernel_rfl) (by kernel_rfl) (fun _ _ _ h => h) (Or.inl ⟨by kernel_rfl, fun wq hw => by go_simp⟩) hHeld ?_
        simp only [Act.put, List.setIfInBounds_toArray, List.set_cons_succ, List.set_cons_zero]
        refine drawn_take (i := 11) (v := .int .i64 (d : Int)) (some 23) rfl rfl (by kernel_rfl) (by kernel_rfl) (by kernel_rfl) (fun _ _ _ h => h) (Or.inl ⟨by kernel_rfl, fun wq hw => by go_simp⟩) hHeld ?_
        simp only [Act.put, List.setIfInBounds_toArray, List.set_cons_succ, List.set_cons_zero]
        refine wpAnyH_ready (rs := [12]) (by kernel_rfl) (by simp) ?_
        refine rdy_call (i := 12) rfl rfl (some 24) rfl 38 #[.int .i64 (d : Int)] (call1_run (x := 23) rfl (fun _ _ => rfl) (by kernel_rfl)) (fun r w9 => ∃ g c, r = .slice (some ⟨g, 0, none⟩) (shortB d).length c ∧ w9.ownsRow wr.drew.heap.size 5 1 (.slice (some ⟨g, 0, none⟩) (shortB d).length c) (shortB d).length (vb (shortB d)) ∧ Below wr.drew.heap.size wr.drew w9) ((HPS.out _).mono (by rintro e w9 ⟨g, c, rfl, h1, h2⟩; exact ⟨_, rfl, g, c, rfl, h1, h2⟩)) (fun r w9 hR => ?_) rdy_nil
        obtain ⟨g, c9, rfl, ho9, hb9⟩ := hR
        have hBd := HB.out.below (Nat.le_refl _) ((Below.refl _ wr).drew)
        have hB9 := hBd.below (Nat.le_refl _) hb9
        refine ⟨hB9.bel, fun hHeld => ?_⟩
        simp only [Act.put, List.setIfInBounds_toArray, List.set_cons_succ, List.set_cons_zero]
        have hs5 := shortB_len5 d (by omega)
        obtain ⟨g2, c2, w2, hr2, hb2, _⟩ := hB9.app (Nat.le_refl _) (shortB d) ⟨g, 0, none⟩ c9 (shortB_pos d) (by omega) (new_src ho9)
        rw [← HLL.out] at hr2 hb2
        have HB2 := hidn hb2
        refine wpAnyH_ready (rs := [13]) (by kernel_rfl) (by simp) ?_
        refine rdy_val (i := 13) rfl rfl (some 25) rfl (.slice (some ⟨g2, 0, none⟩) (L + (shortB d).length) c2) (w2) (appRun_exec (x := .tmp 12) (y := .tmp 24) (by kernel_rfl) (by kernel_rfl) (by kernel_rfl) hr2) (hb2.bel) (fun hHeld => ?_) rdy_nil
        simp only [Act.put, List.setIfInBounds_toArray, List.set_cons_succ, List.set_cons_zero]
        refine drawn_take (i := 14) (v := .slice (some ⟨g2, 0, none⟩) (L + (shortB d).length) c2) (some 3) rfl rfl (by kernel_rfl) (by kernel_rfl) (by kernel_rfl) (fun _ _ _ h => h) (Or.inl ⟨by kernel_rfl, fun wq hw => by go_simp⟩) hHeld ?_
        simp only [Act.put, List.setIfInBounds_toArray, List.set_cons_succ, List.set_cons_zero]
        refine wpAnyH_done (by kernel_rfl) ?_ _
        refine NoPanic.normal ?_
        clear hHeld
        go_wp2_with fail
        go_roundw
        case rel => exact ⟨k + 1 + 1, by first | rfl | simp, by omega, hidn (by rw [HD.out]; exact HB2.out), hidn (fun h => by omega)⟩
        case measure => simp [intOf]; omega
    · have hlt2 : ¬ (k : Int) < (len : Int) := by omega
      have HF : Hid (Bld w wr w.heap.size none u3 (body xs)) := hidn (by
        have e : body xs = bodyTo xs (k - 1) := by unfold body; rw [HLX.out, show len = k from by omega]
        rw [e]; exact HB.out)
      have HN0 : Hid (body xs = [] → u3 = .slice none 0 0) := hidn (fun h => by
        by_cases hk1 : k ≤ 1
        · exact HNV.out hk1
        · unfold body at h
          rw [HLX.out] at h
          exact absurd h (bodyTo_ne xs _ (by omega)))
      clear HB HNV
      go_wp2_with fail
      go_ret
      exact ⟨_, rfl, HF.out, HN0.out⟩
end Go.Proofs.Ythmknpdhgfmogaa
