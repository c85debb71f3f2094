/- The document's Read. -/
import Derived.Test.YteammmhlpinhfaaFkF
import Derived.Test.YteammmhlpinhfaaFkD
import Derived.Test.YteammmhlpinhfaaDrawn
namespace Go.Proofs.Yteammmhlpinhfaa
open Go.RowKit
set_option linter.unusedVariables false

/-- an append onto one row leaves a row of another type. -/
theorem fk_ownkeep {w w' : World} {base e size n : Nat} {v : Value} {xs : List Value} (h : w.ownsRow base e size v n xs) {base' e' size' n' : Nat} {v' : Value} {xs' : List Value} (h' : w.ownsRow base' e' size' v' n' xs') (hne : e ≠ e') (hg : w.grownBy w' v'.ownBlock) : w'.ownsRow base e size v n xs := by
  obtain ⟨hl, h1⟩ := h
  refine ⟨hl, ?_⟩
  rcases h1 with h1 | ⟨g, cap, cur, hv, hb, hh, r⟩
  · exact .inl h1
  · refine .inr ⟨g, cap, cur, hv, hb, ?_, r⟩
    rw [← hh]
    refine hg.block g (Array.getElem?_eq_some_iff.1 hh).1 (fun e0 => ?_)
    replace e0 := e0.symm
    rcases h'.2 with ⟨h2, _⟩ | ⟨g', cap', cur', hv', _, hh', _⟩
    · rw [h2] at e0; cases e0
    · rw [hv'] at e0
      cases e0
      rw [hh] at hh'
      simp at hh'
      exact hne hh'.2

theorem fk_blkkeep {w w' : World} {base e size n g : Nat} {v : Value} {xs : List Value} {cs : Array Value} {t : TypeId} {fz : Nat × Nat} (hq : w.heap[g]? = some (.cells cs t fz)) (h : w.ownsRow base e size v n xs) (hne : t ≠ e) (hg : w.grownBy w' v.ownBlock) : w'.heap[g]? = some (.cells cs t fz) := by
  rw [← hq]
  refine hg.block g (Array.getElem?_eq_some_iff.1 hq).1 (fun e0 => ?_)
  replace e0 := e0.symm
  rcases h.2 with ⟨h2, _⟩ | ⟨g', cap', cur', hv', _, hh', _⟩
  · rw [h2] at e0; cases e0
  · rw [hv'] at e0
    cases e0
    rw [hq] at hh'
    simp at hh'
    exact hne hh'.2.1

theorem fk_bs1 {o : Oper} {a : Act} {w : World} {x : Operand} {x0 x1 x2 x3 x4 x5 x6 : Int} (ho : o.op = Op.buildSlice 22 1 #[(0, x)]) (hx : a.eval x = .agg #[.int .i64 x0, .int .i64 x2, .int .i64 x3, .int .i64 x1, .int .i64 x5, .int .i64 x6, .int .i64 x4, .slice none 0 0]) : (execOp a.eval o).run Try.prog w = .ok (.value (.slice (some ⟨w.heap.size, 0, none⟩) 1 1)) (w.alloc (.cells #[.int .i64 x0, .int .i64 x2, .int .i64 x3, .int .i64 x1, .int .i64 x5, .int .i64 x6, .int .i64 x4, .slice none 0 0] 37)) := by
  have h : (Instr.buildSlice 22 1 #[(0, .agg #[.int .i64 x0, .int .i64 x2, .int .i64 x3, .int .i64 x1, .int .i64 x5, .int .i64 x6, .int .i64 x4, .slice none 0 0])]).run Try.prog w = .ok (.slice (some ⟨w.heap.size, 0, none⟩) 1 1) (w.alloc (.cells #[.int .i64 x0, .int .i64 x2, .int .i64 x3, .int .i64 x1, .int .i64 x5, .int .i64 x6, .int .i64 x4, .slice none 0 0] 37)) := by kernel_rfl
  simp [execOp, ho, hx, h, Result.andThen]

theorem fk_app_run {o : Oper} {a : Act} {w w' : World} {t u : TypeId} {x y : Operand} {vx vy v : Value} (ho : o.op = .call { callee := .builtin .append, args := #[x, y], argTypes := #[t, u] }) (hx : a.eval x = vx) (hy : a.eval y = vy) (hr : (Builtin.append_ #[t, u] o.type #[vx, vy]).run Try.prog w = .ok v w') : (execOp a.eval o).run Try.prog w = .ok (.value v) w' := by
  unfold execOp
  simp only [ho, resolve, invoke, builtin, Sem.run_bind, Sem.run_pure, Result.andThen_ok, List.map_toArray, List.map_cons, List.map_nil, hx, hy, hr]

theorem refRead_short (a : Option Addr) (len cap : Nat) (zs : List Nat) (w : World) (h : Bs w a len zs) (hlt : len < 4) :
    Calls Try.prog 9 #[.slice a len cap] w (ReadP w zs) := by
  have hno : manOk zs = false := by
    unfold manOk
    rw [h.1]
    simp
    omega
  have HNO := hidn hno
  have HI := hidn (refInt_short w a len cap 4 h.2.1 hlt)
  have hlt2 : (len : Int) < 4 := by omega
  clear h hno
  go_enter Try.func9, Try.ntmps9
  go_wp2_with fail
  refine HI.out.mono ?_
  rintro e w1 ⟨rfl, rfl⟩
  go_wp2_with fail
  go_ret2
  exact ⟨Below.refl _ _, .inr ⟨by rw [HNO.out]; rfl, rfl⟩⟩

theorem refRead_form (a : Option Addr) (len cap : Nat) (zs : List Nat) (w : World) (h : Bs w a len zs) (hc : len ≤ cap) (h4 : 4 ≤ len) (hno : manOk zs = false) :
    Calls Try.prog 9 #[.slice a len cap] w (ReadP w zs) := by
  have HNO := hidn hno
  have HI := hidn (refInt4 w w a len cap zs h (Below.refl _ _) h4 hc)
  have hnl := manN_lt h.lt (by rw [h.1]; exact h4)
  have HX : Hid (manN zs ≤ 1000 → len ≠ 4 + manN zs * 56) := hidn (fun e1 e2 => by
    have : manOk zs = true := by
      unfold manOk
      rw [h.1]
      simp
      omega
    rw [hno] at this
    cases this)
  obtain ⟨n, hn⟩ : ∃ n, n = manN zs := ⟨_, rfl⟩
  have hgn : getB 0 (zs.take 4) = n := by rw [hn]; rfl
  rw [hgn] at HI
  rw [← hn] at hnl HX
  have hcv : IntKind.i64.wrap (n : Int) = (n : Int) := by rw [IntKind.wrap_i64]; omega
  rw [hcv] at HI
  obtain ⟨m0, hm0⟩ : ∃ m0, len - 4 = m0 := ⟨_, rfl⟩
  rw [hm0] at HI
  have HM0 := hidn hm0
  have hmm : m0 ≤ 9223372036854775807 := by
    have := h.2.1
    unfold maxLen at this
    omega
  clear h hno hn hgn hcv hm0
  by_cases h1000 : n ≤ 1000
  · have hgt : ¬ ((1000 : Int) < (n : Int)) := by omega
    have hne : ((m0 : Int) != 56 * (n : Int)) = true := by
      have := HX.out h1000
      have := HM0.out
      simp
      omega
    go_enter Try.func9, Try.ntmps9
    go_wp2_with fail
    refine HI.out.mono ?_
    rintro e w1 ⟨a1, c1, rfl, hB1, hc1, b1⟩
    go_wp2_with fail
    go_ret2
    exact ⟨b1, .inr ⟨by rw [HNO.out]; rfl, rfl⟩⟩
  · have hgt : (1000 : Int) < (n : Int) := by omega
    go_enter Try.func9, Try.ntmps9
    go_wp2_with fail
    refine HI.out.mono ?_
    rintro e w1 ⟨a1, c1, rfl, hB1, hc1, b1⟩
    go_wp2_with fail
    go_ret2
    exact ⟨b1, .inr ⟨by rw [HNO.out]; rfl, rfl⟩⟩

def mNs (ws : List Nat) (j : Nat) : List Int := (List.range j).map (mN ws)
theorem mNs_succ (ws : List Nat) (j : Nat) : mNs ws (j + 1) = mNs ws j ++ [mN ws j] := by simp [mNs, List.range_succ]
theorem mNs_len (ws : List Nat) (j : Nat) : (mNs ws j).length = j := by simp [mNs]

set_option maxHeartbeats 4000000 in
set_option maxRecDepth 100000 in
theorem refRead_ok (a : Option Addr) (len cap : Nat) (zs : List Nat) (w : World) (h : Bs w a len zs) (hc : len ≤ cap) (hok : manOk zs = true) :
    Calls Try.prog 9 #[.slice a len cap] w (ReadP w zs) := by
  obtain ⟨i0, z0, hi, hz0, hz1, hz2, hzc⟩ := foInfo
  obtain ⟨i1, z1, hi1, hy0, hy1, hy2, hyc⟩ := iInfo
  have hok' := hok
  unfold manOk at hok'
  simp only [Bool.and_eq_true, decide_eq_true_eq] at hok'
  obtain ⟨⟨h4z, hn1000⟩, hlz⟩ := hok'
  rw [h.1] at h4z hlz
  have HOK := hidn hok
  have HI := hidn (refInt4 w w a len cap zs h (Below.refl _ _) h4z hc)
  obtain ⟨n, hn⟩ : ∃ n, n = manN zs := ⟨_, rfl⟩
  have hgn : getB 0 (zs.take 4) = n := by rw [hn]; rfl
  rw [hgn] at HI
  have HN := hidn hn
  rw [← hn] at hn1000 hlz
  have hcv : IntKind.i64.wrap (n : Int) = (n : Int) := by rw [IntKind.wrap_i64]; omega
  rw [hcv] at HI
  obtain ⟨ys, hys⟩ : ∃ ys, ys = zs.drop 4 := ⟨_, rfl⟩
  have HRL : Hid (readL zs = fosB ys n) := hidn (by rw [hys, hn]; rfl)
  rw [← hys] at HI
  obtain ⟨m0, hm0⟩ : ∃ m0, len - 4 = m0 := ⟨_, rfl⟩
  rw [hm0] at HI
  have HM0 : Hid (m0 = 56 * n) := hidn (by omega)
  have hgt : ¬ ((1000 : Int) < (n : Int)) := by omega
  have hne : ((m0 : Int) != 56 * (n : Int)) = false := by
    simp
    omega
  clear h hok hn hlz hm0 hys hcv hgn
  go_enter Try.func9, Try.ntmps9
  go_wp2_with fail
  refine HI.out.mono ?_
  clear HI
  rintro e w1 ⟨a1, c0, rfl, hB1, hc1, b1⟩
  have HB1 := hidn hB1
  have HC0 := hidn hc1
  have HBB1 := hidn b1
  clear hB1 hc1 b1
  go_wp2_with fail
  go_loopw [0, 6] (fun rv lv wr => ∃ (k m : Nat) (ra : Option Addr) (rc : Nat), k ≤ n ∧ rv = .slice ra m rc ∧ Hid (m = 56 * (n - k)) ∧ Hid (m ≤ rc) ∧ Hid (Bs w ra m (ys.drop (k * 56))) ∧ Hid (wr.ownsRow w1.heap.size 37 8 lv k (fvs (fosB ys k))) ∧ Hid (Below w1.heap.size w1 wr)) (fun rv _ _ => match rv with | .slice _ m _ => m | _ => 0)
  case atStart => exact ⟨0, m0, a1, c0, Nat.zero_le _, rfl, hidn (by rw [HM0.out, Nat.sub_zero]), HC0, hidn (by simpa using HB1.out), hidn (World.ownsRow_nil _ _ _ _), hidn (Below.refl _ _)⟩
  case round =>
    obtain ⟨wo, hwo⟩ : ∃ wo, wo = wr := ⟨wr, rfl⟩
    subst hwo
    obtain ⟨k, m, ra, rc, hk, rfl, HM, HRC, HBR, HO, HB⟩ := hrel
    by_cases hlt : k < n
    · have hmp : 0 < m := by have := HM.out; omega
      have hm56 : 56 ≤ m := by have := HM.out; omega
      have hmi : (0 : Int) < (m : Int) := by omega
      obtain ⟨ws, hws⟩ : ∃ ws, ws = ys.drop (k * 56) := ⟨_, rfl⟩
      rw [← hws] at HBR
      have HWS := hidn hws
      clear hws
      obtain ⟨mf, hmf⟩ : ∃ mf, mf = u6 := ⟨_, rfl⟩
      go_wp2_with fail
      go_loopw [0, 7, 33] (fun rv xv iv wr => ∃ (j q : Nat) (qa : Option Addr) (qc : Nat), j ≤ 7 ∧ iv = .int .i64 (j : Int) ∧ rv = .slice qa q qc ∧ Hid (q = m - 8 * j) ∧ Hid (q ≤ qc) ∧ Hid (Bs w qa q (ws.drop (j * 8))) ∧ Hid (wr.ownsRow wo.heap.size 3 1 xv j (ivs (mNs ws j))) ∧ Hid (wr.ownsRow w1.heap.size 37 8 u6 k (fvs (fosB ys k))) ∧ Hid (Below wo.heap.size wo wr) ∧ Hid (Below w1.heap.size w1 wr)) (fun _ _ iv _ => 7 - (intOf iv).toNat)
      case atStart => exact ⟨0, m, ra, rc, Nat.zero_le _, rfl, rfl, hidn (by omega), HRC, hidn (by simpa using HBR.out), hidn (World.ownsRow_nil _ _ _ _), HO, hidn (Below.refl _ _), HB⟩
      case round =>
        obtain ⟨j, q, qa, qc, hj, rfl, rfl, HQ, HQC, HBQ, HX, HO2, HW2, HB2⟩ := hrel
        by_cases hjl : j < 7
        · have hjl2 : (j : Int) < 7 := by omega
          have hq8 : 8 ≤ q := by have := HQ.out; omega
          have BW : Below w.heap.size w wr := HBB1.out.trans (HB2.out.mono HBB1.out.size)
          have HI8 := hidn (refInt8 w wr qa q qc (ws.drop (j * 8)) HBQ.out BW hq8 HQC.out)
          obtain ⟨x, hx⟩ : ∃ x, IntKind.i64.wrap ((getB 0 ((ws.drop (j * 8)).take 8) : Nat) : Int) = x := ⟨_, rfl⟩
          rw [hx, List.drop_drop] at HI8
          have HXJ : Hid (mNs ws (j + 1) = mNs ws j ++ [x]) := hidn (by rw [mNs_succ, ← hx]; rfl)
          obtain ⟨q2, hq2⟩ : ∃ q2, q - 8 = q2 := ⟨_, rfl⟩
          rw [hq2] at HI8
          have HQ2 : Hid (q2 = m - 8 * (j + 1)) := hidn (by have := HQ.out; omega)
          obtain ⟨va, vc, e9⟩ : ∃ va vc, u7 = Value.slice va j vc := by
            rcases HX.out.2 with ⟨h1, h2⟩ | ⟨g, cp, cur, h1, _⟩
            · exact ⟨none, 0, by rw [h1, h2]⟩
            · exact ⟨_, _, h1⟩
          clear hx hq2 BW
          go_wp2_with fail
          refine HI8.out.mono ?_
          clear HI8
          rintro e w2 ⟨qa2, qc2, rfl, hBq, hcq, b2⟩
          obtain ⟨wB, hwB⟩ : ∃ wB, wB = w2.alloc (.cells #[.int .i64 x] 3) := ⟨_, rfl⟩
          have bB : Below w2.heap.size w2 wB := by rw [hwB]; exact (Below.refl _ w2).alloc (Nat.le_refl _) _
          have qB : wB.heap[w2.heap.size]? = some (.cells #[.int .i64 x] 3 (0, 0)) := by rw [hwB]; exact heap_alloc_new w2 _
          have B2 := HB2.out.trans (b2.mono HB2.out.size)
          have BB := B2.trans (bB.mono B2.size)
          have W2 := HW2.out.trans (b2.mono HW2.out.size)
          have WB := W2.trans (bB.mono W2.size)
          have O2 := own_skip (own_skip HX.out b2) bB
          have F2 := own_skip (own_skip HO2.out b2) bB
          obtain ⟨v3, w3, hrun, hown3, hgr3⟩ := appAny wB wo.heap.size 35 35 3 i1 z1 1 8 Try.underlying35 hi1 hy0 hy1 hy2 hyc (by decide) u7 j (ivs (mNs ws j)) O2 WB.size (some ⟨w2.heap.size, 0, none⟩) 1 1 [.int .i64 x] rfl (fun e => by cases e) (fun x hx j u hu => by
            cases hx
            rw [add_none, Nat.zero_add, cell_of_row _ _ _ _ _ _ qB]
            simpa using hu) (fun u hu => by
            simp at hu
            rw [hu]
            rfl) (by unfold maxLen; omega) (by omega)
          have HB3 : Hid (Below w1.heap.size w1 w3) := hidn (BB.grown hgr3 BB.size (fun k hk => Nat.le_trans HB.out.size (O2.lt k hk).1))
          have HW3 : Hid (Below wo.heap.size wo w3) := hidn (WB.grown hgr3 WB.size (fun k hk => (O2.lt k hk).1))
          have HX3 : Hid (w3.ownsRow wo.heap.size 3 1 v3 (j + 1) (ivs (mNs ws (j + 1)))) := hidn (by
            rw [HXJ.out, ivs_append]
            exact hown3)
          have HF3 : Hid (w3.ownsRow w1.heap.size 37 8 u6 k (fvs (fosB ys k))) := hidn (fk_ownkeep F2 O2 (by decide) hgr3)
          have HRUN := hidn hrun
          have HWB := hidn hwB
          have HBQ2 : Hid (Bs w qa2 q2 (ws.drop ((j + 1) * 8))) := hidn (by rw [show (j + 1) * 8 = j * 8 + 8 from by omega]; exact hBq)
          have HQC2 := hidn hcq
          subst e9
          clear hrun hown3 hgr3 O2 F2 b2 bB qB hwB HX HO2 hBq hcq HBQ HXJ B2 BB W2 WB
          go_wp2_with (at_builtin; rw [← HWB.out]; refine wpList_app_runA rfl _ _ 35 35 rfl rfl _ _ _ rfl rfl HRUN.out ?_; clear HRUN)
          go_wp2_with fail
          exact ⟨⟨j + 1, q2, qa2, qc2, by omega, by simp, rfl, HQ2, HQC2, HBQ2, HX3, HF3, HW3, HB3⟩, by simp [intOf]; omega⟩
        · have hj7 : j = 7 := by omega
          have hjl2 : ¬ (j : Int) < 7 := by omega
          subst hj7
          have HX7 : Hid (wr.ownsRow wo.heap.size 3 1 u7 7 (ivs (mNs ws 7))) := HX
          obtain ⟨g, cap7, cur, hu7, hgb, hgh, hg7, hgc, hgs, hgt7⟩ : ∃ g cap7 cur, u7 = .slice (some ⟨g, 0, none⟩) 7 cap7 ∧ wo.heap.size ≤ g ∧ wr.heap[g]? = some (.cells cur 3 (0, 0)) ∧ 7 ≤ cap7 ∧ cap7 ≤ maxLen ∧ cur.size = cap7 * 1 ∧ cur.toList.take (7 * 1) = ivs (mNs ws 7) := by
            rcases HX.out.2 with ⟨_, h2⟩ | ⟨g, cp, cur, r1, r2, r3, r4, r5, r6, r7⟩
            · simp at h2
            · exact ⟨g, cp, cur, r1, r2, r3, r4, r5, r6, r7⟩
          have hcur : ∀ q, q < 7 → cur[q]? = some (.int .i64 (mN ws q)) := by
            intro q hq
            have e : (cur.toList.take (7 * 1))[q]? = some (.int .i64 (mN ws q)) := by
              rw [hgt7]
              simp [ivs, mNs, hq]
            rw [List.getElem?_take, if_pos (by omega)] at e
            simpa using e
          have hS : ∀ q, q < 7 → ∀ wq : World, wq.heap[g]? = some (.cells cur 3 (0, 0)) → wq.cell? ⟨g, q, none⟩ = some (.int .i64 (mN ws q)) := fun q hq wq hw => (cell_of_row _ _ _ _ _ _ hw).trans (hcur q hq)
          have hS0 := hS 0 (by omega)
          have hS1 := hS 1 (by omega)
          have hS2 := hS 2 (by omega)
          have hS3 := hS 3 (by omega)
          have hS4 := hS 4 (by omega)
          have hS5 := hS 5 (by omega)
          have hS6 := hS 6 (by omega)
          obtain ⟨x0, hx0⟩ : ∃ x, mN ws 0 = x := ⟨_, rfl⟩
          rw [hx0] at hS0
          obtain ⟨x1, hx1⟩ : ∃ x, mN ws 1 = x := ⟨_, rfl⟩
          rw [hx1] at hS1
          obtain ⟨x2, hx2⟩ : ∃ x, mN ws 2 = x := ⟨_, rfl⟩
          rw [hx2] at hS2
          obtain ⟨x3, hx3⟩ : ∃ x, mN ws 3 = x := ⟨_, rfl⟩
          rw [hx3] at hS3
          obtain ⟨x4, hx4⟩ : ∃ x, mN ws 4 = x := ⟨_, rfl⟩
          rw [hx4] at hS4
          obtain ⟨x5, hx5⟩ : ∃ x, mN ws 5 = x := ⟨_, rfl⟩
          rw [hx5] at hS5
          obtain ⟨x6, hx6⟩ : ∃ x, mN ws 6 = x := ⟨_, rfl⟩
          rw [hx6] at hS6
          have HFO : Hid (fosB ys (k + 1) = fosB ys k ++ [⟨x0, x2, x3, x1, x5, x6, x4, none, 0, 0, []⟩]) := hidn (by rw [fosB_succ, ← HWS.out, ← hx0, ← hx1, ← hx2, ← hx3, ← hx4, ← hx5, ← hx6]; rfl)
          obtain ⟨va, vc, e6⟩ : ∃ va vc, u6 = Value.slice va k vc := by
            rcases HO2.out.2 with ⟨h1, h2⟩ | ⟨g, cp, cur, h1, _⟩
            · exact ⟨none, 0, by rw [h1, h2]⟩
            · exact ⟨_, _, h1⟩
          obtain ⟨wB, hwB⟩ : ∃ wB, wB = wr.drew.alloc (.cells #[.int .i64 x0, .int .i64 x2, .int .i64 x3, .int .i64 x1, .int .i64 x5, .int .i64 x6, .int .i64 x4, .slice none 0 0] 37) := ⟨_, rfl⟩
          have bB : Below wr.heap.size wr wB := by rw [hwB]; exact (Below.refl wr.heap.size wr).drew.alloc (Nat.le_refl _) _
          have qB : wB.heap[wr.heap.size]? = some (.cells #[.int .i64 x0, .int .i64 x2, .int .i64 x3, .int .i64 x1, .int .i64 x5, .int .i64 x6, .int .i64 x4, .slice none 0 0] 37 (0, 0)) := by rw [hwB]; exact heap_alloc_new wr.drew _
          have BB := HB2.out.trans (bB.mono HB2.out.size)
          have F2 := own_skip HO2.out bB
          have gB := (bB.block g (Array.getElem?_eq_some_iff.1 hgh).1).trans hgh
          obtain ⟨v3, w3, hrun, hown3, hgr3⟩ := appAny wB w1.heap.size 22 22 37 i0 z0 8 80 Try.underlying22 hi hz0 hz1 hz2 hzc (by decide) u6 k (fvs (fosB ys k)) F2 BB.size (some ⟨wr.heap.size, 0, none⟩) 1 1 (Fo.cells ⟨x0, x2, x3, x1, x5, x6, x4, none, 0, 0, []⟩) rfl (fun e => by cases e) (fun x hx j u hu => by
            cases hx
            rw [add_none, Nat.zero_add, cell_of_row _ _ _ _ _ _ qB]
            simpa [Fo.cells] using hu) (fun u hu => by
            simp [Fo.cells] at hu
            rcases hu with rfl | rfl | rfl | rfl | rfl | rfl | rfl | rfl <;> rfl) (by unfold maxLen; omega) (by omega)
          have g3 := fk_blkkeep gB F2 (by decide) hgr3
          have HB3 : Hid (Below w1.heap.size w1 w3) := hidn (BB.grown hgr3 BB.size (fun k hk => (F2.lt k hk).1))
          have HO3 : Hid (w3.ownsRow w1.heap.size 37 8 v3 (k + 1) (fvs (fosB ys (k + 1)))) := hidn (by
            rw [HFO.out, fvs_append]
            exact hown3)
          have HRUN := hidn hrun
          have HQ7 : Hid (q = 56 * (n - (k + 1))) := hidn (by have := HQ.out; have := HM.out; omega)
          have HLT : Hid (q < m) := hidn (by have := HQ.out; omega)
          have HBQ7 : Hid (Bs w qa q (ys.drop ((k + 1) * 56))) := hidn (by
            have h9 := HBQ.out
            rw [HWS.out, List.drop_drop] at h9
            rw [show (k + 1) * 56 = k * 56 + 7 * 8 from by omega]
            exact h9)
          have HG0 := hidn hgh
          have HGB := hidn gB
          have HG3 := hidn g3
          have HWB := hidn hwB
          subst hu7
          clear hx0 hx1 hx2 hx3 hx4 hx5 hx6 hS hcur hrun hown3 hgr3 g3 F2 BB qB bB gB hwB HX7 HX HO2 HBQ hgt7 hgs hgh HB HW2
          go_wp2_with fail
          refine wp_region_noPanic ?_
          refine wp_region_held_drew (S := fun wq => wq.heap[g]? = some (.cells cur 3 (0, 0))) (by kernel_rfl) (HG0.out) (fun hHeld => ?_)
          refine drawn_take (i := 0) (v := u6) (some 47) rfl rfl (by kernel_rfl) (by kernel_rfl) (by kernel_rfl) (fun _ _ _ h => h) (Or.inl ⟨by kernel_rfl, fun wq hw => by go_simp⟩) hHeld ?_
          simp only [Act.put, List.setIfInBounds_toArray, List.set_cons_succ, List.set_cons_zero]
          refine drawn_take (i := 1) (v := .slice (some ⟨g, 0, none⟩) 7 cap7) (some 48) rfl rfl (by kernel_rfl) (by kernel_rfl) (by kernel_rfl) (fun _ _ _ h => h) (Or.inl ⟨by kernel_rfl, fun wq hw => by go_simp⟩) hHeld ?_
          simp only [Act.put, List.setIfInBounds_toArray, List.set_cons_succ, List.set_cons_zero]
          refine drawn_take (i := 2) (v := .pointer (some ⟨g, 0, none⟩)) (some 49) rfl rfl (by kernel_rfl) (by kernel_rfl) (by kernel_rfl) (fun _ _ _ h => h) (Or.inl ⟨by kernel_rfl, fun wq hw => by go_simp⟩) hHeld ?_
          simp only [Act.put, List.setIfInBounds_toArray, List.set_cons_succ, List.set_cons_zero]
          refine drawn_take (i := 3) (v := .int .i64 x0) (some 50) rfl rfl (by kernel_rfl) (by kernel_rfl) (by kernel_rfl) (fun _ _ _ h => h) (Or.inl ⟨by kernel_rfl, fun wq hw => by have q9 := hS0 wq hw; go_simp⟩) hHeld ?_
          simp only [Act.put, List.setIfInBounds_toArray, List.set_cons_succ, List.set_cons_zero]
          refine drawn_take (i := 4) (v := .slice (some ⟨g, 0, none⟩) 7 cap7) (some 51) rfl rfl (by kernel_rfl) (by kernel_rfl) (by kernel_rfl) (fun _ _ _ h => h) (Or.inl ⟨by kernel_rfl, fun wq hw => by go_simp⟩) hHeld ?_
          simp only [Act.put, List.setIfInBounds_toArray, List.set_cons_succ, List.set_cons_zero]
          refine drawn_take (i := 5) (v := .pointer (some ⟨g, 1, none⟩)) (some 52) rfl rfl (by kernel_rfl) (by kernel_rfl) (by kernel_rfl) (fun _ _ _ h => h) (Or.inl ⟨by kernel_rfl, fun wq hw => by go_simp⟩) hHeld ?_
          simp only [Act.put, List.setIfInBounds_toArray, List.set_cons_succ, List.set_cons_zero]
          refine drawn_take (i := 6) (v := .int .i64 x1) (some 53) rfl rfl (by kernel_rfl) (by kernel_rfl) (by kernel_rfl) (fun _ _ _ h => h) (Or.inl ⟨by kernel_rfl, fun wq hw => by have q9 := hS1 wq hw; go_simp⟩) hHeld ?_
          simp only [Act.put, List.setIfInBounds_toArray, List.set_cons_succ, List.set_cons_zero]
          refine drawn_take (i := 7) (v := .slice (some ⟨g, 0, none⟩) 7 cap7) (some 54) rfl rfl (by kernel_rfl) (by kernel_rfl) (by kernel_rfl) (fun _ _ _ h => h) (Or.inl ⟨by kernel_rfl, fun wq hw => by go_simp⟩) hHeld ?_
          simp only [Act.put, List.setIfInBounds_toArray, List.set_cons_succ, List.set_cons_zero]
          refine drawn_take (i := 8) (v := .pointer (some ⟨g, 2, none⟩)) (some 55) rfl rfl (by kernel_rfl) (by kernel_rfl) (by kernel_rfl) (fun _ _ _ h => h) (Or.inl ⟨by kernel_rfl, fun wq hw => by go_simp⟩) hHeld ?_
          simp only [Act.put, List.setIfInBounds_toArray, List.set_cons_succ, List.set_cons_zero]
          refine drawn_take (i := 9) (v := .int .i64 x2) (some 56) rfl rfl (by kernel_rfl) (by kernel_rfl) (by kernel_rfl) (fun _ _ _ h => h) (Or.inl ⟨by kernel_rfl, fun wq hw => by have q9 := hS2 wq hw; go_simp⟩) hHeld ?_
          simp only [Act.put, List.setIfInBounds_toArray, List.set_cons_succ, List.set_cons_zero]
          refine drawn_take (i := 10) (v := .slice (some ⟨g, 0, none⟩) 7 cap7) (some 57) rfl rfl (by kernel_rfl) (by kernel_rfl) (by kernel_rfl) (fun _ _ _ h => h) (Or.inl ⟨by kernel_rfl, fun wq hw => by go_simp⟩) hHeld ?_
          simp only [Act.put, List.setIfInBounds_toArray, List.set_cons_succ, List.set_cons_zero]
          refine drawn_take (i := 11) (v := .pointer (some ⟨g, 3, none⟩)) (some 58) rfl rfl (by kernel_rfl) (by kernel_rfl) (by kernel_rfl) (fun _ _ _ h => h) (Or.inl ⟨by kernel_rfl, fun wq hw => by go_simp⟩) hHeld ?_
          simp only [Act.put, List.setIfInBounds_toArray, List.set_cons_succ, List.set_cons_zero]
          refine drawn_take (i := 12) (v := .int .i64 x3) (some 59) rfl rfl (by kernel_rfl) (by kernel_rfl) (by kernel_rfl) (fun _ _ _ h => h) (Or.inl ⟨by kernel_rfl, fun wq hw => by have q9 := hS3 wq hw; go_simp⟩) hHeld ?_
          simp only [Act.put, List.setIfInBounds_toArray, List.set_cons_succ, List.set_cons_zero]
          refine drawn_take (i := 13) (v := .slice (some ⟨g, 0, none⟩) 7 cap7) (some 60) rfl rfl (by kernel_rfl) (by kernel_rfl) (by kernel_rfl) (fun _ _ _ h => h) (Or.inl ⟨by kernel_rfl, fun wq hw => by go_simp⟩) hHeld ?_
          simp only [Act.put, List.setIfInBounds_toArray, List.set_cons_succ, List.set_cons_zero]
          refine drawn_take (i := 14) (v := .pointer (some ⟨g, 4, none⟩)) (some 61) rfl rfl (by kernel_rfl) (by kernel_rfl) (by kernel_rfl) (fun _ _ _ h => h) (Or.inl ⟨by kernel_rfl, fun wq hw => by go_simp⟩) hHeld ?_
          simp only [Act.put, List.setIfInBounds_toArray, List.set_cons_succ, List.set_cons_zero]
          refine drawn_take (i := 15) (v := .int .i64 x4) (some 62) rfl rfl (by kernel_rfl) (by kernel_rfl) (by kernel_rfl) (fun _ _ _ h => h) (Or.inl ⟨by kernel_rfl, fun wq hw => by have q9 := hS4 wq hw; go_simp⟩) hHeld ?_
          simp only [Act.put, List.setIfInBounds_toArray, List.set_cons_succ, List.set_cons_zero]
          refine drawn_take (i := 16) (v := .slice (some ⟨g, 0, none⟩) 7 cap7) (some 63) rfl rfl (by kernel_rfl) (by kernel_rfl) (by kernel_rfl) (fun _ _ _ h => h) (Or.inl ⟨by kernel_rfl, fun wq hw => by go_simp⟩) hHeld ?_
          simp only [Act.put, List.setIfInBounds_toArray, List.set_cons_succ, List.set_cons_zero]
          refine drawn_take (i := 17) (v := .pointer (some ⟨g, 5, none⟩)) (some 64) rfl rfl (by kernel_rfl) (by kernel_rfl) (by kernel_rfl) (fun _ _ _ h => h) (Or.inl ⟨by kernel_rfl, fun wq hw => by go_simp⟩) hHeld ?_
          simp only [Act.put, List.setIfInBounds_toArray, List.set_cons_succ, List.set_cons_zero]
          refine drawn_take (i := 18) (v := .int .i64 x5) (some 65) rfl rfl (by kernel_rfl) (by kernel_rfl) (by kernel_rfl) (fun _ _ _ h => h) (Or.inl ⟨by kernel_rfl, fun wq hw => by have q9 := hS5 wq hw; go_simp⟩) hHeld ?_
          simp only [Act.put, List.setIfInBounds_toArray, List.set_cons_succ, List.set_cons_zero]
          refine drawn_take (i := 19) (v := .slice (some ⟨g, 0, none⟩) 7 cap7) (some 66) rfl rfl (by kernel_rfl) (by kernel_rfl) (by kernel_rfl) (fun _ _ _ h => h) (Or.inl ⟨by kernel_rfl, fun wq hw => by go_simp⟩) hHeld ?_
          simp only [Act.put, List.setIfInBounds_toArray, List.set_cons_succ, List.set_cons_zero]
          refine drawn_take (i := 20) (v := .pointer (some ⟨g, 6, none⟩)) (some 67) rfl rfl (by kernel_rfl) (by kernel_rfl) (by kernel_rfl) (fun _ _ _ h => h) (Or.inl ⟨by kernel_rfl, fun wq hw => by go_simp⟩) hHeld ?_
          simp only [Act.put, List.setIfInBounds_toArray, List.set_cons_succ, List.set_cons_zero]
          refine drawn_take (i := 21) (v := .int .i64 x6) (some 68) rfl rfl (by kernel_rfl) (by kernel_rfl) (by kernel_rfl) (fun _ _ _ h => h) (Or.inl ⟨by kernel_rfl, fun wq hw => by have q9 := hS6 wq hw; go_simp⟩) hHeld ?_
          simp only [Act.put, List.setIfInBounds_toArray, List.set_cons_succ, List.set_cons_zero]
          refine drawn_take (i := 22) (v := .agg #[.int .i64 x0, .int .i64 x2, .int .i64 x3, .int .i64 x1, .int .i64 x5, .int .i64 x6, .int .i64 x4, .slice none 0 0]) (some 69) rfl rfl (by kernel_rfl) (by kernel_rfl) (by kernel_rfl) (fun _ _ _ h => h) (Or.inl ⟨by kernel_rfl, fun wq hw => by simp only [execOp, Act.eval, Instr.build]; go_simp⟩) hHeld ?_
          simp only [Act.put, List.setIfInBounds_toArray, List.set_cons_succ, List.set_cons_zero]
          refine wpAnyH_ready (rs := [23]) (by kernel_rfl) (by simp) ?_
          refine rdy_val (i := 23) rfl rfl (some 70) rfl (.slice (some ⟨wr.heap.size, 0, none⟩) 1 1) (wB) (by rw [HWB.out]; exact fk_bs1 rfl rfl) (HGB.out) (fun hHeld => ?_) rdy_nil
          simp only [Act.put, List.setIfInBounds_toArray, List.set_cons_succ, List.set_cons_zero]
          refine wpAnyH_ready (rs := [24]) (by kernel_rfl) (by simp) ?_
          refine rdy_val (i := 24) rfl rfl (some 71) rfl (v3) (w3) (fk_app_run rfl rfl rfl HRUN.out) (HG3.out) (fun hHeld => ?_) rdy_nil
          simp only [Act.put, List.setIfInBounds_toArray, List.set_cons_succ, List.set_cons_zero]
          refine drawn_take (i := 25) (v := v3) (some 6) rfl rfl (by kernel_rfl) (by kernel_rfl) (by kernel_rfl) (fun _ _ _ h => h) (Or.inl ⟨by kernel_rfl, fun wq hw => by go_simp⟩) hHeld ?_
          simp only [Act.put, List.setIfInBounds_toArray, List.set_cons_succ, List.set_cons_zero]
          refine wpAnyH_done (by kernel_rfl) ?_ _
          refine NoPanic.normal ?_
          clear hHeld
          go_wp2_with fail
          exact ⟨⟨k + 1, q, qa, qc, by omega, rfl, HQ7, HQC, HBQ7, HO3, HB3⟩, by simpa using HLT.out⟩
    · have hk2 : k = n := by omega
      have hm0 : m = 0 := by have := HM.out; omega
      have hmi : ¬ ((0 : Int) < (m : Int)) := by omega
      subst hk2
      have HO2 : Hid (wo.ownsRow w1.heap.size 37 8 u6 (readL zs).length (fvs (readL zs))) := hidn (by rw [HRL.out, fosB_length]; exact HO.out)
      obtain ⟨va, vc, e9, hF, hcv2⟩ := fls_of_own HO2.out (by rw [HRL.out]; exact fosB_ils ys k wo)
      have HLN : Hid ((readL zs).length = k) := hidn (by rw [HRL.out, fosB_length])
      rw [HLN.out] at e9 hF hcv2
      have HCA := hidn (refCan_any va k vc (readL zs) wo hF (by omega) hcv2)
      obtain ⟨p, hp⟩ : ∃ p, p = pcL (readL zs) := ⟨_, rfl⟩
      rw [← hp] at HCA
      have HP := hidn hp
      subst e9
      clear hp hF hm0
      go_wp2_with fail
      refine HCA.out.mono ?_
      clear HCA
      rintro e w4 ⟨rfl, b4⟩
      have B4 := HB.out.trans (b4.mono HB.out.size)
      have B5 := HBB1.out.trans (B4.mono HBB1.out.size)
      have O4 := own_lower (own_skip HO.out b4) HBB1.out.size
      cases p with
      | true =>
        go_wp2_with fail
        go_ret2
        exact ⟨B5, .inl ⟨HOK.out, HP.out.symm, _, rfl, by rw [HRL.out, ← HN.out]; exact O4⟩⟩
      | false =>
        go_wp2_with fail
        go_ret2
        exact ⟨B5, .inr ⟨by rw [← HP.out, Bool.and_false], rfl⟩⟩

theorem refRead_any (a : Option Addr) (len cap : Nat) (zs : List Nat) (w : World) (h : Bs w a len zs) (hc : len ≤ cap) :
    Calls Try.prog 9 #[.slice a len cap] w (ReadP w zs) := by
  by_cases h4 : len < 4
  · exact refRead_short a len cap zs w h h4
  · cases hok : manOk zs with
    | true => exact refRead_ok a len cap zs w h hc hok
    | false => exact refRead_form a len cap zs w h hc (by omega) hok

end Go.Proofs.Yteammmhlpinhfaa
