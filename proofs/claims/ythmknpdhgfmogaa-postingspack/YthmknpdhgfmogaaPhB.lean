/- postings: the document's Pack. -/
import Derived.Test.YthmknpdhgfmogaaPhA
namespace Go.Proofs.Ythmknpdhgfmogaa
open Go.RowKit Go.Joins
set_option linter.unusedVariables false

/-- The rows of the document's Pack. -/
structure PkT (w : World) (h b z : List Nat) (W : World) (vh vs vz : Value) : Prop where
  oh : W.ownsRow w.heap.size 5 1 vh h.length (vb h)
  os : W.ownsRow w.heap.size 5 1 vs b.length (vb b)
  oz : W.ownsRow w.heap.size 5 1 vz z.length (vb z)
  hs : ∀ k, vh.ownBlock = some k → vs.ownBlock ≠ some k
  hz : ∀ k, vh.ownBlock = some k → vz.ownBlock ≠ some k
  sz : ∀ k, vs.ownBlock = some k → vz.ownBlock ≠ some k
  bl : Below w.heap.size w W

section
variable {w W W2 : World} {h b z : List Nat} {vh vs vz : Value}

theorem PkT.below (x : PkT w h b z W vh vs vz) (hb : Below W.heap.size W W2) : PkT w h b z W2 vh vs vz :=
  ⟨own_skip x.oh hb, own_skip x.os hb, own_skip x.oz hb, x.hs, x.hz, x.sz, x.bl.trans (hb.mono x.bl.size)⟩

theorem PkT.new (x : PkT w h b z W vh vs vz) {z' : List Nat} {vz' : Value} (k : Bld W W2 W.heap.size none vz' z') : PkT w h b z' W2 vh vs vz' := by
  have hb : Below W.heap.size W W2 := k.bel
  have ho : W2.ownsRow w.heap.size 5 1 vz' z'.length (vb z') := by
    refine ⟨k.own.1, ?_⟩
    rcases k.own.2 with hn | ⟨g, cap, cur, e, hbb, rest⟩
    · exact .inl hn
    · exact .inr ⟨g, cap, cur, e, Nat.le_trans x.bl.size hbb, rest⟩
  refine ⟨own_skip x.oh hb, own_skip x.os hb, ho, x.hs, fun j e e2 => ?_, fun j e e2 => ?_, x.bl.trans (hb.mono x.bl.size)⟩
  · have h1 := (x.oh.lt j e).2
    have h2 := (k.own.lt j e2).1
    omega
  · have h1 := (x.os.lt j e).2
    have h2 := (k.own.lt j e2).1
    omega

theorem PkT.appH (x : PkT w h b z W vh vs vz) (ys : List Nat) (ad : Addr) (c : Nat) (hm : 0 < ys.length) (hn : h.length + ys.length ≤ 100000000000000)
    (hc : ∀ j u, (vb ys)[j]? = some u → W.cell? (ad.add j) = some u) :
    ∃ g c' W', (Builtin.append_ #[23, 23] 23 #[vh, .slice (some ad) ys.length c]).run Try.prog W = .ok (.slice (some ⟨g, 0, none⟩) (h.length + ys.length) c') W' ∧ PkT w (h ++ ys) b z W' (.slice (some ⟨g, 0, none⟩) (h.length + ys.length) c') vs vz := by
  obtain ⟨g, c', W', hr, hb, hsz, hkp, hg⟩ := (Bld.start x.oh).app x.bl.size ys ad c hm hn hc
  refine ⟨g, c', W', hr, by have q := hb.own; rw [List.length_append] at q ⊢; exact q, own_stay x.os (fun k e => hkp k (x.os.lt k e).2 (fun e2 => x.hs k e2.symm e)), own_stay x.oz (fun k e => hkp k (x.oz.lt k e).2 (fun e2 => x.hz k e2.symm e)), fun k e e2 => ?_, fun k e e2 => ?_, x.sz, x.bl.trans hb.bel⟩
  · cases e
    rcases hg with h1 | h1
    · exact x.hs g h1 e2
    · have := (x.os.lt g e2).2; omega
  · cases e
    rcases hg with h1 | h1
    · exact x.hz g h1 e2
    · have := (x.oz.lt g e2).2; omega

theorem PkT.appS (x : PkT w h b z W vh vs vz) (hn : b.length + z.length ≤ 100000000000000) (hz0 : z = [] → vz = .slice none 0 0) :
    ∃ v' W', (Builtin.append_ #[23, 23] 23 #[vs, vz]).run Try.prog W = .ok v' W' ∧ PkT w h (b ++ z) z W' vh v' vz := by
  by_cases he : z = []
  · have e := hz0 he
    subst he e
    obtain ⟨i0, hi, hz0', hz1, hz2⟩ := info_parts Try.info5
    refine ⟨vs, W, app_noneA w.heap.size 23 23 5 i0 1 Try.underlying23 hi vs b.length 0 (vb b) x.os, ?_⟩
    rw [List.append_nil]
    exact x
  · have hp : 0 < z.length := List.length_pos_iff.2 he
    obtain ⟨gz, cz, rfl⟩ : ∃ gz cz, vz = .slice (some ⟨gz, 0, none⟩) z.length cz := by
      rcases x.oz.2 with ⟨_, h0⟩ | ⟨g, cap, cur, e, _⟩
      · omega
      · exact ⟨g, cap, e⟩
    obtain ⟨g, c', W', hr, hb, hsz, hkp, hg⟩ := (Bld.start x.os).app x.bl.size z ⟨gz, 0, none⟩ cz hp hn (new_src x.oz)
    refine ⟨_, W', hr, own_stay x.oh (fun k e => hkp k (x.oh.lt k e).2 (fun e2 => x.hs k e e2.symm)), by have q := hb.own; rw [List.length_append] at q ⊢; exact q, own_stay x.oz (fun k e => hkp k (x.oz.lt k e).2 (fun e2 => x.sz k e2.symm e)), fun k e e2 => ?_, x.hz, fun k e e2 => ?_, x.bl.trans hb.bel⟩
    · cases e2
      rcases hg with h1 | h1
      · exact x.hs _ e h1
      · have h2 : g < W.heap.size := (x.oh.lt _ e).2
        omega
    · cases e
      rcases hg with h1 | h1
      · exact x.sz _ h1 e2
      · have h2 : g < W.heap.size := (x.oz.lt _ e2).2
        omega

theorem PkT.drop (x : PkT w h b z W vh vs vz) : PkT w h b [] W vh vs (.slice none 0 0) :=
  ⟨x.oh, x.os, World.ownsRow_nil _ _ _ _, x.hs, fun _ _ e => (by cases e), fun _ _ e => (by cases e), x.bl⟩
end

set_option maxHeartbeats 1000000 in
theorem refPack_no (a : Option Addr) (len cap : Nat) (zs : List Int) (w : World) (h : Ils w a len zs) (hc : canP zs = false) :
    Calls Try.prog 13 #[.slice a len cap] w fun e w' => e = .returned (.tuple #[.slice none 0 0, .int .i64 1]) ∧ Below w.heap.size w w' := by
  have HC := hidn (refCan_any a len cap zs w h)
  rw [hc] at HC
  clear h hc
  go_enter Try.func13, Try.ntmps13
  go_wp2_with fail
  refine HC.out.mono ?_
  rintro e w1 ⟨rfl, rfl⟩
  go_wp2_with fail
  go_ret2
  exact ⟨rfl, Below.refl _ _⟩

set_option maxHeartbeats 8000000 in
set_option maxRecDepth 100000 in
theorem refPack_yes (a : Option Addr) (len cap : Nat) (xs : List Nat) (w : World) (h : Ils w a len (up xs)) (hr : RiseN xs) (hcan : canP (up xs) = true) (hcap : len ≤ cap) (hlm : len ≤ 100000) :
    Calls Try.prog 13 #[.slice a len cap] w fun e w' => Below w.heap.size w w' ∧ ∃ v, e = .returned (.tuple #[v, .int .i64 0]) ∧ w'.ownsRow w.heap.size 5 1 v (packB xs).length (vb (packB xs)) := by
  have HC := hidn (refCan_any a len cap (up xs) w h)
  rw [hcan] at HC
  have HXL : Hid (xs.length = len) := hidn (by rw [← up_len]; exact h.1)
  have HS0 := hidn (refShort_any len w (by omega))
  have HI := hidn h
  have HR := hidn hr
  clear h hr hcan
  go_enter Try.func13, Try.ntmps13
  go_wp2_with fail
  refine HC.out.mono ?_
  rintro e w0 ⟨rfl, hw0⟩
  subst hw0
  go_wp2_with fail
  refine HS0.out.mono ?_
  rintro e w1 ⟨g1, c1, rfl, ho1, hb1⟩
  have HX0 : Hid (PkT w0 (hdTo xs 0) (bdTo xs 0) [] w1 (.slice (some ⟨g1, 0, none⟩) (shortB len).length c1) (.slice none 0 0) (.slice none 0 0)) := hidn ⟨by show w1.ownsRow _ _ _ _ (shortB xs.length).length (vb (shortB xs.length)); rw [HXL.out]; exact ho1, World.ownsRow_nil _ _ _ _, World.ownsRow_nil _ _ _ _, fun _ _ e => (by cases e), fun _ _ e => (by cases e), fun _ e => (by cases e), hb1⟩
  have HL0 : Hid ((hdTo xs 0).length = (shortB len).length) := hidn (by show (shortB xs.length).length = _; rw [HXL.out])
  obtain ⟨L0, hL0⟩ : ∃ L0, L0 = (shortB len).length := ⟨_, rfl⟩
  rw [← hL0] at HX0 HL0 ⊢
  clear ho1 hb1 hL0
  go_wp2_with fail
  go_loopw [4, 5, 6, 7] (fun hv bv lv iv wr => ∃ (k fr la ha hc lh ls cs : Nat) (ah as' : Option Addr), Hid (fr = 8 * k) ∧ fr < len + 8 ∧ iv = .int .i64 (fr : Int) ∧ lv = .int .i64 (la : Int) ∧ Hid (la = prevN xs k) ∧ la ≤ 2147483647 ∧ hv = .slice ah lh hc ∧ bv = .slice as' ls cs ∧ Hid (lh = (hdTo xs k).length) ∧ Hid (ls = (bdTo xs k).length) ∧ ha = 0 ∧ Hid (PkT w0 (hdTo xs k) (bdTo xs k) [] wr (.slice ah lh hc) (.slice as' ls cs) (.slice none 0 0))) (fun _ _ _ iv _ => len + 8 - (intOf iv).toNat)
  case atStart => exact ⟨0, 0, 0, 0, c1, L0, 0, 0, some ⟨g1, 0, none⟩, none, hidn rfl, by omega, rfl, rfl, hidn rfl, by omega, rfl, rfl, hidn HL0.out.symm, hidn rfl, rfl, HX0⟩
  case round =>
    obtain ⟨k, fr, la, _, hc, lh, ls, cs, ah, as', HFR, hfr, rfl, rfl, HLA, hla, rfl, rfl, HLH, HLS, _, HX⟩ := hrel
    by_cases hlt : fr < len
    · have hlt2 : (fr : Int) < (len : Int) := by omega
      have hk8 : 8 * k < xs.length := by rw [HXL.out, ← HFR.out]; exact hlt
      obtain ⟨b, off, ea, hcell0⟩ := HI.out.at (up_get (xs := xs) (i := 8 * k) hk8)
      subst ea
      have hbw : b < w0.heap.size := block_lt_of_cell hcell0
      obtain ⟨f0, hf0⟩ : ∃ f0, f0 = nD xs (8 * k) := ⟨_, rfl⟩
      have hf0m : f0 ≤ 2147483647 := by rw [hf0]; exact HR.out.1 _ hk8
      have hlf : la ≤ f0 := by rw [hf0, HLA.out]; exact prevN_le HR.out k hk8
      obtain ⟨d, hd⟩ : ∃ d, d = f0 - la := ⟨_, rfl⟩
      have hdd : (f0 : Int) - (la : Int) = (d : Int) := by omega
      rw [← hf0] at hcell0
      rw [← HFR.out] at hcell0
      have HRD : Hid (∀ w', Below w0.heap.size w0 w' → w'.cell? ⟨b, off + fr, none⟩ = some (.int .i64 (f0 : Int))) := hidn (fun w' hb' => (hb'.cell (p := ⟨b, off + fr, none⟩) hbw).trans hcell0)
      have hpt := ptAt_ok (B := w0.heap.size) (w := w0) (b := b) (off := off) (len := len) (zs := xs) ⟨HI.out, fun _ b' o' s' e => by cases e; exact hbw⟩ HR.out k (by rw [← HFR.out]; exact hlt)
      have hIb : Ils w0 (some ⟨b, off + 8 * k, none⟩) (min 8 (xs.length - 8 * k)) (up (blk xs k)) := hpt.1.1
      obtain ⟨en, hen⟩ : ∃ en : Nat, en = min (fr + 8) len := ⟨_, rfl⟩
      have e1 : min 8 (xs.length - 8 * k) = en - fr := by rw [HXL.out, ← HFR.out]; omega
      rw [e1, ← HFR.out] at hIb
      have m1 : min ((fr : Int) + 8) (len : Int) = (en : Int) := by omega
      have m2 : (if (len : Int) < (fr : Int) + 8 then (len : Int) else (fr : Int) + 8) = (en : Int) := by split <;> omega
      have m3 : (if len < fr + 8 then (len : Int) else (fr : Int) + 8) = (en : Int) := by split <;> omega
      have t1 : (fr : Int) ≤ (en : Int) := by omega
      have t2 : (en : Int) ≤ (cap : Int) := by omega
      have t3 : fr ≤ en := by omega
      have t4 : en ≤ cap := by omega
      have t5 : ¬ cap = fr := by omega
      have HBO := hidn (fun wx (hx : Below w0.heap.size w0 wx) => refBody_any (some ⟨b, off + fr, none⟩) (en - fr) (cap - fr) (blk xs k) wx (by
        obtain ⟨q1, q2, q3, q4⟩ := hIb
        refine ⟨q1, q2, q3, fun x hx2 j y hj => ?_⟩
        cases hx2
        have := q4 _ rfl j y hj
        exact (hx.cell (p := Addr.add ⟨b, off + fr, none⟩ j) (by unfold Addr.add; split <;> exact hbw)).trans this) (blk_rise HR.out k) (by omega))
      have hb40 := body_len40 HR.out k
      have HD : Hid (hdTo xs (k + 1) = hdTo xs k ++ shortB d ++ shortB (body (blk xs k)).length) := hidn (by rw [hd, hf0, HLA.out]; rfl)
      have HHL := hidn (hdTo_len HR.out (by rw [HXL.out]; exact hlm) k (by have := HXL.out; have := HFR.out; unfold nblk; omega))
      have HBL := hidn (bdTo_len HR.out k)
      have HF0 := hidn hf0
      have HK : Hid (k ≤ 12500) := hidn (by have := HFR.out; omega)
      have hdq : d < 34359738368 := by omega
      have hlh : lh ≤ 200000 := by have q1 := HLH.out; have q2 := HHL.out; have q3 := HK.out; omega
      have hls : ls ≤ 600000 := by have q1 := HLS.out; have q2 := HBL.out; have q3 := HK.out; omega
      have HSD := hidn (fun wx => refShort_any d wx hdq)
      have HEN := hidn hen
      clear hcell0 hpt hIb hd hf0 hk8 hen e1 hlf
      go_wp2_with fail
      refine (HBO.out wr HX.out.bl).mono ?_
      rintro e W1 ⟨v8, rfl, k8, hn8⟩
      have HX1 := hidn (HX.out.new k8)
      obtain ⟨a8, c8, e8⟩ := own_slice k8.own
      subst e8
      obtain ⟨L8, hL8⟩ : ∃ L8, L8 = (body (blk xs k)).length := ⟨_, rfl⟩
      rw [← hL8] at HX1 hb40 hn8 ⊢
      have HL8 := hidn hL8
      have HN8 := hidn hn8
      have hcx1 := HRD.out _ HX1.out.bl
      clear m1 m2 m3 k8 hL8 hn8
      go_wp2_with fail
      refine (HSD.out W1).mono ?_
      rintro e W2 ⟨g2, c2, rfl, ho2, hb2⟩
      have hx2 := HX1.out.below hb2
      have hs5 := shortB_len5 d hdq
      obtain ⟨g3, c3, W3, hr3, hx3⟩ := hx2.appH (shortB d) ⟨g2, 0, none⟩ c2 (shortB_pos d) (by rw [← HLH.out]; omega) (new_src ho2)
      rw [← HLH.out] at hr3 hx3
      obtain ⟨sd, hsd⟩ : ∃ sd, sd = (shortB d).length := ⟨_, rfl⟩
      rw [← hsd] at hr3 hx3 hs5 ⊢
      have HSDL := hidn hsd
      have HR3 := hidn hr3
      have HX3 := hidn hx3
      have HS8 := hidn (refShort_any L8 W3 (by omega))
      clear ho2 hb2 hx2 hr3 hx3 hsd hcx1
      go_wp2_with (at_builtin; refine wpList_app_run2 rfl _ _ 23 23 rfl rfl _ _ _ rfl rfl HR3.out ?_; clear HR3)
      refine HS8.out.mono ?_
      rintro e W4 ⟨g4, c4, rfl, ho4, hb4⟩
      have hx4 := HX3.out.below hb4
      have hs8 := shortB_len5 L8 (by omega)
      obtain ⟨g5, c5, W5, hr5, hx5⟩ := hx4.appH (shortB L8) ⟨g4, 0, none⟩ c4 (shortB_pos L8) (by rw [List.length_append, ← HLH.out, ← HSDL.out]; omega) (new_src ho4)
      rw [List.length_append, ← HLH.out, ← HSDL.out] at hr5 hx5
      obtain ⟨s8, hs8e⟩ : ∃ s8, s8 = (shortB L8).length := ⟨_, rfl⟩
      rw [← hs8e] at hr5 hx5 hs8 ⊢
      have HS8L := hidn hs8e
      have HR5 := hidn hr5
      rw [HL8.out, ← HD.out] at hx5
      rw [← HL8.out] at hx5
      have hx5' := hx5
      obtain ⟨v9, W6, hr6, hx6⟩ := hx5.appS (by rw [← HLS.out, ← HL8.out]; omega) (fun h => HN8.out h)
      obtain ⟨a9, c9, e9⟩ := own_slice hx6.os
      subst e9
      have hcx6 := HRD.out _ hx6.bl
      have HLS9 : Hid ((bdTo xs k ++ body (blk xs k)).length = ls + L8) := hidn (by rw [List.length_append, ← HLS.out, ← HL8.out])
      rw [HLS9.out] at hr6 hx6
      have HR6 := hidn hr6
      have HX6 := hidn hx6.drop
      have HLH9 : Hid (lh + sd + s8 = (hdTo xs (k + 1)).length) := hidn (by rw [HD.out, List.length_append, List.length_append, ← HLH.out, ← HSDL.out, ← HL8.out, ← HS8L.out])
      clear ho4 hb4 hx4 hr5 hx5 hx5' hr6 hx6 hs8e
      go_wp2_with (at_builtin; first | (refine wpList_app_run2 rfl _ _ 23 23 rfl rfl _ _ _ rfl rfl HR5.out ?_; clear HR5) | (refine wpList_app_run2 rfl _ _ 23 23 rfl rfl _ _ _ rfl rfl HR6.out ?_; clear HR6))
      go_roundw
      case rel =>
        exact ⟨k + 1, fr + 8, f0, 0, c5, lh + sd + s8, ls + L8, c9, some ⟨g5, 0, none⟩, a9, hidn (by have := HFR.out; omega), by omega, by first | rfl | simp, by first | rfl | simp, hidn HF0.out, by omega, rfl, rfl, HLH9, hidn HLS9.out.symm, rfl, HX6⟩
      case measure => simp [intOf]; omega
    · have hlt2 : ¬ (fr : Int) < (len : Int) := by omega
      have HKE : Hid (k = nblk xs) := hidn (by unfold nblk; rw [HXL.out]; have := HFR.out; omega)
      have hhl := hdTo_len HR.out (by rw [HXL.out]; exact hlm) (nblk xs) (Nat.le_refl _)
      have hbl := bdTo_len HR.out (nblk xs)
      have hnb : nblk xs ≤ 12501 := by unfold nblk; rw [HXL.out]; omega
      have HX2 := HX.out
      rw [HKE.out] at HX2
      obtain ⟨hd, hhd⟩ : ∃ hd, hd = hdTo xs (nblk xs) := ⟨_, rfl⟩
      obtain ⟨bd, hbd⟩ : ∃ bd, bd = bdTo xs (nblk xs) := ⟨_, rfl⟩
      have hpk : packB xs = hd ++ bd := by rw [hhd, hbd]; rfl
      rw [← hhd] at HX2 hhl
      rw [← hbd] at HX2 hbl
      have hlh2 : hd.length = lh := by rw [hhd, HLH.out, HKE.out]
      have hls2 : bd.length = ls := by rw [hbd, HLS.out, HKE.out]
      obtain ⟨i0, hi, hz0, hz1, hz2⟩ := info_parts Try.info5
      have hoh := HX2.oh
      have hos := HX2.os
      rw [hlh2] at hoh
      rw [hls2] at hos
      obtain ⟨v9, W9, hrun, hown, hgr⟩ := appAny (P := Try.prog) wr w0.heap.size 23 23 5 i0 (.int .u8 0) 1 1 Try.underlying23 hi hz0 hz1 hz2 rfl (by decide) (.slice ah lh hc) lh (vb hd) hoh HX2.bl.size as' ls cs (vb bd) (by simp [vb, hls2]) (fun e => by
        subst e
        rcases hos.2 with ⟨_, e⟩ | ⟨g, _, _, e, _⟩
        · exact e
        · cases e) (fun x hx j u hj => by
        subst hx
        obtain ⟨xg, xo2, xs2⟩ := x
        have e : xo2 = 0 ∧ xs2 = none := by
          rcases hos.2 with ⟨e, _⟩ | ⟨g, _, _, e, _⟩
          · cases e
          · cases e; exact ⟨rfl, rfl⟩
        obtain ⟨rfl, rfl⟩ := e
        exact hos.cells (g := xg) rfl j u hj) (vb_cell bd) (by unfold maxLen; omega) (by omega)
      have hb9 : Below w0.heap.size w0 W9 := HX2.bl.grown hgr HX2.bl.size (fun k hk => (hoh.lt k hk).1)
      have HF : Hid (W9.ownsRow w0.heap.size 5 1 v9 (packB xs).length (vb (packB xs))) := hidn (by rw [hpk, vb_app, List.length_append, hlh2, hls2]; exact hown)
      have HRUN := hidn hrun
      have HB9 := hidn hb9
      clear hhd hbd hrun hown hgr hb9 HX2 hpk hhl hbl hoh hos hlh2 hls2
      go_wp2_with (at_builtin; refine wpList_app_runA rfl _ _ 23 23 rfl rfl _ _ _ rfl rfl HRUN.out ?_; clear HRUN)
      go_ret2
      exact ⟨HB9.out, _, rfl, HF.out⟩
end Go.Proofs.Ythmknpdhgfmogaa
