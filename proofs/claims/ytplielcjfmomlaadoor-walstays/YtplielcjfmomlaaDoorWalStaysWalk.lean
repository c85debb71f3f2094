/- WalStays: the law's walk. -/
import Derived.Test.YtplielcjfmomlaaDoorMi
import Derived.Test.YtplielcjfmomlaaDoorMj
import Derived.Test.YtplielcjfmomlaaDoorWaP
import Derived.Test.YtplielcjfmomlaaDoorMk
namespace Go.Proofs.YtplielcjfmomlaaDoor
open Go.RowKit Go.Maps
set_option linter.unusedVariables false

def Two38 (n : Nat) (ys us : Array Value) (w : World) : Prop := w.heap[n]? = some (.cells ys 38 (0, 0)) ∧ w.heap[n + 1]? = some (.cells us 38 (0, 0))

theorem Two38.below {n : Nat} {ys us : Array Value} {w w' : World} (h : Two38 n ys us w) (hb : Below w.heap.size w w') : Two38 n ys us w' :=
  ⟨(hb.block _ (Array.getElem?_eq_some_iff.1 h.1).1).trans h.1, (hb.block _ (Array.getElem?_eq_some_iff.1 h.2).1).trans h.2⟩

theorem row_range {w : World} {n : Nat} {ys : Array Value} {t : TypeId} (h : w.heap[n]? = some (.cells ys t (0, 0))) : w.rangeAt n 0 ys.toList := by
  intro j v hj
  rw [Nat.zero_add, cell_of_row _ _ _ _ _ _ h]
  simpa using hj

/-- The lists of texts that the law builds. -/
theorem tls_one {w : World} {b : Nat} {a : Option Addr} {c : Nat} {z : List Nat} {n : Nat} (hn : z.length = n) (h : w.heap[b]? = some (.cells #[.slice a n c] 22 (0, 0))) (hB : Bs w a n z) : Tls w (some ⟨b, 0, none⟩) 1 [z] := by
  refine ⟨rfl, by decide, (fun e => by cases e), fun x hx j y hy => ?_⟩
  cases hx
  match j, hy with
  | 0, hy =>
    cases hy
    exact ⟨a, c, by rw [add_none, cell_of_row _ _ _ _ _ _ h, hn]; rfl, by rw [hn]; exact hB⟩

theorem tls_two {w : World} {b : Nat} {a a' : Option Addr} {c c' : Nat} {z z' : List Nat} {n n' : Nat} (hn : z.length = n) (hn' : z'.length = n') (h : w.heap[b]? = some (.cells #[.slice a n c, .slice a' n' c'] 22 (0, 0))) (hB : Bs w a n z) (hB' : Bs w a' n' z') : Tls w (some ⟨b, 0, none⟩) 2 [z, z'] := by
  refine ⟨rfl, by decide, (fun e => by cases e), fun x hx j y hy => ?_⟩
  cases hx
  match j, hy with
  | 0, hy =>
    cases hy
    exact ⟨a, c, by rw [add_none, cell_of_row _ _ _ _ _ _ h, hn]; rfl, by rw [hn]; exact hB⟩
  | 1, hy =>
    cases hy
    exact ⟨a', c', by rw [add_none, cell_of_row _ _ _ _ _ _ h, hn']; rfl, by rw [hn']; exact hB'⟩

theorem wmod16 (x : Int) : ∃ r : Nat, r < 16 ∧ IntKind.i64.wrap (IntKind.u64.wrap ((IntKind.u64.wrap x).tmod 16)) = (r : Int) ∧ (IntKind.u64.wrap x).tmod 16 = (r : Int) := by
  obtain ⟨r, h1, h2, h3⟩ := wmod_cut x 16 (by omega) (by omega)
  exact ⟨r, h1, h2, h3⟩

set_option maxRecDepth 100000 in
set_option maxHeartbeats 8000000 in
theorem walStays_walk (y0 y1 y2 u0 u1 u2 : Value) (xa ya : Option Addr) (xl xc yl yc : Nat) (hxc : xl ≤ xc) (hyc : yl ≤ yc) (xs ys : List Nat) (fz : Int) (w : World) (hX : Bs w xa xl xs) (hY : Bs w ya yl ys) (hT : CrcTab w) :
    Calls Tryd.prog 5 #[.agg #[y0, y1, y2, .slice xa xl xc], .agg #[u0, u1, u2, .slice ya yl yc], .int .i64 fz] w fun e w' => e = .returned (.bool true) ∧ Below w.heap.size w w' := by
  obtain ⟨m, hm⟩ : ∃ m, m = min xl 500 := ⟨_, rfl⟩
  obtain ⟨p, hp⟩ : ∃ p, p = min yl 500 := ⟨_, rfl⟩
  have HM := hidn hm
  have HP := hidn hp
  have HX := hidn (bs_cut hX m (by omega))
  have HY := hidn (bs_cut hY p (by omega))
  have hm5 : m ≤ 500 := by omega
  have hp5 : p ≤ 500 := by omega
  have HT := hidn hT
  obtain ⟨w1, hw1⟩ : ∃ w1, w1 = (w.alloc (.cells #[y0, y1, y2, .slice xa xl xc] 38)).alloc (.cells #[u0, u1, u2, .slice ya yl yc] 38) := ⟨_, rfl⟩
  have b1 : Below w.heap.size w w1 := by rw [hw1]; exact ((Below.refl _ _).alloc (Nat.le_refl _) _).alloc (by simp) _
  have hS1 : Two38 w.heap.size #[y0, y1, y2, .slice xa xl xc] #[u0, u1, u2, .slice ya yl yc] w1 := by
    rw [hw1]
    refine ⟨alloc_at (heap_alloc_new w _) _, ?_⟩
    have h := heap_alloc_new (w.alloc (.cells #[y0, y1, y2, .slice xa xl xc] 38)) (.cells #[u0, u1, u2, .slice ya yl yc] 38)
    simp only [World.size_alloc] at h
    exact h
  have HW1 := hidn hw1
  have HS1 := hidn hS1
  obtain ⟨xz, hxz⟩ : ∃ xz, xz = xs.take m := ⟨_, rfl⟩
  obtain ⟨yz, hyz⟩ : ∃ yz, yz = ys.take p := ⟨_, rfl⟩
  rw [← hxz] at HX
  rw [← hyz] at HY
  clear hm hp hT hX hY hw1 hS1 hxz hyz
  go_enter Tryd.func5, Tryd.ntmps5
  go_wp2_with fail
  rw [← HW1.out]
  clear HW1
  refine wp_region_noPanic ?_
  refine wp_region_held_drew (S := Two38 w.heap.size #[y0, y1, y2, .slice xa xl xc] #[u0, u1, u2, .slice ya yl yc]) (by kernel_rfl) (HS1.out) (fun hHeld => ?_)
  refine drawn_take (i := 0) (v := .agg #[y0, y1, y2, .slice xa xl xc]) (some 16) rfl rfl (by kernel_rfl) (by kernel_rfl) (by kernel_rfl) (fun _ _ _ h => h) (yieldsIf_load_mid (by kernel_rfl) 38 (.tmp 3) (by kernel_rfl) w.heap.size 0 (by kernel_rfl) [y0, y1, y2, .slice xa xl xc] _ (fun w h => row_range h.1) Tryd.underlying38 rfl infoRec) hHeld ?_
  simp only [Act.put, List.setIfInBounds_toArray, List.set_cons_succ, List.set_cons_zero]
  refine drawn_take (i := 2) (v := .agg #[u0, u1, u2, .slice ya yl yc]) (some 18) rfl rfl (by kernel_rfl) (by kernel_rfl) (by kernel_rfl) (fun _ _ _ h => h) (yieldsIf_load_mid (by kernel_rfl) 38 (.tmp 4) (by kernel_rfl) (w.heap.size + 1) 0 (by kernel_rfl) [u0, u1, u2, .slice ya yl yc] _ (fun w h => row_range h.2) Tryd.underlying38 rfl infoRec) hHeld ?_
  simp only [Act.put, List.setIfInBounds_toArray, List.set_cons_succ, List.set_cons_zero]
  refine wpAnyH_ready (rs := [1]) (by kernel_rfl) (by simp) ?_
  refine rdy_call (i := 1) rfl rfl (some 17) rfl 16 #[.agg #[y0, y1, y2, .slice xa xl xc]] (wcall1 (x := 16) rfl (by kernel_rfl)) (fun r w9 => r = .slice xa m xc ∧ Below w1.heap.size w1 w9) ((cut_any _ y0 y1 y2 xa xl xc hxc m HM).mono (by rintro e w9 ⟨rfl, hb9⟩; exact ⟨_, rfl, rfl, (Below.refl _ w1).drew.trans hb9⟩)) (fun r w9 hR => ?_) rdy_nil
  obtain ⟨rfl, hb9⟩ := hR
  refine ⟨HS1.out.below hb9, fun hHeld => ?_⟩
  simp only [Act.put, List.setIfInBounds_toArray, List.set_cons_succ, List.set_cons_zero]
  refine wpAnyH_ready (rs := [3]) (by kernel_rfl) (by simp) ?_
  refine rdy_call (i := 3) rfl rfl (some 19) rfl 16 #[.agg #[u0, u1, u2, .slice ya yl yc]] (wcall1 (x := 18) rfl (by kernel_rfl)) (fun r w8 => r = .slice ya p yc ∧ Below w1.heap.size w1 w8) ((cut_any _ u0 u1 u2 ya yl yc hyc p HP).mono (by rintro e w8 ⟨rfl, hb8⟩; exact ⟨_, rfl, rfl, hb9.trans (hb8.mono hb9.size)⟩)) (fun r w9 hR => ?_) rdy_nil
  obtain ⟨rfl, hb8⟩ := hR
  refine ⟨HS1.out.below hb8, fun hHeld => ?_⟩
  simp only [Act.put, List.setIfInBounds_toArray, List.set_cons_succ, List.set_cons_zero]
  refine drawn_take (i := 4) (v := .slice xa m xc) (some 7) rfl rfl (by kernel_rfl) (by kernel_rfl) (by kernel_rfl) (fun _ _ _ h => h) (Or.inl ⟨by kernel_rfl, fun wq hw => by go_simp⟩) hHeld ?_
  simp only [Act.put, List.setIfInBounds_toArray, List.set_cons_succ, List.set_cons_zero]
  refine drawn_take (i := 5) (v := .slice ya p yc) (some 8) rfl rfl (by kernel_rfl) (by kernel_rfl) (by kernel_rfl) (fun _ _ _ h => h) (Or.inl ⟨by kernel_rfl, fun wq hw => by go_simp⟩) hHeld ?_
  simp only [Act.put, List.setIfInBounds_toArray, List.set_cons_succ, List.set_cons_zero]
  refine wpAnyH_done (by kernel_rfl) ?_ _
  refine NoPanic.normal ?_
  clear hHeld
  obtain ⟨w8, hw8⟩ : ∃ w8, w8 = w9 := ⟨_, rfl⟩
  subst hw8
  have b2 : Below w.heap.size w w8 := b1.trans (hb8.mono b1.size)
  clear hb9 hb8 b1 HS1
  have hxl : xz.length = m := HX.out.1
  have hyl : yz.length = p := HY.out.1
  have HXL := hidn hxl
  have HYL := hidn hyl
  clear hxl hyl
  by_cases hm0 : m = 0
  · have hm1 : ((m : Int) == 0) = true := by rw [hm0]; rfl
    clear hm0
    go_wp2_with fail
    refine (awake18_any _ (HT.out.below b2)).mono ?_
    rintro e w9 ⟨rfl, hb9⟩
    go_wp2
    go_ret
    exact ⟨rfl, b2.trans (hb9.mono b2.size)⟩
  by_cases hp0 : p = 0
  · have hm1 : ((m : Int) == 0) = false := beq_eq_false_iff_ne.2 (by omega)
    have hp1 : ((p : Int) == 0) = true := by rw [hp0]; rfl
    clear hm0 hp0
    go_wp2_with fail
    refine (awake18_any _ (HT.out.below b2)).mono ?_
    rintro e w9 ⟨rfl, hb9⟩
    go_wp2
    go_ret
    exact ⟨rfl, b2.trans (hb9.mono b2.size)⟩
  have hm1 : ((m : Int) == 0) = false := beq_eq_false_iff_ne.2 (by omega)
  have hp1 : ((p : Int) == 0) = false := beq_eq_false_iff_ne.2 (by omega)
  go_wp2_with fail
  refine (new_any _ 60 (by omega)).mono ?_
  rintro e w5 ⟨rfl, hD5, hb5, hs5⟩
  have b5 := b2.trans (hb5.mono b2.size)
  have HD5 := hidn hD5
  have hS5 : Sound5 w5 (fun k => w8.heap.size ≤ k ∧ k < w8.heap.size + 2) := ⟨HT.out.below b5, fun hF => by have := HT.out.lt; have := b2.size; omega, fun k hk => by omega⟩
  have hlow : ∀ (a : Option Addr) (n : Nat) (z : List Nat), Bs w a n z → BsF (fun k => w8.heap.size ≤ k ∧ k < w8.heap.size + 2) w5 a n z := fun a n z hB => ⟨hB.below b5, fun y hy hn hF => by
    have h9 := block_lt_of_cell (hB.2.2.2.2 _ hy 0 hn)
    have e : (y.add 0).block = y.block := by unfold Addr.add; split <;> rfl
    have h2 : w8.heap.size ≤ y.block := hF.1
    have := b2.size
    omega⟩
  obtain ⟨E, hE⟩ : ∃ E, E = (m + 3) / 106 + 1 := ⟨_, rfl⟩
  obtain ⟨G, hG⟩ : ∃ G, G = (p + 3) / 106 + 1 := ⟨_, rfl⟩
  have hEb : 1 ≤ E ∧ E ≤ 5 := by omega
  have hGb : 1 ≤ G ∧ G ≤ 5 := by omega
  have HE := hidn hE
  have HG := hidn hG
  have HAp := hidn (append_end w5 _ _ 0 _ 60 HD5.out hS5 1 (by omega) 0 (logOK_new 1) 1 (by omega) xa m xc xz (hlow _ _ _ HX.out) (by omega) (by omega) (by omega) (by omega) E HE (by omega) (by omega))
  have HYF := hidn (hlow _ _ _ HY.out)
  have HB5 := hidn b5
  have HG5 : Hid (∀ k, (fun k => w8.heap.size ≤ k ∧ k < w8.heap.size + 2) k → w.heap.size ≤ k) := hidn (fun k hk => by have := b2.size; omega)
  have HS5 := hidn hS5
  have HLp := hidn ((logOK_new 1).app (by omega) 1 (partsB (recB xz)))
  have HSt := hidn (appM_stored (fun _ => []) (segN 1) 0 1 xz rfl rfl (by omega) (by rw [recB_parts, HXL.out]; omega))
  have HCa := hidn (calmTo_new 1 1 (partsB (recB xz)) E)
  obtain ⟨M, hM⟩ : ∃ M, M = appM (fun _ => []) (segN 1) 0 1 (partsB (recB xz)) := ⟨_, rfl⟩
  rw [← hM] at HAp HLp HSt HCa
  have hnd : needB (xz.length : Int) = E := by rw [needB_yes _ (by rw [HXL.out]; omega) (by rw [HXL.out]; omega), HXL.out, hE]
  have hnd2 : needB (yz.length : Int) = G := by rw [needB_yes _ (by rw [HYL.out]; omega) (by rw [HYL.out]; omega), HYL.out, hG]
  have hPL : (partsB (recB xz)).length = E := by rw [recB_parts, HXL.out, hE]
  have hPL2 : (partsB (recB yz)).length = G := by rw [recB_parts, HYL.out, hG]
  rw [hPL, Nat.zero_add] at HLp
  have HND := hidn hnd
  have HND2 := hidn hnd2
  have HPL2 := hidn hPL2
  obtain ⟨r, hr1, hr2, hr3⟩ := wmod16 fz
  have hwr : IntKind.u64.wrap (r : Int) = (r : Int) := by rw [IntKind.wrap_u64]; omega
  have hwr2 : IntKind.i64.wrap (r : Int) = (r : Int) := by rw [IntKind.wrap_i64]; omega
  have HMP : Hid (1 ≤ m ∧ 1 ≤ p) := hidn (by omega)
  have HBx := hidn b2
  clear hD5 hb5 hs5 hS5 b5 hE hG hM hnd hnd2 hPL hPL2 hm0 hp0 hlow HD5
  go_wp2_with fail
  refine HAp.out.mono ?_
  clear HAp
  rintro e w6 ⟨rfl, F6, hD6, hG6⟩
  have HD6 := hidn hD6
  have HB6 := hidn (HB5.out.trans (hG6.1.below HB5.out.size HG5.out))
  have HS6 := hidn (HS5.out.gr hG6)
  have HY6 := hidn (HYF.out.gr hG6)
  have HF6 : Hid (∀ k, F6 k → w.heap.size ≤ k) := hidn (hG6.ge HB5.out.size HG5.out)
  clear hD6 hG6
  go_wp2_with fail
  refine (fuse_any _ _ F6 _ M _ _ HD6.out r).mono ?_
  rintro e w7 ⟨rfl, hD7, hG7⟩
  have HD7 := hidn hD7
  have HB7 := hidn (HB6.out.trans (hG7.1.below HB6.out.size HF6.out))
  have HS7 := hidn (HS6.out.gr hG7)
  have HY7 := hidn (HY6.out.gr hG7)
  obtain ⟨hnA, hnB, hsz, hnilA, hnilB⟩ := segN_names 1 (by omega)
  have hokS : StOK ⟨M, 60 - (E : Int) - E, (r : Int)⟩ E := ⟨by show (-1 : Int) ≤ r; omega, by show (r : Int) ≤ _; omega, by show (0 : Int) ≤ 60 - (E : Int) - E; omega, by show 60 - (E : Int) - E ≤ 1000000; omega, HLp.out.le⟩
  have HA2 := hidn (append_any w7 _ F6 (0 + E + E) ⟨M, 60 - (E : Int) - E, (r : Int)⟩ HD7.out HS7.out E hokS HLp.out.nil (segN 1) (by omega) hnA hnB ((1 : Nat) : Int) (by omega) (by omega) (wname_below w7 1 (by omega)) E 2 (by omega) ya p yc yz HY7.out (by have := HMP.out; omega) (by omega) (by omega) (by omega) (by unfold maxLen; omega) G HG)
  have hend := app_end ⟨M, 60 - (E : Int) - E, (r : Int)⟩ (segN 1) E 2 HLp.out.lA HLp.out.lB (partsB (recB yz)) (by rw [HPL2.out]; omega) (by rw [HPL2.out]; show (G : Int) + G ≤ 60 - (E : Int) - E; omega) (by show (-1 : Int) ≤ r; omega) HLp.out.cA HLp.out.cB
  have hpref := app_pref ⟨M, 60 - (E : Int) - E, (r : Int)⟩ (segN 1) E 2 (partsB (recB yz)) HCa.out
  have hnil := app_other ⟨M, 60 - (E : Int) - E, (r : Int)⟩ (segN 1) E 2 (partsB (recB yz)) [] hnilA hnilB
  obtain ⟨R, hR⟩ : ∃ R, R = appD ⟨M, 60 - (E : Int) - E, (r : Int)⟩ (segN 1) E 2 (partsB (recB yz)) := ⟨_, rfl⟩
  rw [← hR] at HA2 hend hpref hnil
  obtain ⟨⟨MR, fR, uR⟩, eR⟩ := R
  simp only at hpref hnil
  have HPref := hidn hpref
  have HNil : Hid (MR [] = []) := hidn (by rw [hnil]; exact HLp.out.nil)
  have HEnd := hidn hend
  clear hD7 hG7 hend hpref hnil hR hokS
  go_wp2_with fail
  refine HA2.out.mono ?_
  clear HA2
  rintro e w9 ⟨rfl, F9, hD9, hG9⟩
  have HD9 : Hid (DiskOf w9 (w8.heap.size + 1) F9 (0 + E + E + G + G) MR fR uR) := hidn hD9
  have HS9 := hidn (HS7.out.gr hG9)
  have HB9 := hidn (HB7.out.trans (hG9.1.below HB7.out.size HF6.out))
  have HF9 : Hid (∀ k, F9 k → w.heap.size ≤ k) := hidn (hG9.ge HB7.out.size HF6.out)
  rcases HEnd.out with ⟨_, hok⟩ | ⟨_, hdead⟩
  · simp only [Prod.mk.injEq] at hok
    obtain ⟨hst, hz⟩ := hok
    subst hz
    have HMR : Hid (MR = appM M (segN 1) E 2 (partsB (recB yz))) := hidn (congrArg St.M hst)
    clear hst HEnd
    simp only [if_true]
    clear hD9 hG9
    go_wp2_with fail
    refine (crash_disk w9 _ F9 _ _ _ _ HD9.out HS9.out.lt none 0 0 (fun _ _ => 0) (firstKept_none w9 none 0)).mono ?_
    rintro e w10 ⟨rfl, hD10, hG10⟩
    have HD10 := hidn hD10
    have HS10 := hidn (HS9.out.gr hG10)
    have HB10 := hidn (HB9.out.trans (hG10.1.below HB9.out.size HF9.out))
    have HRd := hidn (read_wal w10 _ F9 _ _ _ _ HD10.out HS10.out.tab (by show fellL _ (MR []) = []; rw [HNil.out]; rfl) (segN 1) (by decide +kernel) E (by omega) ((1 : Nat) : Int) (by omega) (by omega) (wname_below w10 1 (by omega)))
    have hfirst := stays_first (M := M) (M' := MR) (n := E) (z := xz) HND.out.symm (by rw [HXL.out]; have := HMP.out; omega) (by rw [HXL.out]; omega) HCa.out HPref.out HSt.out (fun _ _ => 0)
    rw [hfirst] at HRd
    clear hD10 hG10 hfirst
    go_wp2_with fail
    refine HRd.out.mono ?_
    clear HRd
    rintro e w11 ⟨hb11, v11, rfl, hTx11⟩
    obtain ⟨ta, tc, rfl, hTl11⟩ := hTx11.tls
    have HB11 := hidn (HB10.out.trans (hb11.mono HB10.out.size))
    have bA : Below w11.heap.size w11 (w11.alloc (.cells #[.slice xa m xc] 22)) := (Below.refl _ _).alloc (Nat.le_refl _) _
    obtain ⟨w12, hw12⟩ : ∃ w12, w12 = w11.alloc (.cells #[.slice xa m xc] 22) := ⟨_, rfl⟩
    have hn12 := heap_alloc_new w11 (.cells #[.slice xa m xc] 22)
    rw [← hw12] at bA hn12
    have HW12 := hidn hw12
    have HSame := hidn (sameTexts_same ta (some ⟨w11.heap.size, 0, none⟩) 1 tc 1 [xz] w12 (hTl11.below bA) (tls_one HXL.out hn12 ((HX.out.below HB11.out).below bA)))
    have HB12 := hidn (HB11.out.trans (bA.mono HB11.out.size))
    have HD12 := hidn (HD10.out.below (hb11.trans (bA.mono hb11.size)))
    have HS12 := hidn (HS10.out.below (hb11.trans (bA.mono hb11.size)))
    simp only [List.length_cons, List.length_nil, Nat.zero_add] at *
    clear hTx11 hTl11 hb11 bA hw12 hn12
    go_wp2_with fail
    rw [← HW12.out]
    refine HSame.out.mono ?_
    clear HSame HW12
    rintro e w12' ⟨rfl, hw⟩
    rw [hw]
    clear hw
    have hwn : IntKind.i64.wrap ((E : Int) + (G : Int)) = ((E + G : Nat) : Int) := by rw [IntKind.wrap_i64]; omega
    obtain ⟨EG, hEG⟩ : ∃ EG, EG = E + G := ⟨_, rfl⟩
    rw [← hEG] at hwn
    have hwn2 : (E : Int) + (G : Int) = (EG : Int) := by omega
    have hEGb : EG ≤ 100 := by omega
    have hboth := stays_both (M := M) (n := E) (g := 2) (z := xz) (y := yz) HLp.out HND.out.symm (by rw [HXL.out]; have := HMP.out; omega) (by rw [HXL.out]; omega) HCa.out HSt.out (by omega) (by rw [HYL.out]; have := HMP.out; omega) (by rw [HYL.out]; omega) (by rw [HND2.out]; omega) (fun _ _ => 0)
    rw [← HMR.out, HND2.out, ← hEG] at hboth
    have HRd2 := hidn (read_wal w12 _ F9 _ _ _ _ HD12.out HS12.out.tab (by show fellL _ (MR []) = []; rw [HNil.out]; rfl) (segN 1) (by decide +kernel) EG (by omega) ((1 : Nat) : Int) (by omega) (by omega) (wname_below w12 1 (by omega)))
    rw [hboth] at HRd2
    clear hboth hEG
    go_wp2_with fail
    refine HRd2.out.mono ?_
    clear HRd2
    rintro e w13 ⟨hb13, v13, rfl, hTx13⟩
    obtain ⟨sa, sc, rfl, hTl13⟩ := hTx13.tls
    have HB13 := hidn (HB12.out.trans (hb13.mono HB12.out.size))
    have bB : Below w13.heap.size w13 (w13.alloc (.cells #[.slice xa m xc, .slice ya p yc] 22)) := (Below.refl _ _).alloc (Nat.le_refl _) _
    have HSame2 := hidn (sameTexts_same sa (some ⟨w13.heap.size, 0, none⟩) 2 sc 2 [xz, yz] (w13.alloc (.cells #[.slice xa m xc, .slice ya p yc] 22)) (hTl13.below bB) (tls_two HXL.out HYL.out (heap_alloc_new _ _) ((HX.out.below HB13.out).below bB) ((HY.out.below HB13.out).below bB)))
    have HB14 := hidn (HB13.out.trans (bB.mono HB13.out.size))
    simp only [List.length_cons, List.length_nil, Nat.zero_add] at *
    clear hTx13 hTl13 hb13 bB
    go_wp2_with fail
    refine HSame2.out.mono ?_
    clear HSame2
    rintro e w14 ⟨rfl, rfl⟩
    go_wp2
    go_ret
    exact ⟨rfl, HB14.out⟩
  · subst hdead
    clear HEnd
    simp only [show ((31 : Int) = 0) = False from by simp, if_false]
    clear hD9 hG9
    go_wp2_with fail
    refine (crash_disk w9 _ F9 _ _ _ _ HD9.out HS9.out.lt none 0 0 (fun _ _ => 0) (firstKept_none w9 none 0)).mono ?_
    rintro e w10 ⟨rfl, hD10, hG10⟩
    have HD10 := hidn hD10
    have HS10 := hidn (HS9.out.gr hG10)
    have HB10 := hidn (HB9.out.trans (hG10.1.below HB9.out.size HF9.out))
    have HRd := hidn (read_wal w10 _ F9 _ _ _ _ HD10.out HS10.out.tab (by show fellL _ (MR []) = []; rw [HNil.out]; rfl) (segN 1) (by decide +kernel) E (by omega) ((1 : Nat) : Int) (by omega) (by omega) (wname_below w10 1 (by omega)))
    have hfirst := stays_first (M := M) (M' := MR) (n := E) (z := xz) HND.out.symm (by rw [HXL.out]; have := HMP.out; omega) (by rw [HXL.out]; omega) HCa.out HPref.out HSt.out (fun _ _ => 0)
    rw [hfirst] at HRd
    clear hD10 hG10 hfirst
    go_wp2_with fail
    refine HRd.out.mono ?_
    clear HRd
    rintro e w11 ⟨hb11, v11, rfl, hTx11⟩
    obtain ⟨ta, tc, rfl, hTl11⟩ := hTx11.tls
    have HB11 := hidn (HB10.out.trans (hb11.mono HB10.out.size))
    have bA : Below w11.heap.size w11 (w11.alloc (.cells #[.slice xa m xc] 22)) := (Below.refl _ _).alloc (Nat.le_refl _) _
    obtain ⟨w12, hw12⟩ : ∃ w12, w12 = w11.alloc (.cells #[.slice xa m xc] 22) := ⟨_, rfl⟩
    have hn12 := heap_alloc_new w11 (.cells #[.slice xa m xc] 22)
    rw [← hw12] at bA hn12
    have HW12 := hidn hw12
    have HSame := hidn (sameTexts_same ta (some ⟨w11.heap.size, 0, none⟩) 1 tc 1 [xz] w12 (hTl11.below bA) (tls_one HXL.out hn12 ((HX.out.below HB11.out).below bA)))
    have HB12 := hidn (HB11.out.trans (bA.mono HB11.out.size))
    have HD12 := hidn (HD10.out.below (hb11.trans (bA.mono hb11.size)))
    have HS12 := hidn (HS10.out.below (hb11.trans (bA.mono hb11.size)))
    simp only [List.length_cons, List.length_nil, Nat.zero_add] at *
    clear hTx11 hTl11 hb11 bA hw12 hn12
    go_wp2_with fail
    rw [← HW12.out]
    refine HSame.out.mono ?_
    clear HSame HW12
    rintro e w12' ⟨rfl, hw⟩
    rw [hw]
    clear hw
    go_wp2
    go_ret
    exact ⟨rfl, HB12.out⟩
end Go.Proofs.YtplielcjfmomlaaDoor
