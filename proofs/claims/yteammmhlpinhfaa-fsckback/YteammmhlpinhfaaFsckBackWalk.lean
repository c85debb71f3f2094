/- FsckBack: the law. -/
import Derived.Test.YteammmhlpinhfaaFsckManifestsWalk
import Derived.Test.YteammmhlpinhfaaFkI
namespace Go.Proofs.Yteammmhlpinhfaa
open Go.RowKit
set_option linter.unusedVariables false

theorem bare_pv (l : List Fo) : (l.map Fo.bare).map Fo.pv = (l.map Fo.bare).map Fo.pv := rfl

theorem bare_ils (l : List Fo) (w : World) : ∀ d ∈ l.map Fo.bare, Ils w d.pa d.pl d.ps ∧ d.pl ≤ d.pc := by
  intro d hd
  obtain ⟨f, _, rfl⟩ := List.mem_map.1 hd
  exact ⟨⟨rfl, Nat.zero_le _, fun _ => rfl, fun x hx => by cases hx⟩, Nat.le_refl _⟩

theorem yes_X {l : List Fo} (h : pcL l = true) : manX l = manB l := by unfold manX; rw [if_pos h]
theorem yes_E {l : List Fo} (h : pcL l = true) : manE l = 0 := by unfold manE; rw [if_pos h]
theorem yes_ok {l : List Fo} (h : pcL l = true) (hl : l.length ≤ 1000) (hw : ∀ f ∈ l, wfF f) : (manOk (manB l) && pcL (readL (manB l))) = true := by
  rw [manOk_man _ hl, readL_man _ hl hw, pc_bare, h]
  rfl
theorem yes_R {l : List Fo} (h : pcL l = true) (hl : l.length ≤ 1000) (hw : ∀ f ∈ l, wfF f) : readX (manB l) = l.map Fo.bare := by
  unfold readX
  rw [if_pos (yes_ok h hl hw), readL_man _ hl hw]
theorem yes_RE {l : List Fo} (h : pcL l = true) (hl : l.length ≤ 1000) (hw : ∀ f ∈ l, wfF f) : readE (manB l) = 0 := by unfold readE; rw [if_pos (yes_ok h hl hw)]
theorem more_R {l : List Fo} (hl : l.length ≤ 1000) : readX (manB l ++ [0]) = [] := by unfold readX; rw [manOk_more _ hl]; rfl
theorem more_RE {l : List Fo} (hl : l.length ≤ 1000) : readE (manB l ++ [0]) = 5 := by unfold readE; rw [manOk_more _ hl]; rfl

set_option maxHeartbeats 2000000 in
set_option maxRecDepth 100000 in
theorem fsckBack_no (a : Option Addr) (len cap : Nat) (l0 : List Fo) (w : World) (h0 : Fls w a len l0) (hc0 : len ≤ cap) (hp : pcL (l0.take (min len 20)) = false) :
    Calls Try.prog 4 #[.slice a len cap] w fun e w' => e = .returned (.bool true) ∧ Below w.heap.size w w' := by
  obtain ⟨n, hn, hn20, hn3, hn4⟩ := fk_min len 20
  have hn7 : min len 20 = n := by omega
  rw [hn7] at hp
  have hn5 : min (len : Int) 20 = (n : Int) := hn3
  have hn6 : (if (20 : Int) < (len : Int) then (20 : Int) else (len : Int)) = (n : Int) := hn4
  have nc : (n : Int) ≤ (cap : Int) := by omega
  have h : Fls w a n (l0.take n) := h0.take n hn
  generalize l0.take n = l at *
  have H2 := hidn (man_no a n cap l w h (by omega) (by omega) hp)
  have H3 := hidn (fun w2 (bb : Below w.heap.size w w2) => refMan_no a n cap l w2 (h.below bb) (by omega) (by omega) hp)
  clear h0 hc0 h hp hn3 hn4 hn7
  go_enter Try.func4, Try.ntmps4
  go_wp2_with fail
  refine H2.out.mono ?_
  rintro e w1 ⟨rfl, b1⟩
  have HB1 := hidn b1
  clear b1
  go_wp2_with fail
  refine (H3.out w1 HB1.out).mono ?_
  rintro e w2 ⟨rfl, b2⟩
  have HB2 := hidn (HB1.out.trans (b2.mono HB1.out.size))
  clear b2
  go_wp2_with fail
  refine (awake21 w2).mono ?_
  rintro e w9 ⟨rfl, b9⟩
  have HB9 := hidn (HB2.out.trans (b9.mono HB2.out.size))
  go_wp2_with fail
  exact bodyPost_ret (v := .bool true) (by simp [results, Try.results4, go_sem]) rfl ⟨rfl, HB9.out⟩

set_option maxHeartbeats 4000000 in
set_option maxRecDepth 100000 in
theorem fsckBack_yes (a : Option Addr) (len cap : Nat) (l0 : List Fo) (w : World) (h0 : Fls w a len l0) (hc0 : len ≤ cap) (hw0 : ∀ f ∈ l0, wfF f) (hp : pcL (l0.take (min len 20)) = true) :
    Calls Try.prog 4 #[.slice a len cap] w fun e w' => e = .returned (.bool true) ∧ Below w.heap.size w w' := by
  obtain ⟨n, hn, hn20, hn3, hn4⟩ := fk_min len 20
  have hn7 : min len 20 = n := by omega
  rw [hn7] at hp
  have hn5 : min (len : Int) 20 = (n : Int) := hn3
  have hn6 : (if (20 : Int) < (len : Int) then (20 : Int) else (len : Int)) = (n : Int) := hn4
  have nc : (n : Int) ≤ (cap : Int) := by omega
  have h : Fls w a n (l0.take n) := h0.take n hn
  have hw : ∀ f ∈ l0.take n, wfF f := fun f hf => hw0 f (List.mem_of_mem_take hf)
  generalize l0.take n = l at *
  obtain ⟨i0, z0, hi, hz0, hz1, hz2, hzc⟩ := fkInfo
  have hl1000 : l.length ≤ 1000 := by rw [h.1]; omega
  have HLN := hidn h.1
  have H2 := hidn (man_fin a n cap l w h (by omega) (by omega))
  have HX := hidn (yes_X hp)
  have HE := hidn (yes_E hp)
  have HR := hidn (yes_R hp hl1000 hw)
  have HRE := hidn (yes_RE hp hl1000 hw)
  have HMR := hidn (more_R hl1000)
  have HME := hidn (more_RE hl1000)
  have H5 := hidn (fun w2 (bb : Below w.heap.size w w2) => fclone_any a n cap l w2 (h.below bb) (by omega))
  obtain ⟨X, hX⟩ : ∃ X, X = manB l := ⟨_, rfl⟩
  obtain ⟨x, hx⟩ : ∃ x, x = X.length := ⟨_, rfl⟩
  have hxl : x ≤ 60000 := by rw [hx, hX, manB_length]; omega
  have HZ : Hid (∀ y ∈ X, y < 256) := hidn (by rw [hX]; exact manB_lt l)
  rw [← hX] at HX HR HRE HMR HME
  have HXL := hidn hx
  clear h0 hc0 h hw hw0 hp hn3 hn4 hn7 hX hx
  go_enter Try.func4, Try.ntmps4
  go_wp2_with fail
  refine H2.out.mono ?_
  rintro e w1 ⟨xa, xc, rfl, hXB, hxc, b1⟩
  rw [HX.out, ← HXL.out] at hXB hxc
  rw [HX.out, ← HXL.out, HE.out]
  have HXB := hidn hXB
  have HB1 := hidn b1
  have H3 := hidn (read_fin xa x xc X w1 hXB hxc)
  clear hXB b1
  go_wp2_with fail
  refine H3.out.mono ?_
  rintro e w2 ⟨pa, pc, rfl, hPF, b2⟩
  rw [HR.out, List.length_map, HLN.out] at hPF
  rw [HR.out, List.length_map, HLN.out, HRE.out]
  have HPF := hidn hPF
  have HB2 := hidn (HB1.out.trans (b2.mono HB1.out.size))
  have H4 := hidn (sclone_any xa x xc X w2 (HXB.out.below b2) (by omega))
  clear hPF b2 H3
  go_wp2_with fail
  refine H4.out.mono ?_
  rintro e w3 ⟨v, rfl, ho, b3⟩
  have HB3 := hidn (HB2.out.trans (b3.mono HB2.out.size))
  have HP3 := hidn (HPF.out.below b3)
  obtain ⟨va, vc, e9⟩ : ∃ va vc, v = Value.slice va x vc := by
    rcases ho.2 with ⟨h1, h2⟩ | ⟨g, cp, cur, h1, _⟩
    · exact ⟨none, 0, by rw [h1, h2]⟩
    · exact ⟨_, _, h1⟩
  obtain ⟨wB, hwB⟩ : ∃ wB, wB = w3.alloc (.cells #[.int .u8 0] 5) := ⟨_, rfl⟩
  have bB : Below w3.heap.size w3 wB := by rw [hwB]; exact (Below.refl _ w3).alloc (Nat.le_refl _) _
  have qB : wB.heap[w3.heap.size]? = some (.cells #[.int .u8 0] 5 (0, 0)) := by rw [hwB]; exact heap_alloc_new w3 _
  have OB := own_of_below ho bB
  have hsz : w2.heap.size ≤ wB.heap.size := Nat.le_trans b3.size bB.size
  obtain ⟨v3, w4, hrun, hown4, hgr4⟩ := appAny wB w2.heap.size 23 23 5 i0 z0 1 1 Try.underlying23 hi hz0 hz1 hz2 hzc (by decide) v x (vb X) OB hsz (some ⟨w3.heap.size, 0, none⟩) 1 1 (vb [0]) rfl (fun e => by cases e) (fun y hy j u hu => by
    cases hy
    rw [add_none, Nat.zero_add, cell_of_row _ _ _ _ _ _ qB]
    simpa [vb] using hu) (one_vb _) (by unfold maxLen; omega) (by omega)
  rw [← fk_app] at hown4
  have B34 : Below w2.heap.size w2 w4 := (b3.trans (bB.mono b3.size)).grown hgr4 hsz (fun k hk => (OB.lt k hk).1)
  have HB4 := hidn (HB2.out.trans (B34.mono HB2.out.size))
  have HP4 := hidn (HPF.out.below B34)
  obtain ⟨ya, yc, rfl, hYB, hyc⟩ := bs_cap hown4 (by
    intro y hy
    rcases List.mem_append.1 hy with h | h
    · exact HZ.out y h
    · simp at h; omega)
  have H6 := hidn (read_fin ya (x + 1) yc (X ++ [0]) w4 hYB hyc)
  have HRUN := hidn hrun
  have HWB := hidn hwB
  subst e9
  clear hrun hown4 hgr4 OB bB qB hwB hYB B34 b3 ho HP3 HPF hsz
  go_wp2_with (at_builtin; rw [← HWB.out]; refine wpList_app_runA rfl _ _ 23 23 rfl rfl _ _ _ rfl rfl HRUN.out ?_; clear HRUN)
  refine H6.out.mono ?_
  rintro e w5 ⟨ra, rc, rfl, hRF, b5⟩
  rw [HMR.out, HME.out]
  have HB5 := hidn (HB4.out.trans (b5.mono HB4.out.size))
  have HP5 := hidn (HP4.out.below b5)
  clear hRF b5 H6
  go_wp2_with fail
  refine (H5.out w5 HB5.out).mono ?_
  rintro e w6 ⟨u, rfl, ho6, b6⟩
  have HB6 := hidn (HB5.out.trans (b6.mono HB5.out.size))
  have HP6 := hidn (HP5.out.below b6)
  obtain ⟨ua, uc, e9, hnz⟩ : ∃ ua uc, u = Value.slice ua n uc ∧ (0 < n → ∃ g, ua = some ⟨g, 0, none⟩) := by
    rcases ho6.2 with ⟨h1, h2⟩ | ⟨g, cp, cur, h1, _⟩
    · exact ⟨none, 0, by rw [h1, h2], fun e => by omega⟩
    · exact ⟨_, _, h1, fun _ => ⟨g, rfl⟩⟩
  have HNZ := hidn hnz
  have HO6 : Hid (w6.ownsRow w5.heap.size 37 8 u n (fvs ((l.take 0).map Fo.bare ++ l.drop 0))) := hidn (by simpa using ho6)
  have hs56 : w5.heap.size ≤ w6.heap.size := b6.size
  have HB56 := hidn b6
  subst e9
  clear ho6 b6 hnz
  have HPW := HP6
  have HS5 := hidn hs56
  have HB65 : Hid (Below w5.heap.size w6 w6) := hidn (Below.refl _ w6)
  have HP55 := HP5
  clear hs56 HP5
  go_wp2_with fail
  go_loopw [58] (fun iv wr => ∃ k : Nat, k ≤ n ∧ iv = .int .i64 (k : Int) ∧ Hid (wr.ownsRow w5.heap.size 37 8 (.slice ua n uc) n (fvs ((l.take k).map Fo.bare ++ l.drop k))) ∧ Hid (Below w5.heap.size w6 wr)) (fun iv _ => n - (intOf iv).toNat)
  case atStart => exact ⟨0, Nat.zero_le _, rfl, HO6, HB65⟩
  case round =>
    obtain ⟨k, hk, rfl, HO, HB⟩ := hrel
    by_cases hlt : k < n
    · have hlt2 : (k : Int) < (n : Int) := by omega
      obtain ⟨d, hd⟩ : ∃ d, l[k]? = some d := ⟨_, List.getElem?_eq_getElem (by rw [HLN.out]; exact hlt)⟩
      obtain ⟨g, hg⟩ := HNZ.out (by omega)
      subst hg
      have hcell := HO.out.cellAt (k * 8 + 7) (by omega)
      have hfz := HO.out.frozenAt (k * 8 + 7)
      have hgle : w5.heap.size ≤ (⟨g, k * 8 + 7, none⟩ : Addr).block := (HO.out.lt g rfl).1
      have hst := (HO.out.stored (k * 8 + 7) (.slice none 0 0)).1
      rw [fk_set7 _ k d (by rw [fk_at]; exact hd), fk_split l k d hd] at hst
      have HST := hidn hst
      have hv : (fvs ((l.take k).map Fo.bare ++ l.drop k))[k * 8 + 7]? = some (.slice d.pa d.pl d.pc) := fvs_get _ k d (by rw [fk_at]; exact hd) 7 _ rfl
      rw [hv] at hcell
      clear hst hd hv
      go_wp2_with fail
      exact ⟨⟨k + 1, by omega, by simp, HST, hidn (HB.out.setCell hgle _)⟩, by simp [intOf]; omega⟩
    · have hlt2 : ¬ (k : Int) < (n : Int) := by omega
      have hkn : k = n := by omega
      subst hkn
      have HO7 : Hid (wr.ownsRow w5.heap.size 37 8 (.slice ua k uc) (l.map Fo.bare).length (fvs (l.map Fo.bare))) := hidn (by
        have h9 := HO.out
        rw [List.take_of_length_le (by rw [HLN.out]; omega), List.drop_eq_nil_of_le (by rw [HLN.out]; omega), List.append_nil] at h9
        rw [List.length_map, HLN.out]
        exact h9)
      obtain ⟨qa, qc, e9, hQF, hqc⟩ := fls_of_own HO7.out (bare_ils l wr)
      rw [List.length_map, HLN.out] at e9 hQF hqc
      injection e9 with e1 e2 e3
      subst e1
      subst e3
      have hPr : Fls wr pa k (l.map Fo.bare) := HP55.out.below (HB56.out.trans HB.out)
      have H7 := hidn (sameFooters_same pa ua k pc uc (l.map Fo.bare) (l.map Fo.bare) wr hPr hQF rfl (by omega))
      clear hPr hQF hqc e2
      go_wp2_with fail
      refine H7.out.mono ?_
      rintro e w8 ⟨rfl, b8⟩
      have HB8 : Hid (Below w.heap.size w w8) := hidn (by
        have hq := HB56.out.trans HB.out
        exact (HB5.out.trans (hq.mono HB5.out.size)).trans (b8.mono (Nat.le_trans HB5.out.size hq.size)))
      go_wp2_with fail
      exact bodyPost_ret (v := .bool true) (by simp [results, Try.results4, go_sem]) rfl ⟨rfl, HB8.out⟩

theorem fsckBack_walk (a : Option Addr) (len cap : Nat) (l0 : List Fo) (w : World) (h0 : Fls w a len l0) (hc0 : len ≤ cap) (hw0 : ∀ f ∈ l0, wfF f) :
    Calls Try.prog 4 #[.slice a len cap] w fun e w' => e = .returned (.bool true) ∧ Below w.heap.size w w' := by
  cases hp : pcL (l0.take (min len 20)) with
  | true => exact fsckBack_yes a len cap l0 w h0 hc0 hw0 hp
  | false => exact fsckBack_no a len cap l0 w h0 hc0 hp

end Go.Proofs.Yteammmhlpinhfaa
