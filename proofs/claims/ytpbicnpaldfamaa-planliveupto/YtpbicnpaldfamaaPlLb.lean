/- dryrotref16.Live. -/
import Derived.Test.YtpbicnpaldfamaaPlLa
import Derived.Deep.CutRange
namespace Go.Proofs.Ytpbicnpaldfamaa
open Go.RowKit Go.Joins
set_option linter.unusedVariables false
set_option linter.unusedSimpArgs false

theorem atF_own {w : World} {base e n c : Nat} {a : Option Addr} {xs : List Value} (h : w.ownsRow base e 8 (.slice a n c) n xs) : AtF a n c := by
  rcases h.2 with ⟨hv, h0⟩ | ⟨g, cap, cur, hv, _, _, hnc, _⟩
  · injection hv with h1 h2 h3
    exact .inl ⟨h1, h2⟩
  · injection hv with h1 h2 h3
    exact .inr ⟨g, 0, h1, by omega⟩

theorem ins_at {L : List Fo} {p : Nat} {f : Fo} (hp : p ≤ L.length) (hB : ∀ x ∈ L.drop p, f.rk < x.rk) (hA : ∀ x, 0 < p → L[p - 1]? = some x → ¬ f.rk < x.rk) : insE L f = L.take p ++ f :: L.drop p := by
  have := insE_at (L.take p) (L.drop p) f hB (fun x hx => by
    cases p with
    | zero => simp at hx
    | succ q =>
      refine hA x (Nat.succ_pos _) ?_
      rw [List.getLast?_eq_getElem?, List.length_take, Nat.min_eq_left hp, List.getElem?_take] at hx
      simpa using hx)
  rwa [List.take_append_drop] at this

/-- A row of footers with one more put in. -/
theorem own_put {w w' : World} {base n0 : Nat} {v v' : Value} {L M : List Fo} {f : Fo} {p n9 : Nat} (h : OwnF w base v L) (hb : Below w.heap.size w w') (hbn : base ≤ n0) (hM : M = L.take p ++ f :: L.drop p) (hn : n9 = M.length) (hf : OwnP w' n0 f) (ho : w'.ownsRow n0 31 8 v' n9 (fvs (L.take p) ++ f.cells ++ fvs (L.drop p))) : OwnF w' base v' M := by
  refine ⟨?_, fun x hx => ?_⟩
  · rw [← hn, hM, fvs_append, fvs_cons, ← List.append_assoc]
    exact own_lower ho hbn
  · rw [hM] at hx
    rcases List.mem_append.1 hx with hx | hx
    · exact (h.2 x (List.mem_of_mem_take hx)).below hb
    · rcases List.mem_cons.1 hx with rfl | hx
      · exact ⟨own_lower hf.1 hbn, hf.2⟩
      · exact (h.2 x (List.mem_of_mem_drop hx)).below hb

set_option maxHeartbeats 4000000 in
set_option maxRecDepth 100000 in
theorem refLive_any (a : Option Addr) (len cap : Nat) (l : List Fo) (gen fl : Int) (w : World) (h : Fls w a len l) (hm : len ≤ 14) (hps : ∀ d ∈ l, d.pl ≤ 1048576) :
    Calls Try.prog 7 #[.slice a len cap, .int .i64 gen, .int .i64 fl] w (LiveP w (liveTo l gen fl (heirsTo l gen len) len)) := by
  have hlen := hidn h.1
  have HPS := hidn hps
  obtain ⟨E, hE⟩ : ∃ E, E = heirsTo l gen len := ⟨_, rfl⟩
  have HE := hidn hE
  rw [← hE]
  clear hps hE
  have EN : ∀ args w, (callFunc 16 args).run Try.prog w = .ok (.enter 16 args) w := fun args w => by kernel_rfl
  go_enter Try.func7, Try.ntmps7
  go_wp2_with fail
  go_loopw [7, 18] (fun hv iv wr => ∃ (k : Nat) (v : Value) (l' : List Fo), k ≤ len ∧ iv = .int .i64 (k : Int) ∧ hv = v ∧ l'.length ≤ k ∧ Hid (OwnF wr w.heap.size v (sortE l') ∧ l'.map Fo.pv = (liveTo l gen fl E k).map Fo.pv) ∧ Below w.heap.size w wr) (fun _ iv _ => len - (intOf iv).toNat)
  case atStart => exact ⟨0, _, [], Nat.zero_le _, rfl, rfl, Nat.le_refl _, hidn ⟨⟨World.ownsRow_nil _ _ _ _, fun d hd => by cases hd⟩, rfl⟩, Below.refl _ _⟩
  case round =>
    obtain ⟨k, v, l', hk, rfl, rfl, hl', hO, hb⟩ := hrel
    by_cases hlt : k < len
    · have hlt2 : (k : Int) < (len : Int) := by omega
      obtain ⟨wo, hwo⟩ : ∃ wo, wo = wr := ⟨wr, rfl⟩
      subst hwo
      obtain ⟨Lo, hLo⟩ : ∃ Lo, Lo = sortE l' := ⟨_, rfl⟩
      have hO1 := hO.out
      rw [← hLo] at hO1
      have HLo := hidn hLo
      obtain ⟨fa, fc, hv, hF, hfc⟩ := hO1.1.fls
      subst hv
      have hLl : Lo.length ≤ 14 := by rw [hLo, sortE_len]; omega
      obtain ⟨N, hN⟩ : ∃ N, N = Lo.length := ⟨_, rfl⟩
      have HN := hidn hN
      rw [← hN] at hF hfc hO1 hLl ⊢
      have hAF : AtF fa N fc := atF_own (by have hr := hO1.1.1; rw [← hN] at hr; exact hr)
      have HO1 := hidn hO1.1
      have HPV := hidn hO1.2
      have HF := hidn hF
      clear hLo hN hO1 hO hF
      obtain ⟨d, hd⟩ : ∃ d, l[k]? = some d := ⟨_, List.getElem?_eq_getElem (by rw [hlen.out]; exact hlt)⟩
      obtain ⟨b, off, rfl, hbk, c0, c1, c2, c3, c4, c5, c6, c7, hms⟩ := (h.below hb).at hd
      have hdm := List.mem_of_getElem? hd
      have HAT : Hid (liveAt l gen fl E k = if d.ge ≤ gen ∧ ¬ (d.mx < fl ∧ d.bt ≠ 0) ∧ replG (getE E d.nu) d.nu (k : Int) = false then [d] else []) := hidn (by unfold liveAt; rw [hd])
      have HIF : Hid (replG (getE E d.nu) d.nu (k : Int) = false ↔ ∀ i < len, ∀ o, l[i]? = some o → ¬ BadF gen k d.nu i o) := hidn (by rw [HE.out]; exact live_iff hd)
      obtain ⟨wA, hwA⟩ : ∃ wA, wA = wo.alloc (.cells #[.int .i64 d.nu, .int .i64 d.ge, .int .i64 d.lv, .int .i64 d.rk, .int .i64 d.mn, .int .i64 d.mx, .int .i64 d.bt, .slice d.pa d.pl d.pc] 31) := ⟨_, rfl⟩
      have bA : Below wo.heap.size wo wA := by rw [hwA]; exact (Below.refl _ wo).alloc (Nat.le_refl _) _
      have BA := hb.trans (bA.mono hb.size)
      have qA : wA.heap[wo.heap.size]? = some (.cells #[.int .i64 d.nu, .int .i64 d.ge, .int .i64 d.lv, .int .i64 d.rk, .int .i64 d.mn, .int .i64 d.mx, .int .i64 d.bt, .slice d.pa d.pl d.pc] 31 (0, 0)) := by rw [hwA]; exact heap_alloc_new wo _
      have hAs : wo.heap.size < wA.heap.size := (Array.getElem?_eq_some_iff.1 qA).1
      have HIA := hidn (hms.1.below bA)
      have HWA := hidn hwA
      have HQA := hidn qA
      have HPL := hidn (HPS.out d hdm)
      have f1 : wA.cell? ⟨wo.heap.size, 1, none⟩ = some (.int .i64 d.ge) := cell_of_row _ _ _ _ _ _ qA
      have f5 : wA.cell? ⟨wo.heap.size, 5, none⟩ = some (.int .i64 d.mx) := cell_of_row _ _ _ _ _ _ qA
      have f6 : wA.cell? ⟨wo.heap.size, 6, none⟩ = some (.int .i64 d.bt) := cell_of_row _ _ _ _ _ _ qA
      clear hwA hd hdm qA
      go_upto_region 5 with fail
      rw [← HWA.out]
      go_cut [10] from 23 to 37 (fun c wx => c = .bool (decide (d.ge ≤ gen) && (decide (fl ≤ d.mx) || decide (d.bt = 0))) ∧ wA = wx)
      case first =>
        by_cases hg : d.ge ≤ gen
        · by_cases hx : fl ≤ d.mx
          · go_wp2
            go_meet
            exact ⟨by simp [hg, hx], rfl⟩
          · by_cases hz : d.bt = 0
            · have HZ := hidn hz
              rw [hz] at f6
              clear hz
              go_wp2
              go_meet
              exact ⟨by simp [hg, HZ.out], rfl⟩
            · go_wp2
              go_meet
              exact ⟨by
                have e1 : decide (d.ge ≤ gen) = true := by simpa using hg
                have e2 : decide (fl ≤ d.mx) = false := by simp; omega
                have e3 : decide (d.bt = 0) = false := by simpa using hz
                have e4 : (d.bt == 0) = false := by simpa using hz
                simp [e1, e2, e3, e4], rfl⟩
        · go_wp2
          go_meet
          exact ⟨by simp; omega, rfl⟩
      case rest =>
        obtain ⟨rfl, rfl⟩ := hcut
        obtain ⟨B0, hB0⟩ : ∃ B0, B0 = (decide (d.ge ≤ gen) && (decide (fl ≤ d.mx) || decide (d.bt = 0))) := ⟨_, rfl⟩
        rw [← hB0]
        have HB0 : Hid (B0 = true ↔ d.ge ≤ gen ∧ ¬ (d.mx < fl ∧ d.bt ≠ 0)) := hidn (by
          rw [hB0]
          simp only [Bool.and_eq_true, Bool.or_eq_true, decide_eq_true_eq]
          omega)
        have hF2 := hidn ((h.below hb).below bA)
        clear hB0 f1 f5 f6 c0 c1 c2 c3 c4 c5 c6 c7 hms
        go_wp2_with fail
        go_loopw [10, 40] (fun bv jv wr => ∃ (j : Nat) (B : Bool), j ≤ len ∧ bv = .bool B ∧ jv = .int .i64 (j : Int) ∧ Hid (B = true ↔ B0 = true ∧ ∀ i < j, ∀ o, l[i]? = some o → ¬ BadF gen k d.nu i o) ∧ Below wA.heap.size wA wr) (fun _ jv _ => len - (intOf jv).toNat)
        case atStart => exact ⟨0, B0, Nat.zero_le _, rfl, rfl, hidn ⟨fun hx => ⟨hx, fun i hi => by omega⟩, fun hx => hx.1⟩, Below.refl _ _⟩
        case round =>
          obtain ⟨j, B, hj, rfl, rfl, hBB, hb2⟩ := hrel
          by_cases hjl : j < len
          · have hjl2 : (j : Int) < (len : Int) := by omega
            obtain ⟨o, ho⟩ : ∃ o, l[j]? = some o := ⟨_, List.getElem?_eq_getElem (by rw [hlen.out]; exact hjl)⟩
            obtain ⟨b2, o2, he2, hbk2, y0, y1, y2, y3, y4, y5, y6, y7, hmo⟩ := (hF2.out.below hb2).at ho
            obtain ⟨rfl, rfl⟩ : b = b2 ∧ off = o2 := by
              injection he2 with he2
              injection he2 with e1 e2
              exact ⟨e1, e2⟩
            clear he2
            obtain ⟨wB, hwB⟩ : ∃ wB, wB = wr.alloc (.cells #[.int .i64 o.nu, .int .i64 o.ge, .int .i64 o.lv, .int .i64 o.rk, .int .i64 o.mn, .int .i64 o.mx, .int .i64 o.bt, .slice o.pa o.pl o.pc] 31) := ⟨_, rfl⟩
            have bB : Below wr.heap.size wr wB := by rw [hwB]; exact (Below.refl _ wr).alloc (Nat.le_refl _) _
            have BB := hb2.trans (bB.mono hb2.size)
            have qB : wB.heap[wr.heap.size]? = some (.cells #[.int .i64 o.nu, .int .i64 o.ge, .int .i64 o.lv, .int .i64 o.rk, .int .i64 o.mn, .int .i64 o.mx, .int .i64 o.bt, .slice o.pa o.pl o.pc] 31 (0, 0)) := by rw [hwB]; exact heap_alloc_new wr _
            have HWB := hidn hwB
            have x1 : wB.cell? ⟨wr.heap.size, 1, none⟩ = some (.int .i64 o.ge) := cell_of_row _ _ _ _ _ _ qB
            have x7 : wB.cell? ⟨wr.heap.size, 7, none⟩ = some (.slice o.pa o.pl o.pc) := cell_of_row _ _ _ _ _ _ qB
            have z0 : wB.cell? ⟨wo.heap.size, 0, none⟩ = some (.int .i64 d.nu) := cell_of_row _ _ _ _ _ _ ((BB.block _ hAs).trans HQA.out)
            have hIB := hmo.1.below bB
            have hol := hIB.1
            have HOL : Hid (o.ps.length = o.pl) := hidn hol
            have hob : o.pl ≤ 1048576 := HPS.out o (List.mem_of_getElem? ho)
            have HOJ := hidn ho
            clear hwB ho qB hol
            go_wp2_with fail
            rw [← HWB.out]
            go_loopw [10, 48] (fun bv iv wr => ∃ (i : Nat) (B' : Bool), i ≤ o.pl ∧ bv = .bool B' ∧ iv = .int .i64 (i : Int) ∧ Hid (B' = true ↔ B = true ∧ ∀ q < i, ∀ p, o.ps[q]? = some p → ¬ (j ≠ k ∧ o.ge ≤ gen ∧ p = d.nu)) ∧ wB = wr) (fun _ iv _ => o.pl - (intOf iv).toNat)
            case atStart => exact ⟨0, B, Nat.zero_le _, rfl, rfl, hidn ⟨fun hx => ⟨hx, fun i hi => by omega⟩, fun hx => hx.1⟩, rfl⟩
            case round =>
              obtain ⟨i, B', hi, rfl, rfl, hB', rfl⟩ := hrel
              by_cases hil : i < o.pl
              · have hil2 : (i : Int) < (o.pl : Int) := by omega
                obtain ⟨p, hp⟩ : ∃ p, o.ps[i]? = some p := ⟨_, List.getElem?_eq_getElem (by rw [HOL.out]; exact hil)⟩
                obtain ⟨pb, po, hpa, hpc⟩ := hIB.at hp
                have HNXT : Hid (∀ X : Bool, (X = true ↔ B' = true ∧ ¬ (j ≠ k ∧ o.ge ≤ gen ∧ p = d.nu)) → (X = true ↔ B = true ∧ ∀ q < i + 1, ∀ p, o.ps[q]? = some p → ¬ (j ≠ k ∧ o.ge ≤ gen ∧ p = d.nu))) := hidn (fun X hX => by
                  rw [hX, hB'.out]
                  constructor
                  · rintro ⟨⟨h1, h2⟩, h3⟩
                    refine ⟨h1, fun q hq r hr => ?_⟩
                    by_cases e : q = i
                    · subst e
                      rw [hp] at hr
                      injection hr with hr
                      rw [← hr]
                      exact h3
                    · exact h2 q (by omega) r hr
                  · rintro ⟨h1, h2⟩
                    exact ⟨⟨h1, fun q hq r hr => h2 q (by omega) r hr⟩, h2 i (Nat.lt_succ_self _) p hp⟩)
                clear hp hB'
                rw [hpa]
                cases B' with
                | false =>
                  go_wp2_with fail
                  exact ⟨⟨i + 1, false, by omega, rfl, by simp, hidn (HNXT.out false (by simp)), trivial⟩, by simp [intOf]; omega⟩
                | true =>
                  by_cases hjk : j = k
                  · have hjk2 : ((j : Int) != (k : Int)) = false := by simp [hjk]
                    have HX := hidn (HNXT.out true (by simp [hjk]))
                    clear hjk HNXT
                    go_wp2_with fail
                    exact ⟨⟨i + 1, true, by omega, rfl, by simp, HX, trivial⟩, by simp [intOf]; omega⟩
                  · have hjk2 : ((j : Int) != (k : Int)) = true := by
                      simp
                      omega
                    by_cases hog : o.ge ≤ gen
                    · by_cases hpn : p = d.nu
                      · have HX := hidn (HNXT.out false (by simp [hjk, hog, hpn]))
                        rw [hpn] at hpc
                        clear hjk hpn HNXT
                        go_wp2_with fail
                        exact ⟨⟨i + 1, false, by omega, rfl, by simp, HX, trivial⟩, by simp [intOf]; omega⟩
                      · have HX := hidn (HNXT.out true (by simp [hpn]))
                        have hpn2 : (p == d.nu) = false := by simp [hpn]
                        clear hjk HNXT
                        go_wp2_with fail
                        exact ⟨⟨i + 1, true, by omega, rfl, by simp, HX, trivial⟩, by simp [intOf]; omega⟩
                    · have HX := hidn (HNXT.out true (by simp [hog]))
                      clear hjk HNXT
                      go_wp2_with fail
                      exact ⟨⟨i + 1, true, by omega, rfl, by simp, HX, trivial⟩, by simp [intOf]; omega⟩
              · have hil2 : ¬ (i : Int) < (o.pl : Int) := by omega
                have HX : Hid (B' = true ↔ B0 = true ∧ ∀ i < j + 1, ∀ o, l[i]? = some o → ¬ BadF gen k d.nu i o) := hidn (by
                  rw [hB'.out, hBB.out]
                  constructor
                  · rintro ⟨⟨h1, h2⟩, h3⟩
                    refine ⟨h1, fun q hq r hr hbad => ?_⟩
                    by_cases e : q = j
                    · subst e
                      rw [HOJ.out] at hr
                      injection hr with hr
                      subst hr
                      obtain ⟨s, hs⟩ := List.mem_iff_getElem?.1 hbad.2.2
                      have hsl := (List.getElem?_eq_some_iff.1 hs).1
                      rw [HOL.out] at hsl
                      exact h3 s (by omega) _ hs ⟨hbad.1, hbad.2.1, rfl⟩
                    · exact h2 q (by omega) r hr hbad
                  · rintro ⟨h1, h2⟩
                    refine ⟨⟨h1, fun q hq r hr => h2 q (by omega) r hr⟩, fun q hq r hr hx => ?_⟩
                    refine h2 j (Nat.lt_succ_self _) o HOJ.out ⟨hx.1, hx.2.1, ?_⟩
                    rw [← hx.2.2]
                    exact List.mem_of_getElem? hr)
                go_wp2_with fail
                exact ⟨⟨j + 1, B', by omega, rfl, by simp, HX, BB⟩, by simp [intOf]; omega⟩
          · have hjl2 : ¬ (j : Int) < (len : Int) := by omega
            have hje : j = len := by omega
            have BW := BA.trans (hb2.mono BA.size)
            have bW := bA.trans (hb2.mono bA.size)
            have hLV : B = true ↔ d.ge ≤ gen ∧ ¬ (d.mx < fl ∧ d.bt ≠ 0) ∧ replG (getE E d.nu) d.nu (k : Int) = false := by
              rw [hBB.out, HB0.out, HIF.out, hje, and_assoc]
            have HLV := hidn hLV
            clear hje hBB hLV
            cases B with
            | false =>
              have HNN : Hid (OwnF wr w.heap.size (.slice fa N fc) (sortE l') ∧ l'.map Fo.pv = (liveTo l gen fl E (k + 1)).map Fo.pv) := hidn ⟨by rw [← HLo.out]; exact HO1.out.below bW, by rw [liveTo_succ, HAT.out, if_neg (fun hx => by have := HLV.out.2 hx; cases this), List.append_nil]; exact HPV.out⟩
              go_wp2_with fail
              exact ⟨⟨k + 1, _, l', by omega, by simp, rfl, by omega, HNN, BW⟩, by simp [intOf]; omega⟩
            | true =>
              have HONE : Hid (liveAt l gen fl E k = [d]) := hidn (by rw [HAT.out, if_pos (HLV.out.1 rfl)])
              obtain ⟨w3, hw3⟩ : ∃ w3, w3 = wr := ⟨wr, rfl⟩
              subst hw3
              have HF3 := hidn (HF.out.below bW)
              have hA3 : wo.heap.size < w3.heap.size := Nat.lt_of_lt_of_le hAs hb2.size
              have HQ3 := hidn ((hb2.block _ hAs).trans HQA.out)
              clear HLV HAT HIF
              go_wp2_with fail
              go_loopw [15] (fun iv wr => ∃ p : Nat, p ≤ N ∧ iv = .int .i64 (p : Int) ∧ Hid (∀ x ∈ Lo.drop p, d.rk < x.rk) ∧ Below w3.heap.size w3 wr) (fun iv _ => (intOf iv).toNat)
              case atStart => exact ⟨N, Nat.le_refl _, rfl, hidn (fun x hx => by rw [HN.out, List.drop_length] at hx; cases hx), Below.refl _ _⟩
              case round =>
                obtain ⟨p, hpN, rfl, HD, hb3⟩ := hrel
                have f3 : wr.cell? ⟨wo.heap.size, 3, none⟩ = some (.int .i64 d.rk) := cell_of_row _ _ _ _ _ _ ((hb3.block _ hA3).trans HQ3.out)
                go_wp2_with fail
                refine region_cut (fun li wx => ∃ (bb v78 v79 : Bool) (v80 v81 v82 v83 v84 v85 v86 v87 v88 : Value), li = [(77, .int .i64 (p : Int)), (78, .bool v78), (79, .bool v79), (80, v80), (81, v81), (82, v82), (83, v83), (84, v84), (85, v85), (86, v86), (87, v87), (88, v88), (89, .bool bb)] ∧ Hid ((bb = true → ∃ q x, p = q + 1 ∧ Lo[q]? = some x ∧ d.rk < x.rk) ∧ (bb = false → ∀ y, 0 < p → Lo[p - 1]? = some y → ¬ d.rk < y.rk)) ∧ Below w3.heap.size w3 wx) ?_ ?_
                · skip
                  by_cases hp0 : p = 0
                  · have hp1 : ¬ (0 : Int) < (p : Int) := by omega
                    have HP0 := hidn hp0
                    clear hp0
                    refine wp_region_noPanic ?_
                    refine wp_region_held_drew (S := fun w' => Below w3.heap.size w3 w') (by kernel_rfl) (hb3.drew) (fun hHeld => ?_)
                    refine drawn_take (i := 0) (v := .int .i64 (p : Int)) (some 77) rfl rfl (by kernel_rfl) (by kernel_rfl) (by kernel_rfl) (fun _ _ _ h => h) (Or.inl ⟨by kernel_rfl, fun wq hw => by go_simp⟩) hHeld ?_
                    simp only [Act.put, List.setIfInBounds_toArray, List.set_cons_succ, List.set_cons_zero]
                    refine drawn_take (i := 1) (v := .bool false) (some 78) rfl rfl (by kernel_rfl) (by kernel_rfl) (by kernel_rfl) (fun _ _ _ h => h) (Or.inl ⟨by kernel_rfl, fun wq hw => by go_simp; omega⟩) hHeld ?_
                    simp only [Act.put, List.setIfInBounds_toArray, List.set_cons_succ, List.set_cons_zero]
                    refine drawn_take (i := 2) (v := .bool false) (some 79) rfl rfl (by kernel_rfl) (by kernel_rfl) (by kernel_rfl) (fun _ _ _ h => h) (Or.inl ⟨by kernel_rfl, fun wq hw => by go_simp⟩) hHeld ?_
                    simp only [Act.put, List.setIfInBounds_toArray, List.set_cons_succ, List.set_cons_zero]
                    refine drawn_take (i := 3) (v := undef) (some 80) rfl rfl (by kernel_rfl) (by kernel_rfl) (by kernel_rfl) (fun _ _ _ h => h) (Or.inr ⟨by kernel_rfl, rfl⟩) hHeld ?_
                    simp only [Act.put, List.setIfInBounds_toArray, List.set_cons_succ, List.set_cons_zero]
                    refine drawn_take (i := 4) (v := undef) (some 81) rfl rfl (by kernel_rfl) (by kernel_rfl) (by kernel_rfl) (fun _ _ _ h => h) (Or.inr ⟨by kernel_rfl, rfl⟩) hHeld ?_
                    simp only [Act.put, List.setIfInBounds_toArray, List.set_cons_succ, List.set_cons_zero]
                    refine drawn_take (i := 5) (v := undef) (some 82) rfl rfl (by kernel_rfl) (by kernel_rfl) (by kernel_rfl) (fun _ _ _ h => h) (Or.inr ⟨by kernel_rfl, rfl⟩) hHeld ?_
                    simp only [Act.put, List.setIfInBounds_toArray, List.set_cons_succ, List.set_cons_zero]
                    refine drawn_take (i := 6) (v := undef) (some 83) rfl rfl (by kernel_rfl) (by kernel_rfl) (by kernel_rfl) (fun _ _ _ h => h) (Or.inr ⟨by kernel_rfl, rfl⟩) hHeld ?_
                    simp only [Act.put, List.setIfInBounds_toArray, List.set_cons_succ, List.set_cons_zero]
                    refine drawn_take (i := 7) (v := undef) (some 84) rfl rfl (by kernel_rfl) (by kernel_rfl) (by kernel_rfl) (fun _ _ _ h => h) (Or.inr ⟨by kernel_rfl, rfl⟩) hHeld ?_
                    simp only [Act.put, List.setIfInBounds_toArray, List.set_cons_succ, List.set_cons_zero]
                    refine drawn_take (i := 8) (v := undef) (some 85) rfl rfl (by kernel_rfl) (by kernel_rfl) (by kernel_rfl) (fun _ _ _ h => h) (Or.inr ⟨by kernel_rfl, rfl⟩) hHeld ?_
                    simp only [Act.put, List.setIfInBounds_toArray, List.set_cons_succ, List.set_cons_zero]
                    refine drawn_take (i := 9) (v := undef) (some 86) rfl rfl (by kernel_rfl) (by kernel_rfl) (by kernel_rfl) (fun _ _ _ h => h) (Or.inr ⟨by kernel_rfl, rfl⟩) hHeld ?_
                    simp only [Act.put, List.setIfInBounds_toArray, List.set_cons_succ, List.set_cons_zero]
                    refine drawn_take (i := 10) (v := undef) (some 87) rfl rfl (by kernel_rfl) (by kernel_rfl) (by kernel_rfl) (fun _ _ _ h => h) (Or.inr ⟨by kernel_rfl, rfl⟩) hHeld ?_
                    simp only [Act.put, List.setIfInBounds_toArray, List.set_cons_succ, List.set_cons_zero]
                    refine drawn_take (i := 11) (v := undef) (some 88) rfl rfl (by kernel_rfl) (by kernel_rfl) (by kernel_rfl) (fun _ _ _ h => h) (Or.inr ⟨by kernel_rfl, rfl⟩) hHeld ?_
                    simp only [Act.put, List.setIfInBounds_toArray, List.set_cons_succ, List.set_cons_zero]
                    refine drawn_take (i := 12) (v := .bool false) (some 89) rfl rfl (by kernel_rfl) (by kernel_rfl) (by kernel_rfl) (fun _ _ _ h => h) (Or.inl ⟨by kernel_rfl, fun wq hw => by go_simp⟩) hHeld ?_
                    simp only [Act.put, List.setIfInBounds_toArray, List.set_cons_succ, List.set_cons_zero]
                    refine wpAnyH_done (by kernel_rfl) ?_ _
                    refine NoPanic.normal ?_
                    clear hHeld
                    exact ⟨rfl, _, ⟨false, false, false, undef, undef, undef, undef, undef, undef, undef, undef, undef, rfl, hidn ⟨(fun e => by cases e), fun _ y hy => by have := HP0.out; omega⟩, hb3.drew⟩, by kernel_rfl⟩
                  · obtain ⟨q, hpq⟩ : ∃ q, p = q + 1 := ⟨p - 1, by omega⟩
                    obtain ⟨x, hx⟩ : ∃ x, Lo[q]? = some x := ⟨_, List.getElem?_eq_getElem (by rw [← HN.out]; omega)⟩
                    obtain ⟨xb, xo, hxa, hxk, _, _, _, g3, _⟩ := (HF3.out.below hb3).at hx
                    have hp1 : (0 : Int) < (p : Int) := by omega
                    have hqi : (p : Int) - 1 = (q : Int) := by omega
                    have hqN : (q : Int) < (N : Int) := by omega
                    have HXX := hidn hx
                    have HPQ := hidn hpq
                    clear hx hp0 hpq
                    rw [hxa]
                    by_cases hrk : d.rk < x.rk
                    · skip
                      refine wp_region_noPanic ?_
                      refine wp_region_held_drew (S := fun w' => w'.cell? ⟨wo.heap.size, 3, none⟩ = some (.int .i64 d.rk) ∧ w'.cell? ⟨xb, xo + q * 8 + 3, none⟩ = some (.int .i64 x.rk)) (by kernel_rfl) (⟨f3, g3⟩) (fun hHeld => ?_)
                      refine drawn_take (i := 0) (v := .int .i64 (p : Int)) (some 77) rfl rfl (by kernel_rfl) (by kernel_rfl) (by kernel_rfl) (fun _ _ _ h => h) (Or.inl ⟨by kernel_rfl, fun wq hw => by go_simp⟩) hHeld ?_
                      simp only [Act.put, List.setIfInBounds_toArray, List.set_cons_succ, List.set_cons_zero]
                      refine drawn_take (i := 1) (v := .bool true) (some 78) rfl rfl (by kernel_rfl) (by kernel_rfl) (by kernel_rfl) (fun _ _ _ h => h) (Or.inl ⟨by kernel_rfl, fun wq hw => by go_simp; omega⟩) hHeld ?_
                      simp only [Act.put, List.setIfInBounds_toArray, List.set_cons_succ, List.set_cons_zero]
                      refine drawn_take (i := 2) (v := .bool true) (some 79) rfl rfl (by kernel_rfl) (by kernel_rfl) (by kernel_rfl) (fun _ _ _ h => h) (Or.inl ⟨by kernel_rfl, fun wq hw => by go_simp⟩) hHeld ?_
                      simp only [Act.put, List.setIfInBounds_toArray, List.set_cons_succ, List.set_cons_zero]
                      refine drawn_take (i := 3) (v := .slice (some ⟨xb, xo, none⟩) N fc) (some 80) rfl rfl (by kernel_rfl) (by kernel_rfl) (by kernel_rfl) (fun _ _ _ h => h) (Or.inl ⟨by kernel_rfl, fun wq hw => by go_simp⟩) hHeld ?_
                      simp only [Act.put, List.setIfInBounds_toArray, List.set_cons_succ, List.set_cons_zero]
                      refine drawn_take (i := 4) (v := .int .i64 (p : Int)) (some 81) rfl rfl (by kernel_rfl) (by kernel_rfl) (by kernel_rfl) (fun _ _ _ h => h) (Or.inl ⟨by kernel_rfl, fun wq hw => by go_simp⟩) hHeld ?_
                      simp only [Act.put, List.setIfInBounds_toArray, List.set_cons_succ, List.set_cons_zero]
                      refine drawn_take (i := 5) (v := .int .i64 (q : Int)) (some 82) rfl rfl (by kernel_rfl) (by kernel_rfl) (by kernel_rfl) (fun _ _ _ h => h) (Or.inl ⟨by kernel_rfl, fun wq hw => by go_simp; first | (rw [IntKind.wrap_i64]; omega) | (unfold wrap64; omega)⟩) hHeld ?_
                      simp only [Act.put, List.setIfInBounds_toArray, List.set_cons_succ, List.set_cons_zero]
                      refine drawn_take (i := 6) (v := .pointer (some ⟨xb, xo + q * 8, none⟩)) (some 83) rfl rfl (by kernel_rfl) (by kernel_rfl) (by kernel_rfl) (fun _ _ _ h => h) (Or.inl ⟨by kernel_rfl, fun wq hw => by go_simp⟩) hHeld ?_
                      simp only [Act.put, List.setIfInBounds_toArray, List.set_cons_succ, List.set_cons_zero]
                      refine drawn_take (i := 7) (v := .pointer (some ⟨xb, xo + q * 8 + 3, none⟩)) (some 84) rfl rfl (by kernel_rfl) (by kernel_rfl) (by kernel_rfl) (fun _ _ _ h => h) (Or.inl ⟨by kernel_rfl, fun wq hw => by go_simp⟩) hHeld ?_
                      simp only [Act.put, List.setIfInBounds_toArray, List.set_cons_succ, List.set_cons_zero]
                      refine drawn_take (i := 8) (v := .int .i64 x.rk) (some 85) rfl rfl (by kernel_rfl) (by kernel_rfl) (by kernel_rfl) (fun _ _ _ h => h) (Or.inl ⟨by kernel_rfl, fun wq hw => by have q9 := hw.2; go_simp⟩) hHeld ?_
                      simp only [Act.put, List.setIfInBounds_toArray, List.set_cons_succ, List.set_cons_zero]
                      refine drawn_take (i := 9) (v := .pointer (some ⟨wo.heap.size, 3, none⟩)) (some 86) rfl rfl (by kernel_rfl) (by kernel_rfl) (by kernel_rfl) (fun _ _ _ h => h) (Or.inl ⟨by kernel_rfl, fun wq hw => by go_simp⟩) hHeld ?_
                      simp only [Act.put, List.setIfInBounds_toArray, List.set_cons_succ, List.set_cons_zero]
                      refine drawn_take (i := 10) (v := .int .i64 d.rk) (some 87) rfl rfl (by kernel_rfl) (by kernel_rfl) (by kernel_rfl) (fun _ _ _ h => h) (Or.inl ⟨by kernel_rfl, fun wq hw => by have q9 := hw.1; go_simp⟩) hHeld ?_
                      simp only [Act.put, List.setIfInBounds_toArray, List.set_cons_succ, List.set_cons_zero]
                      refine drawn_take (i := 11) (v := .bool true) (some 88) rfl rfl (by kernel_rfl) (by kernel_rfl) (by kernel_rfl) (fun _ _ _ h => h) (Or.inl ⟨by kernel_rfl, fun wq hw => by go_simp⟩) hHeld ?_
                      simp only [Act.put, List.setIfInBounds_toArray, List.set_cons_succ, List.set_cons_zero]
                      refine drawn_take (i := 12) (v := .bool true) (some 89) rfl rfl (by kernel_rfl) (by kernel_rfl) (by kernel_rfl) (fun _ _ _ h => h) (Or.inl ⟨by kernel_rfl, fun wq hw => by go_simp⟩) hHeld ?_
                      simp only [Act.put, List.setIfInBounds_toArray, List.set_cons_succ, List.set_cons_zero]
                      refine wpAnyH_done (by kernel_rfl) ?_ _
                      refine NoPanic.normal ?_
                      clear hHeld
                      exact ⟨rfl, _, ⟨true, true, true, .slice (some ⟨xb, xo, none⟩) N fc, .int .i64 (p : Int), .int .i64 (q : Int), .pointer (some ⟨xb, xo + q * 8, none⟩), .pointer (some ⟨xb, xo + q * 8 + 3, none⟩), .int .i64 x.rk, .pointer (some ⟨wo.heap.size, 3, none⟩), .int .i64 d.rk, .bool true, rfl, hidn ⟨fun _ => ⟨q, x, HPQ.out, HXX.out, hrk⟩, (fun e => by cases e)⟩, hb3.drew⟩, by kernel_rfl⟩
                    · skip
                      refine wp_region_noPanic ?_
                      refine wp_region_held_drew (S := fun w' => w'.cell? ⟨wo.heap.size, 3, none⟩ = some (.int .i64 d.rk) ∧ w'.cell? ⟨xb, xo + q * 8 + 3, none⟩ = some (.int .i64 x.rk)) (by kernel_rfl) (⟨f3, g3⟩) (fun hHeld => ?_)
                      refine drawn_take (i := 0) (v := .int .i64 (p : Int)) (some 77) rfl rfl (by kernel_rfl) (by kernel_rfl) (by kernel_rfl) (fun _ _ _ h => h) (Or.inl ⟨by kernel_rfl, fun wq hw => by go_simp⟩) hHeld ?_
                      simp only [Act.put, List.setIfInBounds_toArray, List.set_cons_succ, List.set_cons_zero]
                      refine drawn_take (i := 1) (v := .bool true) (some 78) rfl rfl (by kernel_rfl) (by kernel_rfl) (by kernel_rfl) (fun _ _ _ h => h) (Or.inl ⟨by kernel_rfl, fun wq hw => by go_simp; omega⟩) hHeld ?_
                      simp only [Act.put, List.setIfInBounds_toArray, List.set_cons_succ, List.set_cons_zero]
                      refine drawn_take (i := 2) (v := .bool true) (some 79) rfl rfl (by kernel_rfl) (by kernel_rfl) (by kernel_rfl) (fun _ _ _ h => h) (Or.inl ⟨by kernel_rfl, fun wq hw => by go_simp⟩) hHeld ?_
                      simp only [Act.put, List.setIfInBounds_toArray, List.set_cons_succ, List.set_cons_zero]
                      refine drawn_take (i := 3) (v := .slice (some ⟨xb, xo, none⟩) N fc) (some 80) rfl rfl (by kernel_rfl) (by kernel_rfl) (by kernel_rfl) (fun _ _ _ h => h) (Or.inl ⟨by kernel_rfl, fun wq hw => by go_simp⟩) hHeld ?_
                      simp only [Act.put, List.setIfInBounds_toArray, List.set_cons_succ, List.set_cons_zero]
                      refine drawn_take (i := 4) (v := .int .i64 (p : Int)) (some 81) rfl rfl (by kernel_rfl) (by kernel_rfl) (by kernel_rfl) (fun _ _ _ h => h) (Or.inl ⟨by kernel_rfl, fun wq hw => by go_simp⟩) hHeld ?_
                      simp only [Act.put, List.setIfInBounds_toArray, List.set_cons_succ, List.set_cons_zero]
                      refine drawn_take (i := 5) (v := .int .i64 (q : Int)) (some 82) rfl rfl (by kernel_rfl) (by kernel_rfl) (by kernel_rfl) (fun _ _ _ h => h) (Or.inl ⟨by kernel_rfl, fun wq hw => by go_simp; first | (rw [IntKind.wrap_i64]; omega) | (unfold wrap64; omega)⟩) hHeld ?_
                      simp only [Act.put, List.setIfInBounds_toArray, List.set_cons_succ, List.set_cons_zero]
                      refine drawn_take (i := 6) (v := .pointer (some ⟨xb, xo + q * 8, none⟩)) (some 83) rfl rfl (by kernel_rfl) (by kernel_rfl) (by kernel_rfl) (fun _ _ _ h => h) (Or.inl ⟨by kernel_rfl, fun wq hw => by go_simp⟩) hHeld ?_
                      simp only [Act.put, List.setIfInBounds_toArray, List.set_cons_succ, List.set_cons_zero]
                      refine drawn_take (i := 7) (v := .pointer (some ⟨xb, xo + q * 8 + 3, none⟩)) (some 84) rfl rfl (by kernel_rfl) (by kernel_rfl) (by kernel_rfl) (fun _ _ _ h => h) (Or.inl ⟨by kernel_rfl, fun wq hw => by go_simp⟩) hHeld ?_
                      simp only [Act.put, List.setIfInBounds_toArray, List.set_cons_succ, List.set_cons_zero]
                      refine drawn_take (i := 8) (v := .int .i64 x.rk) (some 85) rfl rfl (by kernel_rfl) (by kernel_rfl) (by kernel_rfl) (fun _ _ _ h => h) (Or.inl ⟨by kernel_rfl, fun wq hw => by have q9 := hw.2; go_simp⟩) hHeld ?_
                      simp only [Act.put, List.setIfInBounds_toArray, List.set_cons_succ, List.set_cons_zero]
                      refine drawn_take (i := 9) (v := .pointer (some ⟨wo.heap.size, 3, none⟩)) (some 86) rfl rfl (by kernel_rfl) (by kernel_rfl) (by kernel_rfl) (fun _ _ _ h => h) (Or.inl ⟨by kernel_rfl, fun wq hw => by go_simp⟩) hHeld ?_
                      simp only [Act.put, List.setIfInBounds_toArray, List.set_cons_succ, List.set_cons_zero]
                      refine drawn_take (i := 10) (v := .int .i64 d.rk) (some 87) rfl rfl (by kernel_rfl) (by kernel_rfl) (by kernel_rfl) (fun _ _ _ h => h) (Or.inl ⟨by kernel_rfl, fun wq hw => by have q9 := hw.1; go_simp⟩) hHeld ?_
                      simp only [Act.put, List.setIfInBounds_toArray, List.set_cons_succ, List.set_cons_zero]
                      refine drawn_take (i := 11) (v := .bool false) (some 88) rfl rfl (by kernel_rfl) (by kernel_rfl) (by kernel_rfl) (fun _ _ _ h => h) (Or.inl ⟨by kernel_rfl, fun wq hw => by go_simp⟩) hHeld ?_
                      simp only [Act.put, List.setIfInBounds_toArray, List.set_cons_succ, List.set_cons_zero]
                      refine drawn_take (i := 12) (v := .bool false) (some 89) rfl rfl (by kernel_rfl) (by kernel_rfl) (by kernel_rfl) (fun _ _ _ h => h) (Or.inl ⟨by kernel_rfl, fun wq hw => by go_simp⟩) hHeld ?_
                      simp only [Act.put, List.setIfInBounds_toArray, List.set_cons_succ, List.set_cons_zero]
                      refine wpAnyH_done (by kernel_rfl) ?_ _
                      refine NoPanic.normal ?_
                      clear hHeld
                      exact ⟨rfl, _, ⟨false, true, true, .slice (some ⟨xb, xo, none⟩) N fc, .int .i64 (p : Int), .int .i64 (q : Int), .pointer (some ⟨xb, xo + q * 8, none⟩), .pointer (some ⟨xb, xo + q * 8 + 3, none⟩), .int .i64 x.rk, .pointer (some ⟨wo.heap.size, 3, none⟩), .int .i64 d.rk, .bool false, rfl, hidn ⟨(fun e => by cases e), fun _ y _ hy => by
                        rw [HPQ.out, Nat.add_sub_cancel, HXX.out] at hy
                        injection hy with hy
                        rw [← hy]
                        exact hrk⟩, hb3.drew⟩, by kernel_rfl⟩
                · rintro li wc ⟨bb, v78, v79, v80, v81, v82, v83, v84, v85, v86, v87, v88, rfl, hcb, hbc⟩
                  simp only [putAll, List.foldl_cons, List.foldl_nil, Act.put, List.setIfInBounds_toArray, List.set_cons_succ, List.set_cons_zero]
                  obtain ⟨hbt, hbf⟩ := hcb.out
                  clear hcb
                  cases bb with
                  | true =>
                    obtain ⟨q, x, hpq, hx, hrk⟩ := hbt rfl
                    have HDQ : Hid (∀ x ∈ Lo.drop q, d.rk < x.rk) := hidn (fun y hy => by
                      have hql : q < Lo.length := (List.getElem?_eq_some_iff.1 hx).1
                      rw [List.drop_eq_getElem_cons hql, (List.getElem?_eq_some_iff.1 hx).2] at hy
                      rcases List.mem_cons.1 hy with rfl | hy
                      · exact hrk
                      · rw [← hpq] at hy; exact HD.out y hy)
                    have hqi : (p : Int) - 1 = (q : Int) := by omega
                    have hqp : q < p := by omega
                    clear hbt hbf hx hrk hpq HD f3
                    go_wp2_with fail
                    refine ⟨⟨q, by omega, ?_, HDQ, hbc⟩, ?_⟩
                    · simp
                    · simp [intOf]; omega
                  | false =>
                    have hEND := hbf rfl
                    obtain ⟨w5, hw5⟩ : ∃ w5, w5 = wc := ⟨wc, rfl⟩
                    subst hw5
                    obtain ⟨n0, hn0⟩ : ∃ n0, n0 = w5.heap.size := ⟨_, rfl⟩
                    have HNE := hidn hn0
                    have h3n : w3.heap.size ≤ n0 := by rw [hn0]; exact hbc.size
                    have hg9 : wo.heap.size < n0 := Nat.lt_of_lt_of_le hA3 h3n
                    have HQ9 : Hid (w5.heap[wo.heap.size]? = some (.cells d.cells.toArray 31 (0, 0))) := hidn ((hbc.block _ hA3).trans HQ3.out)
                    have bW5 := bW.trans (hbc.mono bW.size)
                    have BW5 := BW.trans (hbc.mono BW.size)
                    have HF5 := hidn (HF.out.below bW5)
                    have HCp : Hid (∀ W, Below n0 w5 W → Calls Try.prog 16 #[d.agg] W (CopyP W d)) := hidn (fun W hW => refCopy_any d W (((HIA.out.below hb2).below hbc).below (by rw [← HNE.out]; exact hW)) HPL.out)
                    obtain ⟨k1, hk1⟩ : ∃ k1, k1 = p + 1 := ⟨_, rfl⟩
                    obtain ⟨m2, hm2⟩ : ∃ m2, m2 = N - p := ⟨_, rfl⟩
                    obtain ⟨c2, hc2⟩ : ∃ c2, c2 = fc - p := ⟨_, rfl⟩
                    obtain ⟨a2, ha2⟩ : ∃ a2 : Option Addr, a2 = lowF fa fc p := ⟨_, rfl⟩
                    obtain ⟨n9, hn9⟩ : ∃ n9, n9 = k1 + m2 := ⟨_, rfl⟩
                    have hn9' : n9 = N + 1 := by omega
                    have HA2 := hidn ha2
                    have HM2 := hidn hm2
                    have HC2 := hidn hc2
                    have HN9 := hidn hn9'
                    have HSrcA : Hid (∀ W, Below n0 w5 W → SrcF W fa p (fvs (Lo.take p))) := hidn (fun W hW => ((HF5.out.below (by rw [← HNE.out]; exact hW)).take p hpN).src)
                    have HSrcB : Hid (∀ W, Below n0 w5 W → SrcF W a2 m2 (fvs (Lo.drop p))) := hidn (fun W hW => by rw [ha2, hm2]; exact (HF5.out.below (by rw [← HNE.out]; exact hW)).low hAF hpN)
                    have hEN := hidn hEND
                    clear hbt hbf f3 hn0 ha2 hc2 hn9' hEND
                    go_wp2_with fail
                    refine region_cut (fun li w' => ∃ (b92 : Nat) (aA : Option Addr) (cA : Nat) (f : Fo) (b99 : Nat) (aB : Option Addr) (cB : Nat) (aC : Option Addr) (cC : Nat), li = [(92, .slice (some ⟨b92, 0, none⟩) 0 0), (93, .slice fa N fc), (94, .int .i64 (p : Int)), (95, .slice fa p fc), (96, .slice aA p cA), (97, d.agg), (98, f.agg), (99, .slice (some ⟨b99, 0, none⟩) 1 1), (100, .slice aB k1 cB), (101, .slice fa N fc), (102, .int .i64 (p : Int)), (103, .slice a2 m2 c2), (104, .slice aC n9 cC), (7, .slice aC n9 cC)] ∧ f.pv = d.pv ∧ OwnP w' n0 f ∧ Below n0 w5 w' ∧ w'.ownsRow n0 31 8 (.slice aC n9 cC) n9 (fvs (Lo.take p) ++ f.cells ++ fvs (Lo.drop p))) ?_ ?_
                    · skip
                      refine wp_region_noPanic ?_
                      refine wp_region_held_drew (S := Below n0 w5) (by kernel_rfl) ((Below.refl n0 w5).drew) (fun hHeld => ?_)
                      obtain ⟨Wd, hWd⟩ : ∃ Wd, Wd = w5.drew := ⟨_, rfl⟩
                      have hle0 : n0 ≤ Wd.heap.size := by rw [hWd]; exact Nat.le_of_eq HNE.out
                      have hK0 : Below n0 w5 Wd := by rw [hWd]; exact (Below.refl n0 w5).drew
                      rw [← hWd] at hHeld ⊢
                      clear hWd
                      refine drawn_take (i := 1) (v := .slice fa N fc) (some 93) rfl rfl (by kernel_rfl) (by kernel_rfl) (by kernel_rfl) (fun _ _ _ h => h) (Or.inl ⟨by kernel_rfl, fun wq hw => by go_simp⟩) hHeld ?_
                      simp only [Act.put, List.setIfInBounds_toArray, List.set_cons_succ, List.set_cons_zero]
                      refine drawn_take (i := 2) (v := .int .i64 (p : Int)) (some 94) rfl rfl (by kernel_rfl) (by kernel_rfl) (by kernel_rfl) (fun _ _ _ h => h) (Or.inl ⟨by kernel_rfl, fun wq hw => by go_simp⟩) hHeld ?_
                      simp only [Act.put, List.setIfInBounds_toArray, List.set_cons_succ, List.set_cons_zero]
                      refine drawn_take (i := 3) (v := .slice fa p fc) (some 95) rfl rfl (by kernel_rfl) (by kernel_rfl) (by kernel_rfl) (fun _ _ _ h => h) (Or.inl ⟨by kernel_rfl, fun wq hw => slHF_run (x := .tmp 93) (z := .tmp 94) (N := N) rfl (by kernel_rfl) (by kernel_rfl) hAF hpN⟩) hHeld ?_
                      simp only [Act.put, List.setIfInBounds_toArray, List.set_cons_succ, List.set_cons_zero]
                      refine drawn_take (i := 5) (v := d.agg) (some 97) rfl rfl (by kernel_rfl) (by kernel_rfl) (by kernel_rfl) (fun _ _ _ h => h) (Or.inl ⟨by kernel_rfl, fun wq hw => ldF_run (x := .tmp 9) (g := wo.heap.size) rfl (by kernel_rfl) ((hw.block _ hg9).trans HQ9.out)⟩) hHeld ?_
                      simp only [Act.put, List.setIfInBounds_toArray, List.set_cons_succ, List.set_cons_zero]
                      refine drawn_take (i := 9) (v := .slice fa N fc) (some 101) rfl rfl (by kernel_rfl) (by kernel_rfl) (by kernel_rfl) (fun _ _ _ h => h) (Or.inl ⟨by kernel_rfl, fun wq hw => by go_simp⟩) hHeld ?_
                      simp only [Act.put, List.setIfInBounds_toArray, List.set_cons_succ, List.set_cons_zero]
                      refine drawn_take (i := 10) (v := .int .i64 (p : Int)) (some 102) rfl rfl (by kernel_rfl) (by kernel_rfl) (by kernel_rfl) (fun _ _ _ h => h) (Or.inl ⟨by kernel_rfl, fun wq hw => by go_simp⟩) hHeld ?_
                      simp only [Act.put, List.setIfInBounds_toArray, List.set_cons_succ, List.set_cons_zero]
                      refine drawn_take (i := 11) (v := .slice a2 m2 c2) (some 103) rfl rfl (by kernel_rfl) (by kernel_rfl) (by kernel_rfl) (fun _ _ _ h => h) (Or.inl ⟨by kernel_rfl, fun wq hw => slLF_run (x := .tmp 101) (z := .tmp 102) (fa := fa) (N := N) (fc := fc) (k := p) rfl (by kernel_rfl) (by kernel_rfl) hAF hpN HA2 HM2 HC2⟩) hHeld ?_
                      simp only [Act.put, List.setIfInBounds_toArray, List.set_cons_succ, List.set_cons_zero]
                      refine wpAnyH_ready (rs := [0]) (by kernel_rfl) (by simp) ?_
                      refine rdy_val (i := 0) rfl rfl (some 92) rfl (.slice (some ⟨Wd.heap.size, 0, none⟩) 0 0) (Wd.alloc (.cells #[] 31)) (mkF0_run rfl) (hK0.alloc (hle0) _) (fun hHeld => ?_) rdy_nil
                      simp only [Act.put, List.setIfInBounds_toArray, List.set_cons_succ, List.set_cons_zero]
                      have he1 := heap_alloc_new Wd (.cells #[] 31)
                      have hK1 := hK0.alloc (hle0) (.cells #[] 31)
                      have hb1 : Below Wd.heap.size Wd (Wd.alloc (.cells #[] 31)) := (Below.refl _ Wd).alloc (Nat.le_refl _) _
                      have hn1 : n0 ≤ Wd.heap.size := hle0
                      have hlt1 : Wd.heap.size < (Wd.alloc (.cells #[] 31)).heap.size := by simp
                      have ho1 := own_emptyN (size := 8) he1 hn1
                      obtain ⟨b1, hbe1⟩ : ∃ b, b = Wd.heap.size := ⟨_, rfl⟩
                      obtain ⟨W1, hW1⟩ : ∃ W', W' = Wd.alloc (.cells #[] 31) := ⟨_, rfl⟩
                      rw [← hW1] at hHeld hK1 hb1 he1 hlt1 ho1
                      rw [← hbe1] at ho1 hlt1
                      rw [← hbe1, ← hW1]
                      clear hW1 he1
                      refine wpAnyH_ready (rs := [4]) (by kernel_rfl) (by simp) ?_
                      obtain ⟨ga2, gc2, W2, hr2, ho2, hg2⟩ := appF W1 n0 (some ⟨b1, 0, none⟩) 0 0 [] ho1 (Nat.le_trans (hle0) hb1.size) fa p fc (fvs (Lo.take p)) (HSrcA.out W1 hK1) p (by omega) (by omega)
                      refine rdy_val (i := 4) rfl rfl (some 96) rfl (.slice ga2 p gc2) W2 (appl_run (x := .tmp 92) (y := .tmp 95) rfl (by kernel_rfl) (by kernel_rfl) hr2) (hK1.grown hg2 (Nat.le_trans (hle0) hb1.size) (fun b hb => (ho1.lt b hb).1)) (fun hHeld => ?_) rdy_nil
                      simp only [Act.put, List.setIfInBounds_toArray, List.set_cons_succ, List.set_cons_zero]
                      clear hr2
                      have hK2 := hK1.grown hg2 (Nat.le_trans (hle0) hb1.size) (fun b hb => (ho1.lt b hb).1)
                      refine wpAnyH_ready (rs := [6]) (by kernel_rfl) (by simp) ?_
                      refine rdy_call (i := 6) rfl rfl (some 98) rfl 16 #[d.agg] (call1_run (x := 97) (ts := #[31]) (by kernel_rfl) EN (by kernel_rfl)) (fun v w' => ∃ f : Fo, v = f.agg ∧ f.pv = d.pv ∧ OwnP w' W2.heap.size f ∧ Below W2.heap.size W2 w') ((HCp.out W2 hK2).mono fun e w' h => by obtain ⟨f, h1, h2, h3, h4⟩ := h; exact ⟨_, h1, f, rfl, h2, h3, h4⟩) (fun v W3 hR => ?_) rdy_nil
                      obtain ⟨f3, rfl, hp3, hP3, hb3⟩ := hR
                      have hK3 := hK2.trans (hb3.mono (Nat.le_trans (Nat.le_trans (hle0) hb1.size) hg2.size))
                      have hQ3 : OwnP W3 n0 f3 := ⟨own_lower hP3.1 (Nat.le_trans (Nat.le_trans (hle0) hb1.size) hg2.size), hP3.2⟩
                      refine ⟨hK3, fun hHeld => ?_⟩
                      simp only [Act.put, List.setIfInBounds_toArray, List.set_cons_succ, List.set_cons_zero]
                      clear hP3
                      have ho2_3 := own_skip ho2 hb3
                      refine wpAnyH_ready (rs := [7]) (by kernel_rfl) (by simp) ?_
                      refine rdy_val (i := 7) rfl rfl (some 99) rfl (.slice (some ⟨W3.heap.size, 0, none⟩) 1 1) (W3.alloc (.cells f3.cells.toArray 31)) (bsF1_run (x := .tmp 98) rfl (by kernel_rfl)) (hK3.alloc (Nat.le_trans (Nat.le_trans (Nat.le_trans (hle0) hb1.size) hg2.size) hb3.size) _) (fun hHeld => ?_) rdy_nil
                      simp only [Act.put, List.setIfInBounds_toArray, List.set_cons_succ, List.set_cons_zero]
                      have he4 := heap_alloc_new W3 (.cells f3.cells.toArray 31)
                      have hK4 := hK3.alloc (Nat.le_trans (Nat.le_trans (Nat.le_trans (hle0) hb1.size) hg2.size) hb3.size) (.cells f3.cells.toArray 31)
                      have hb4 : Below W3.heap.size W3 (W3.alloc (.cells f3.cells.toArray 31)) := (Below.refl _ W3).alloc (Nat.le_refl _) _
                      have hQ3_4 := OwnP.below hQ3 hb4
                      have ho2_3_4 := own_skip ho2_3 hb4
                      obtain ⟨b4, hbe4⟩ : ∃ b, b = W3.heap.size := ⟨_, rfl⟩
                      obtain ⟨W4, hW4⟩ : ∃ W', W' = W3.alloc (.cells f3.cells.toArray 31) := ⟨_, rfl⟩
                      rw [← hW4] at hHeld hK4 hb4 he4 hQ3_4 ho2_3_4
                      rw [← hbe4] at he4
                      rw [← hbe4, ← hW4]
                      clear hW4
                      refine wpAnyH_ready (rs := [8]) (by kernel_rfl) (by simp) ?_
                      obtain ⟨ga5, gc5, W5, hr5, ho5, hg5⟩ := appF W4 n0 ga2 p gc2 (fvs (Lo.take p)) ho2_3_4 (Nat.le_trans (Nat.le_trans (Nat.le_trans (Nat.le_trans (hle0) hb1.size) hg2.size) hb3.size) hb4.size) (some ⟨b4, 0, none⟩) 1 1 f3.cells (srcOne he4) k1 (by omega) (by omega)
                      refine rdy_val (i := 8) rfl rfl (some 100) rfl (.slice ga5 k1 gc5) W5 (appl_run (x := .tmp 96) (y := .tmp 99) rfl (by kernel_rfl) (by kernel_rfl) hr5) (hK4.grown hg5 (Nat.le_trans (Nat.le_trans (Nat.le_trans (Nat.le_trans (hle0) hb1.size) hg2.size) hb3.size) hb4.size) (fun b hb => (ho2_3_4.lt b hb).1)) (fun hHeld => ?_) rdy_nil
                      simp only [Act.put, List.setIfInBounds_toArray, List.set_cons_succ, List.set_cons_zero]
                      clear hr5
                      have hK5 := hK4.grown hg5 (Nat.le_trans (Nat.le_trans (Nat.le_trans (Nat.le_trans (hle0) hb1.size) hg2.size) hb3.size) hb4.size) (fun b hb => (ho2_3_4.lt b hb).1)
                      have hQ3_4_5 : OwnP W5 n0 f3 := ⟨hQ3_4.1.kept hg5 (own_apart hQ3_4.1 ho2_3_4 (by decide)), hQ3_4.2⟩
                      refine wpAnyH_ready (rs := [12]) (by kernel_rfl) (by simp) ?_
                      obtain ⟨ga6, gc6, W6, hr6, ho6, hg6⟩ := appF W5 n0 ga5 k1 gc5 (fvs (Lo.take p) ++ f3.cells) ho5 (Nat.le_trans (Nat.le_trans (Nat.le_trans (Nat.le_trans (Nat.le_trans (hle0) hb1.size) hg2.size) hb3.size) hb4.size) hg5.size) a2 m2 c2 (fvs (Lo.drop p)) (HSrcB.out W5 hK5) n9 (by omega) (by omega)
                      refine rdy_val (i := 12) rfl rfl (some 104) rfl (.slice ga6 n9 gc6) W6 (appl_run (x := .tmp 100) (y := .tmp 103) rfl (by kernel_rfl) (by kernel_rfl) hr6) (hK5.grown hg6 (Nat.le_trans (Nat.le_trans (Nat.le_trans (Nat.le_trans (Nat.le_trans (hle0) hb1.size) hg2.size) hb3.size) hb4.size) hg5.size) (fun b hb => (ho5.lt b hb).1)) (fun hHeld => ?_) rdy_nil
                      simp only [Act.put, List.setIfInBounds_toArray, List.set_cons_succ, List.set_cons_zero]
                      clear hr6
                      have hK6 := hK5.grown hg6 (Nat.le_trans (Nat.le_trans (Nat.le_trans (Nat.le_trans (Nat.le_trans (hle0) hb1.size) hg2.size) hb3.size) hb4.size) hg5.size) (fun b hb => (ho5.lt b hb).1)
                      have hQ3_4_5_6 : OwnP W6 n0 f3 := ⟨hQ3_4_5.1.kept hg6 (own_apart hQ3_4_5.1 ho5 (by decide)), hQ3_4_5.2⟩
                      refine drawn_take (i := 13) (v := .slice ga6 n9 gc6) (some 7) rfl rfl (by kernel_rfl) (by kernel_rfl) (by kernel_rfl) (fun _ _ _ h => h) (Or.inl ⟨by kernel_rfl, fun wq hw => by go_simp⟩) hHeld ?_
                      simp only [Act.put, List.setIfInBounds_toArray, List.set_cons_succ, List.set_cons_zero]
                      refine wpAnyH_done (by kernel_rfl) ?_ _
                      refine NoPanic.normal ?_
                      have hKeep := hHeld
                      clear hHeld
                      exact ⟨rfl, _, ⟨b1, ga2, gc2, f3, b4, ga5, gc5, ga6, gc6, rfl, hp3, hQ3_4_5_6, hK6, ho6⟩, by kernel_rfl⟩
                    · rintro li w6 ⟨b92, aA, cA, f, b99, aB, cB, aC, cC, rfl, hpv, hfP, hB6, ho6⟩
                      have hfr : f.rk = d.rk := congrArg (fun z : PVt => z.2.2.2.1) hpv
                      have HINS : Hid (sortE (l' ++ [f]) = Lo.take p ++ f :: Lo.drop p) := hidn (by
                        rw [sortE_snoc, ← HLo.out]
                        exact ins_at (by rw [← HN.out]; exact hpN) (fun x hx => by rw [hfr]; exact HD.out x hx) (fun x h0 hx => by rw [hfr]; have := hEN.out x h0 hx; omega))
                      have HB6 : Below w5.heap.size w5 w6 := by rw [← HNE.out]; exact hB6
                      have HOO : Hid (OwnF w6 w.heap.size (.slice aC n9 cC) (sortE (l' ++ [f])) ∧ (l' ++ [f]).map Fo.pv = (liveTo l gen fl E (k + 1)).map Fo.pv) := hidn ⟨own_put (HO1.out.below bW5) HB6 (by rw [HNE.out]; exact BW5.size) HINS.out (by rw [sortE_len, List.length_append, List.length_singleton, HN9.out, HN.out, HLo.out, sortE_len]) hfP ho6, by rw [liveTo_succ, HONE.out, List.map_append, List.map_append, HPV.out, List.map_singleton, List.map_singleton, hpv]⟩
                      have BW6 := BW5.trans (HB6.mono BW5.size)
                      clear hpv hfr hB6 ho6 hfP HB6
                      simp only [putAll, List.foldl_cons, List.foldl_nil, Act.put, List.setIfInBounds_toArray, List.set_cons_succ, List.set_cons_zero]
                      go_wp2_with fail
                      exact ⟨⟨k + 1, _, l' ++ [f], by omega, by simp, rfl, by rw [List.length_append, List.length_singleton]; omega, HOO, BW6⟩, by simp [intOf]; omega⟩
    · have hlt2 : ¬ (k : Int) < (len : Int) := by omega
      have hke : k = len := by omega
      subst hke
      have HL := hidn hO.out
      go_wp2_with fail
      go_ret
      exact ⟨_, l', rfl, HL.out.1, HL.out.2, by omega, hb⟩

end Go.Proofs.Ytpbicnpaldfamaa
