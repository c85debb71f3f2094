/- Which blocks may be, plainly; the document's Can. -/
import Derived.Test.YteammmhlpinhfaaPlG
namespace Go.Proofs.Yteammmhlpinhfaa
open Go.RowKit Go.Joins
set_option linter.unusedVariables false

def rkOk (l : List Fo) (i : Nat) (f : Fo) : Bool := match i with
  | 0 => true
  | j + 1 => match l[j]? with
    | some g => decide (g.rk < f.rk)
    | none => true

def pcAt (l : List Fo) (i : Nat) : Bool := match l[i]? with
  | some f => standF f && rkOk l i f
  | none => true

def pcTo (l : List Fo) (k : Nat) : Bool := (List.range k).all (pcAt l)

def nodupB : List Int → Bool
  | [] => true
  | x :: t => !(t.contains x) && nodupB t

def pcL (l : List Fo) : Bool := pcTo l l.length && nodupB (l.map Fo.nu)

theorem nodupB_iff (xs : List Int) : nodupB xs = true ↔ xs.Nodup := by
  induction xs with
  | nil => simp [nodupB]
  | cons x t ih => simp [nodupB, ih, List.nodup_cons]

theorem pcTo_succ (l : List Fo) (k : Nat) : pcTo l (k + 1) = (pcTo l k && pcAt l k) := by
  unfold pcTo; rw [List.range_succ, List.all_append]; simp

theorem pcAt_of {l : List Fo} {k : Nat} {f : Fo} (h : l[k]? = some f) : pcAt l k = (standF f && rkOk l k f) := by unfold pcAt; rw [h]

theorem pcL_false {l : List Fo} {k : Nat} {f : Fo} (h : l[k]? = some f) (hf : (standF f && rkOk l k f) = false) : pcL l = false := by
  have hk : k < l.length := (List.getElem?_eq_some_iff.1 h).1
  unfold pcL
  have : pcTo l l.length = false := by
    rw [Bool.eq_false_iff]
    intro e
    have := List.all_eq_true.1 e k (List.mem_range.2 hk)
    rw [pcAt_of h, hf] at this
    cases this
  rw [this]
  rfl

theorem rkOk_succ {l : List Fo} {k : Nat} {f g : Fo} (h : l[k]? = some g) : rkOk l (k + 1) f = decide (g.rk < f.rk) := by simp [rkOk, h]

/-- No block ahead of this one has its number. -/
def freshTo (l : List Fo) (k : Nat) : Prop := ∀ i j f g, i < j → j < k → l[i]? = some f → l[j]? = some g → f.nu ≠ g.nu

theorem freshTo_all {l : List Fo} (h : freshTo l l.length) : nodupB (l.map Fo.nu) = true := by
  rw [nodupB_iff, List.Nodup, List.pairwise_iff_getElem]
  intro i j hi hj hij
  rw [List.length_map] at hi hj
  rw [List.getElem_map, List.getElem_map]
  exact h i j _ _ hij hj (List.getElem?_eq_getElem hi) (List.getElem?_eq_getElem hj)

theorem pcdup_false {l : List Fo} {i j : Nat} {f g : Fo} (hij : i < j) (hi : l[i]? = some f) (hj : l[j]? = some g) (e : f.nu = g.nu) : pcL l = false := by
  have : nodupB (l.map Fo.nu) = false := by
    rw [Bool.eq_false_iff]
    intro h
    rw [nodupB_iff, List.Nodup, List.pairwise_iff_getElem] at h
    have h1 := (List.getElem?_eq_some_iff.1 hi)
    have h2 := (List.getElem?_eq_some_iff.1 hj)
    obtain ⟨h1a, h1b⟩ := h1
    obtain ⟨h2a, h2b⟩ := h2
    have := h i j (by rw [List.length_map]; exact h1a) (by rw [List.length_map]; exact h2a) hij
    rw [List.getElem_map, List.getElem_map, h1b, h2b] at this
    exact this e
  unfold pcL
  rw [this, Bool.and_false]

theorem pcL_true {l : List Fo} (h1 : pcTo l l.length = true) (h2 : freshTo l l.length) : pcL l = true := by
  unfold pcL; rw [h1, freshTo_all h2]; rfl

theorem standF_true {f : Fo} (h : standF f = true) : numB f.nu = true ∧ numB f.rk = true ∧ numB f.ge = true ∧ 1 ≤ f.lv ∧ f.lv ≤ 3 ∧ 0 ≤ f.bt ∧ f.bt ≤ 2147483647 ∧ f.mn ≤ f.mx := by
  simp only [standF, Bool.and_eq_true, decide_eq_true_eq] at h
  obtain ⟨⟨⟨⟨⟨⟨⟨h0, h1⟩, h2⟩, h3⟩, h4⟩, h5⟩, h6⟩, h7⟩ := h
  exact ⟨h0, h1, h2, h3, h4, h5, h6, h7⟩

theorem standF_false {f : Fo} (h : standF f = false) :
    numB f.nu = false ∨ (numB f.nu = true ∧ numB f.rk = false) ∨ (numB f.nu = true ∧ numB f.rk = true ∧ numB f.ge = false) ∨ (numB f.nu = true ∧ numB f.rk = true ∧ numB f.ge = true ∧ f.lv < 1) ∨
    (numB f.nu = true ∧ numB f.rk = true ∧ numB f.ge = true ∧ 1 ≤ f.lv ∧ 3 < f.lv) ∨ (numB f.nu = true ∧ numB f.rk = true ∧ numB f.ge = true ∧ 1 ≤ f.lv ∧ f.lv ≤ 3 ∧ f.bt < 0) ∨
    (numB f.nu = true ∧ numB f.rk = true ∧ numB f.ge = true ∧ 1 ≤ f.lv ∧ f.lv ≤ 3 ∧ 0 ≤ f.bt ∧ 2147483647 < f.bt) ∨
    (numB f.nu = true ∧ numB f.rk = true ∧ numB f.ge = true ∧ 1 ≤ f.lv ∧ f.lv ≤ 3 ∧ 0 ≤ f.bt ∧ f.bt ≤ 2147483647 ∧ f.mx < f.mn) := by
  have h' : ¬ (numB f.nu = true ∧ numB f.rk = true ∧ numB f.ge = true ∧ 1 ≤ f.lv ∧ f.lv ≤ 3 ∧ 0 ≤ f.bt ∧ f.bt ≤ 2147483647 ∧ f.mn ≤ f.mx) := by
    rintro ⟨h0, h1, h2, h3, h4, h5, h6, h7⟩
    simp [standF, h0, h1, h2, h3, h4, h5, h6, h7] at h
  cases h0 : numB f.nu with
  | false => exact .inl rfl
  | true =>
    cases h1 : numB f.rk with
    | false => exact .inr (.inl ⟨rfl, rfl⟩)
    | true =>
      cases h2 : numB f.ge with
      | false => exact .inr (.inr (.inl ⟨rfl, rfl, rfl⟩))
      | true =>
        have h2' : ¬ (1 ≤ f.lv ∧ f.lv ≤ 3 ∧ 0 ≤ f.bt ∧ f.bt ≤ 2147483647 ∧ f.mn ≤ f.mx) := fun e => h' ⟨h0, h1, h2, e⟩
        simp only [true_and, reduceCtorEq, and_false, false_or]
        omega

set_option maxHeartbeats 1000000 in
set_option maxRecDepth 100000 in
theorem refCan_any (a : Option Addr) (len cap : Nat) (l : List Fo) (w : World) (h : Fls w a len l) (hm : len ≤ 1000000) (hc : len ≤ cap) :
    Calls Try.prog 16 #[.slice a len cap] w fun e w' => e = .returned (.bool (pcL l)) ∧ Below w.heap.size w w' := by
  have hlen := hidn h.1
  obtain ⟨Z, hZ⟩ : ∃ Z, Z = pcL l := ⟨_, rfl⟩
  rw [← hZ]
  have HZ := hidn hZ
  clear hZ
  go_enter Try.func16, Try.ntmps16
  go_wp2_with fail
  go_loopw [9] (fun iv wr => ∃ (k : Nat), k ≤ len ∧ iv = .int .i64 (k : Int) ∧ Hid (pcTo l k = true ∧ freshTo l k) ∧ Below w.heap.size w wr) (fun iv _ => len - (intOf iv).toNat)
  case atStart => exact ⟨0, Nat.zero_le _, rfl, hidn ⟨rfl, fun i j f g h1 h2 => by omega⟩, Below.refl _ _⟩
  case round =>
    obtain ⟨wo, hwo⟩ : ∃ wo, wo = wr := ⟨wr, rfl⟩
    subst hwo
    obtain ⟨k, hk, rfl, hO, hb⟩ := hrel
    by_cases hlt : k < len
    · have hlt2 : (k : Int) < (len : Int) := by omega
      have hkc : (k : Int) ≤ (cap : Int) := by omega
      obtain ⟨d, hd⟩ : ∃ d, l[k]? = some d := ⟨_, List.getElem?_eq_getElem (by rw [hlen.out]; exact hlt)⟩
      obtain ⟨b, off, rfl, hbk, c0, c1, c2, c3, c4, c5, c6, c7, hms⟩ := (h.below hb).at hd
      have HD : Hid (l[k]? = some d) := hidn hd
      clear hd
      have HF : Hid ((standF d && rkOk l k d) = false → Z = false) := hidn (fun e => by rw [HZ.out]; exact pcL_false HD.out e)
      have HK : Hid ((standF d && rkOk l k d) = true → pcTo l (k + 1) = true) := hidn (fun e => by rw [pcTo_succ, hO.out.1, pcAt_of HD.out, e]; rfl)
      obtain ⟨wA, hwA⟩ : ∃ wA, wA = wo.alloc (.cells #[.int .i64 d.nu, .int .i64 d.ge, .int .i64 d.lv, .int .i64 d.rk, .int .i64 d.mn, .int .i64 d.mx, .int .i64 d.bt, .slice d.pa d.pl d.pc] 37) := ⟨_, rfl⟩
      have bA : Below wo.heap.size wo wA := by rw [hwA]; exact (Below.refl _ wo).alloc (Nat.le_refl _) _
      have BA := hb.trans (bA.mono hb.size)
      have qA : wA.heap[wo.heap.size]? = some (.cells #[.int .i64 d.nu, .int .i64 d.ge, .int .i64 d.lv, .int .i64 d.rk, .int .i64 d.mn, .int .i64 d.mx, .int .i64 d.bt, .slice d.pa d.pl d.pc] 37 (0, 0)) := by rw [hwA]; exact heap_alloc_new wo _
      have e0 : wA.cell? ⟨wo.heap.size, 0, none⟩ = some (.int .i64 d.nu) := cell_of_row _ _ _ _ _ _ qA
      have e1 : wA.cell? ⟨wo.heap.size, 1, none⟩ = some (.int .i64 d.ge) := cell_of_row _ _ _ _ _ _ qA
      have e2 : wA.cell? ⟨wo.heap.size, 2, none⟩ = some (.int .i64 d.lv) := cell_of_row _ _ _ _ _ _ qA
      have e3 : wA.cell? ⟨wo.heap.size, 3, none⟩ = some (.int .i64 d.rk) := cell_of_row _ _ _ _ _ _ qA
      have e4 : wA.cell? ⟨wo.heap.size, 4, none⟩ = some (.int .i64 d.mn) := cell_of_row _ _ _ _ _ _ qA
      have e5 : wA.cell? ⟨wo.heap.size, 5, none⟩ = some (.int .i64 d.mx) := cell_of_row _ _ _ _ _ _ qA
      have e6 : wA.cell? ⟨wo.heap.size, 6, none⟩ = some (.int .i64 d.bt) := cell_of_row _ _ _ _ _ _ qA
      have HWA := hidn hwA
      clear hwA
      cases hs : standF d with
      | false =>
        have HZ2 := hidn (HF.out (by rw [hs]; rfl))
        clear HF HK
        rcases standF_false hs with h0 | ⟨h0, h1⟩ | ⟨h0, h1, h2⟩ | ⟨h0, h1, h2, h3⟩ | ⟨h0, h1, h2, h3, h4⟩ | ⟨h0, h1, h2, h3, h4, h5⟩ | ⟨h0, h1, h2, h3, h4, h5, h6⟩ | ⟨h0, h1, h2, h3, h4, h5, h6, h7⟩
        all_goals
          go_wp2_with (go_at_call 28; refine (refNumber_any _ _).mono ?_; rintro e w' ⟨rfl, rfl⟩)
          exact bodyPost_ret (v := .bool false) (by simp [results, Try.results16, go_sem]) rfl ⟨by rw [HZ2.out], by rw [← HWA.out]; exact BA⟩
      | true =>
        obtain ⟨h0, h1, h2, h3, h4, h5, h6, h7⟩ := standF_true hs
        have h3' : ¬ (d.lv < 1) := by omega
        have h4' : ¬ (3 < d.lv) := by omega
        have h5' : ¬ (d.bt < 0) := by omega
        have h6' : ¬ (2147483647 < d.bt) := by omega
        have h7' : ¬ (d.mx < d.mn) := by omega
        rw [hs] at HF HK
        have HS := hidn hs
        clear hs
        go_wp2_with (go_at_call 28; refine (refNumber_any _ _).mono ?_; rintro e w' ⟨rfl, rfl⟩)
        rw [← HWA.out]
        by_cases hk0 : 0 < k
        · have hk1 : (0 : Int) < (k : Int) := by omega
          obtain ⟨j, hj⟩ : ∃ j, k = j + 1 := ⟨k - 1, by omega⟩
          obtain ⟨g, hg⟩ : ∃ g, l[j]? = some g := ⟨_, List.getElem?_eq_getElem (by rw [hlen.out]; omega)⟩
          obtain ⟨b8, off8, e8, -, -, -, -, g3, -⟩ := (h.below hb).at hg
          cases e8
          have G3 : wA.cell? ⟨b, off + j * 8 + 3, none⟩ = some (.int .i64 g.rk) := (bA.cell hbk).trans g3
          have hkj : (k : Int) - 1 = (j : Int) := by omega
          have hjl : (j : Int) < (len : Int) := by omega
          have hjl2 : j < len := by omega
          have HR : Hid (rkOk l k d = decide (g.rk < d.rk)) := hidn (by rw [hj]; exact rkOk_succ hg)
          rw [HR.out] at HF HK
          clear hj hg g3
          by_cases hr : g.rk < d.rk
          · have hr' : ¬ (d.rk ≤ g.rk) := by omega
            have HRK : Hid ((true && decide (g.rk < d.rk)) = true) := hidn (by simp [hr])
            have HKK := hidn (HK.out HRK.out)
            have DD : Below w.heap.size w wA.drew := BA.drew
            have x0 : wA.drew.cell? ⟨wo.heap.size, 0, none⟩ = some (.int .i64 d.nu) := e0
            obtain ⟨wD, hwD⟩ : ∃ wD, wD = wA.drew := ⟨_, rfl⟩
            rw [← hwD] at DD x0
            have HWD := hidn hwD
            have hDs : wo.heap.size < wD.heap.size := by rw [hwD]; exact (Array.getElem?_eq_some_iff.1 qA).1
            clear hwD
            go_region
            rw [← HWD.out]
            clear e0 e1 e2 e3 e4 e5 e6 qA
            go_wp2_with fail
            go_loopw [74] (fun iv wr => ∃ (n : Nat), n ≤ k ∧ iv = .int .i64 (n : Int) ∧ Hid (∀ i f, i < n → l[i]? = some f → f.nu ≠ d.nu) ∧ Hid (Below wD.heap.size wD wr)) (fun iv _ => k - (intOf iv).toNat)
            case atStart => exact ⟨0, Nat.zero_le _, rfl, hidn (fun i f hi => by omega), hidn (Below.refl _ _)⟩
            case round =>
              obtain ⟨n, hn, rfl, hP, hB⟩ := hrel
              have BX := DD.trans (hB.out.mono DD.size)
              by_cases hnl : n < k
              · have hnl2 : (n : Int) < (k : Int) := by omega
                obtain ⟨o, ho⟩ : ∃ o, l[n]? = some o := ⟨_, List.getElem?_eq_getElem (by rw [hlen.out]; omega)⟩
                obtain ⟨b7, off7, e7, hb7, o0, o1, o2, o3, o4, o5, o6, o7, -⟩ := (h.below BX).at ho
                cases e7
                have HO : Hid (l[n]? = some o) := hidn ho
                clear ho
                have y0 : wr.cell? ⟨wo.heap.size, 0, none⟩ = some (.int .i64 d.nu) := (hB.out.cell hDs).trans x0
                have hsx : wo.heap.size < wr.heap.size := Nat.lt_of_lt_of_le hDs hB.out.size
                obtain ⟨wO, hwO⟩ : ∃ wO, wO = wr.alloc (.cells #[.int .i64 o.nu, .int .i64 o.ge, .int .i64 o.lv, .int .i64 o.rk, .int .i64 o.mn, .int .i64 o.mx, .int .i64 o.bt, .slice o.pa o.pl o.pc] 37) := ⟨_, rfl⟩
                have bO : Below wr.heap.size wr wO := by rw [hwO]; exact (Below.refl _ wr).alloc (Nat.le_refl _) _
                have BO := BX.trans (bO.mono BX.size)
                have HBO : Hid (Below wD.heap.size wD wO) := hidn (hB.out.trans (bO.mono hB.out.size))
                have y1 : wO.cell? ⟨wo.heap.size, 0, none⟩ = some (.int .i64 d.nu) := (bO.cell hsx).trans y0
                rw [hwO] at y1
                have HWO := hidn hwO
                clear hwO
                by_cases he : o.nu = d.nu
                · have he2 : (o.nu == d.nu) = true := by simp [he]
                  have HZ2 : Hid (Z = false) := hidn (by rw [HZ.out]; exact pcdup_false hnl HO.out HD.out he)
                  clear he
                  go_wp2_with fail
                  exact bodyPost_ret (v := .bool false) (by simp [results, Try.results16, go_sem]) rfl ⟨by rw [HZ2.out], by rw [← HWO.out]; exact BO⟩
                · have he2 : (o.nu == d.nu) = false := by simp [he]
                  have HP2 : Hid (∀ i f, i < n + 1 → l[i]? = some f → f.nu ≠ d.nu) := hidn (fun i f hi hf => by
                    by_cases hin : i = n
                    · subst hin; rw [HO.out] at hf; cases hf; exact he
                    · exact hP.out i f (by omega) hf)
                  clear he
                  go_wp2_with fail
                  rw [← HWO.out]
                  exact ⟨⟨n + 1, by omega, by simp, HP2, HBO⟩, by simp [intOf]; omega⟩
              · have hnl2 : ¬ (n : Int) < (k : Int) := by omega
                have HP2 : Hid (pcTo l (k + 1) = true ∧ freshTo l (k + 1)) := hidn ⟨HKK.out, fun i j f g hij hj hi hg => by
                  by_cases hjk : j = k
                  · subst hjk; rw [HD.out] at hg; cases hg; exact hP.out i f (by omega) hi
                  · exact hO.out.2 i j f g hij (by omega) hi hg⟩
                go_wp2_with fail
                exact ⟨⟨k + 1, by omega, by simp, HP2, BX⟩, by simp [intOf]; omega⟩
          · have hr' : d.rk ≤ g.rk := by omega
            have HZ2 := hidn (HF.out (by simp [hr]))
            have DD : Below w.heap.size w wA.drew := BA.drew
            go_region
            go_wp2_with fail
            exact bodyPost_ret (v := .bool false) (by simp [results, Try.results16, go_sem]) rfl ⟨by rw [HZ2.out], DD⟩
        · have hk1 : ¬ (0 : Int) < (k : Int) := by omega
          have HRK : Hid ((true && rkOk l k d) = true) := hidn (by rw [show k = 0 from by omega]; rfl)
          have HKK := hidn (HK.out HRK.out)
          have DD : Below w.heap.size w wA.drew := BA.drew
          have x0 : wA.drew.cell? ⟨wo.heap.size, 0, none⟩ = some (.int .i64 d.nu) := e0
          obtain ⟨wD, hwD⟩ : ∃ wD, wD = wA.drew := ⟨_, rfl⟩
          rw [← hwD] at DD x0
          have HWD := hidn hwD
          have hDs : wo.heap.size < wD.heap.size := by rw [hwD]; exact (Array.getElem?_eq_some_iff.1 qA).1
          clear hwD
          go_region
          rw [← HWD.out]
          clear e0 e1 e2 e3 e4 e5 e6 qA
          go_wp2_with fail
          go_loopw [74] (fun iv wr => ∃ (n : Nat), n ≤ k ∧ iv = .int .i64 (n : Int) ∧ Hid (∀ i f, i < n → l[i]? = some f → f.nu ≠ d.nu) ∧ Hid (Below wD.heap.size wD wr)) (fun iv _ => k - (intOf iv).toNat)
          case atStart => exact ⟨0, Nat.zero_le _, rfl, hidn (fun i f hi => by omega), hidn (Below.refl _ _)⟩
          case round =>
            obtain ⟨n, hn, rfl, hP, hB⟩ := hrel
            have BX := DD.trans (hB.out.mono DD.size)
            by_cases hnl : n < k
            · omega
            · have hnl2 : ¬ (n : Int) < (k : Int) := by omega
              have HP2 : Hid (pcTo l (k + 1) = true ∧ freshTo l (k + 1)) := hidn ⟨HKK.out, fun i j f g hij hj hi hg => by
                by_cases hjk : j = k
                · subst hjk; rw [HD.out] at hg; cases hg; exact hP.out i f (by omega) hi
                · exact hO.out.2 i j f g hij (by omega) hi hg⟩
              go_wp2_with fail
              exact ⟨⟨k + 1, by omega, by simp, HP2, BX⟩, by simp [intOf]; omega⟩
    · have hlt2 : ¬ (k : Int) < (len : Int) := by omega
      have HN : Hid (Z = true) := hidn (by
        rw [HZ.out]
        have e : k = l.length := by rw [hlen.out]; omega
        rw [e] at hO
        exact pcL_true hO.out.1 hO.out.2)
      go_wp2_with fail
      exact bodyPost_ret (v := .bool true) (by simp [results, Try.results16, go_sem]) rfl ⟨by rw [HN.out], hb⟩

end Go.Proofs.Yteammmhlpinhfaa
