/- fsck.Read. -/
import Derived.Test.YteammmhlpinhfaaGreatDoorFkE
import Derived.Test.YteammmhlpinhfaaGreatDoorPlK
namespace Go.Proofs.YteammmhlpinhfaaGreatDoor
open Go.RowKit
set_option linter.unusedVariables false

/-- A slice from a place on. -/
theorem slice_low {w : World} {a : Option Addr} {len cap : Nat} {zs : List Nat} (hB : Bs w a len zs) (hcap : len ≤ cap) (lo : Nat) (h2 : lo ≤ len) :
    ∃ a', (∀ wx, (Instr.slice 52 (.slice a len cap) (some (.int .i64 (lo : Int))) none none).run Tryz.prog wx = .ok (.slice a' (len - lo) (cap - lo)) wx) ∧ Bs w a' (len - lo) (zs.drop lo) := by
  refine ⟨if cap = lo then a else a.map (·.add (lo * 1)), fun wx => ?_, ?_⟩
  · rw [run_slice_l (P := Tryz.prog) wx 52 a len cap (by kernel_rfl) .i64 (lo : Int) (by omega) (by omega)]
    have hsz : (sizeOf (Tryz.prog.elem 52)).run Tryz.prog wx = .ok 1 wx := by kernel_rfl
    rw [hsz]
    simp [Result.andThen, sliced]
  · obtain ⟨hl, hm, hz, hn, hc⟩ := hB
    refine ⟨by simp; omega, by omega, fun x hx => hz x (List.mem_of_mem_drop hx), fun h => ?_, fun x hx j hj => ?_⟩
    · have : a = none := by
        split at h
        · exact h
        · simpa using h
      have := hn this
      omega
    · obtain ⟨b, off, rfl, _, hc'⟩ := (show Bs w a len zs from ⟨hl, hm, hz, hn, hc⟩).pos (by omega)
      rw [if_neg (by omega)] at hx
      simp only [Option.map_some, Option.some.injEq] at hx
      subst hx
      rw [Nat.mul_one, add_none, add_none, Nat.add_assoc, hc' (lo + j) (by omega)]
      simp [List.getD_eq_getElem?_getD, List.getElem?_drop]

def ReadP (w : World) (zs : List Nat) (e : Ending) (w' : World) : Prop :=
  Below w.heap.size w w' ∧ ((manOk zs = true ∧ pcL (readL zs) = true ∧ ∃ v, e = .returned (.tuple #[v, .int .i64 0]) ∧ w'.ownsRow w.heap.size 40 8 v (manN zs) (fvs (readL zs))) ∨ ((manOk zs && pcL (readL zs)) = false ∧ e = .returned (.tuple #[.slice none 0 0, .int .i64 5])))

theorem read_short (a : Option Addr) (len cap : Nat) (zs : List Nat) (w : World) (h : Bs w a len zs) (hlt : len < 4) :
    Calls Tryz.prog 17 #[.slice a len cap] w (ReadP w zs) := by
  have hno : manOk zs = false := by
    unfold manOk
    rw [h.1]
    simp
    omega
  have HNO := hidn hno
  have hlt2 : (len : Int) < 4 := by omega
  clear h hno
  go_enter Tryz.func17, Tryz.ntmps17
  go_wp2_with fail
  go_ret2
  exact ⟨Below.refl _ _, .inr ⟨by rw [HNO.out]; rfl, rfl⟩⟩

theorem manN_lt {zs : List Nat} (h : ∀ x ∈ zs, x < 256) (h4 : 4 ≤ zs.length) : manN zs < 4294967296 := by
  have := getB_lt (zs.take 4) (take_lt h 4)
  rw [List.length_take, Nat.min_eq_left h4] at this
  exact this

theorem fosB_ils (zs : List Nat) (n : Nat) (w : World) : ∀ d ∈ fosB zs n, Ils w d.pa d.pl d.ps ∧ d.pl ≤ d.pc := by
  intro d hd
  obtain ⟨i, _, rfl⟩ := List.mem_map.1 hd
  exact ⟨⟨rfl, Nat.zero_le _, fun _ => rfl, fun x hx => by cases hx⟩, Nat.le_refl _⟩

theorem read_form (a : Option Addr) (len cap : Nat) (zs : List Nat) (w : World) (h : Bs w a len zs) (hc : len ≤ cap) (h4 : 4 ≤ len) (hno : manOk zs = false) :
    Calls Tryz.prog 17 #[.slice a len cap] w (ReadP w zs) := by
  obtain ⟨b, off, rfl, hbk, hcl⟩ := h.pos (by omega)
  have HNO := hidn hno
  have hlt2 : ¬ ((len : Int) < 4) := by omega
  have hc4 : 4 ≤ cap := by omega
  have hc4i : (4 : Int) ≤ (cap : Int) := by omega
  have hmm := h.2.1
  unfold maxLen at hmm
  have HG := hidn (get_some b off 4 cap (zs.take 4) w (take_lt h.lt 4) (by rw [List.length_take, h.1]; omega) (by omega) (by omega) (take_cells h.1 h4 hcl))
  have hnl := manN_lt h.lt (by rw [h.1]; exact h4)
  have HX : Hid (manN zs ≤ 1000 → len ≠ 4 + manN zs * 56) := hidn (fun e1 e2 => by
    have : manOk zs = true := by
      unfold manOk
      rw [h.1]
      simp
      omega
    rw [hno] at this
    cases this)
  obtain ⟨n, hn⟩ : ∃ n, n = manN zs := ⟨_, rfl⟩
  have HG2 : Hid (Calls Tryz.prog 45 #[.slice (some ⟨b, off, none⟩) 4 cap] w fun e w' => e = .returned (.tuple #[.int .u64 (n : Int), .bool true]) ∧ w' = w) := hidn (by rw [hn]; exact HG.out)
  rw [← hn] at hnl HX
  clear h hno hn HG
  by_cases h1000 : n ≤ 1000
  · have hgt : ¬ ((1000 : Int) < (n : Int)) := by omega
    have hcv : IntKind.i64.wrap (n : Int) = (n : Int) := by rw [IntKind.wrap_i64]; omega
    have hne : ((len : Int) != 4 + (n : Int) * 56) = true := by
      have := HX.out h1000
      simp
      omega
    go_enter Tryz.func17, Tryz.ntmps17
    go_wp2_with fail
    refine HG2.out.mono ?_
    rintro e w1 ⟨rfl, rfl⟩
    go_wp2_with fail
    go_ret2
    exact ⟨Below.refl _ _, .inr ⟨by rw [HNO.out]; rfl, rfl⟩⟩
  · have hgt : (1000 : Int) < (n : Int) := by omega
    go_enter Tryz.func17, Tryz.ntmps17
    go_wp2_with fail
    refine HG2.out.mono ?_
    rintro e w1 ⟨rfl, rfl⟩
    go_wp2_with fail
    go_ret2
    exact ⟨Below.refl _ _, .inr ⟨by rw [HNO.out]; rfl, rfl⟩⟩

set_option maxHeartbeats 2000000 in
set_option maxRecDepth 100000 in
theorem read_ok (a : Option Addr) (len cap : Nat) (zs : List Nat) (w : World) (h : Bs w a len zs) (hc : len ≤ cap) (hok : manOk zs = true) :
    Calls Tryz.prog 17 #[.slice a len cap] w (ReadP w zs) := by
  obtain ⟨i0, z0, hi, hz0, hz1, hz2, hzc⟩ := foInfo
  have hok' := hok
  unfold manOk at hok'
  simp only [Bool.and_eq_true, decide_eq_true_eq] at hok'
  obtain ⟨⟨h4z, hn1000⟩, hlz⟩ := hok'
  rw [h.1] at h4z hlz
  obtain ⟨b, off, rfl, hbk, hcl⟩ := h.pos (by omega)
  have HOK := hidn hok
  have hlt2 : ¬ ((len : Int) < 4) := by omega
  have hc4 : 4 ≤ cap := by omega
  have hc4i : (4 : Int) ≤ (cap : Int) := by omega
  have hmm := h.2.1
  unfold maxLen at hmm
  have HG := hidn (get_some b off 4 cap (zs.take 4) w (take_lt h.lt 4) (by rw [List.length_take, h.1]; omega) (by omega) (by omega) (take_cells h.1 h4z hcl))
  obtain ⟨n, hn⟩ : ∃ n, n = manN zs := ⟨_, rfl⟩
  have HG2 : Hid (Calls Tryz.prog 45 #[.slice (some ⟨b, off, none⟩) 4 cap] w fun e w' => e = .returned (.tuple #[.int .u64 (n : Int), .bool true]) ∧ w' = w) := hidn (by rw [hn]; exact HG.out)
  have HN := hidn hn
  rw [← hn] at hn1000 hlz
  obtain ⟨a1, hsl, hB1⟩ := slice_low h hc 4 h4z
  have hsl4 : ∀ wx, (Instr.slice 52 (.slice (some ⟨b, off, none⟩) len cap) (some (.int .i64 4)) none none).run Tryz.prog wx = .ok (.slice a1 (len - 4) (cap - 4)) wx := fun wx => by simpa using hsl wx
  obtain ⟨ys, hys⟩ : ∃ ys, ys = zs.drop 4 := ⟨_, rfl⟩
  have HRL : Hid (readL zs = fosB ys n) := hidn (by rw [hys, hn]; rfl)
  rw [← hys] at hB1
  obtain ⟨m0, hm0⟩ : ∃ m0, len - 4 = m0 := ⟨_, rfl⟩
  obtain ⟨c0, hc0⟩ : ∃ c0, cap - 4 = c0 := ⟨_, rfl⟩
  rw [hm0] at hB1 hsl4
  rw [hc0] at hsl4
  have HB1 := hidn hB1
  have HM0 : Hid (m0 = 56 * n) := hidn (by omega)
  have HC0 : Hid (m0 ≤ c0) := hidn (by omega)
  have hgt : ¬ ((1000 : Int) < (n : Int)) := by omega
  have hcv : IntKind.i64.wrap (n : Int) = (n : Int) := by rw [IntKind.wrap_i64]; omega
  have hne : ((len : Int) != 4 + (n : Int) * 56) = false := by
    simp
    omega
  clear h hok hn HG hlz hm0 hc0 hys hsl hB1 hcl
  go_enter Tryz.func17, Tryz.ntmps17
  go_wp2_with fail
  refine HG2.out.mono ?_
  rintro e w1 ⟨rfl, h1⟩
  subst h1
  go_wp2_with fail
  clear hsl4
  go_loopw [6, 7] (fun lv rv wr => ∃ (k m : Nat) (ra : Option Addr) (rc : Nat), k ≤ n ∧ rv = .slice ra m rc ∧ Hid (m = 56 * (n - k)) ∧ Hid (m ≤ rc) ∧ Hid (Bs w1 ra m (ys.drop (k * 56))) ∧ Hid (wr.ownsRow w1.heap.size 40 8 lv k (fvs (fosB ys k))) ∧ Hid (Below w1.heap.size w1 wr)) (fun _ rv _ => match rv with | .slice _ m _ => m | _ => 0)
  case atStart => exact ⟨0, m0, a1, c0, Nat.zero_le _, rfl, hidn (by rw [HM0.out, Nat.sub_zero]), HC0, hidn (by simpa using HB1.out), hidn (World.ownsRow_nil _ _ _ _), hidn (Below.refl _ _)⟩
  case round =>
    obtain ⟨k, m, ra, rc, hk, rfl, HM, HRC, HBR0, HO, HB⟩ := hrel
    have HBR := hidn (HBR0.out.below HB.out)
    by_cases hlt : k < n
    · have hmp : 0 < m := by have := HM.out; omega
      have hm56 : 56 ≤ m := by have := HM.out; omega
      have hmi : (0 : Int) < (m : Int) := by omega
      obtain ⟨rb, ro, rfl, hrb, hrc⟩ := HBR.out.pos hmp
      obtain ⟨ws, hws⟩ : ∃ ws, ws = ys.drop (k * 56) := ⟨_, rfl⟩
      have HRB := hidn (readBlock_any wr rb ro m rc ws (by rw [hws]; exact HBR.out.1) hm56 (by rw [hws]; exact HBR.out.lt) HRC.out (by rw [hws]; exact hrc))
      obtain ⟨f, hf⟩ : ∃ f, f = foB ws := ⟨_, rfl⟩
      have HFO : Hid (fosB ys (k + 1) = fosB ys k ++ [f]) := hidn (by rw [fosB_succ, hf, hws])
      rw [← hf] at HRB
      obtain ⟨a2, hsl2, hB2⟩ := slice_low HBR0.out HRC.out 56 hm56
      have hsl56 : ∀ wx, (Instr.slice 52 (.slice (some ⟨rb, ro, none⟩) m rc) (some (.int .i64 56)) none none).run Tryz.prog wx = .ok (.slice a2 (m - 56) (rc - 56)) wx := fun wx => by simpa using hsl2 wx
      obtain ⟨m2, hm2⟩ : ∃ m2, m - 56 = m2 := ⟨_, rfl⟩
      obtain ⟨c2, hc2⟩ : ∃ c2, rc - 56 = c2 := ⟨_, rfl⟩
      rw [hm2] at hB2 hsl56
      rw [hc2] at hsl56
      have HM2 : Hid (m2 = 56 * (n - (k + 1))) := hidn (by have := HM.out; omega)
      have HC2 : Hid (m2 ≤ c2) := hidn (by have := HRC.out; omega)
      have HLT : Hid (m2 < m) := hidn (by omega)
      have HB2 : Hid (Bs w1 a2 m2 (ys.drop ((k + 1) * 56))) := hidn (by rw [List.drop_drop] at hB2; rw [show (k + 1) * 56 = k * 56 + 56 from by omega]; exact hB2)
      obtain ⟨va, vc, e9⟩ : ∃ va vc, u6 = Value.slice va k vc := by
        rcases HO.out.2 with ⟨h1, h2⟩ | ⟨g, cp, cur, h1, _⟩
        · exact ⟨none, 0, by rw [h1, h2]⟩
        · exact ⟨_, _, h1⟩
      clear hws hf hsl2 hB2 hm2 hc2 hrb hrc
      obtain ⟨nu, ge, lv, rk, mn, mx, bt, pa, pl, pc, ps⟩ := f
      simp only [Fo.agg] at HRB
      go_wp2_with fail
      refine HRB.out.mono ?_
      clear HRB
      rintro e w2 ⟨rfl, b2⟩
      obtain ⟨wB, hwB⟩ : ∃ wB, wB = w2.alloc (.cells #[.int .i64 nu, .int .i64 ge, .int .i64 lv, .int .i64 rk, .int .i64 mn, .int .i64 mx, .int .i64 bt, .slice pa pl pc] 40) := ⟨_, rfl⟩
      have bB : Below w2.heap.size w2 wB := by rw [hwB]; exact (Below.refl _ w2).alloc (Nat.le_refl _) _
      have qB : wB.heap[w2.heap.size]? = some (.cells #[.int .i64 nu, .int .i64 ge, .int .i64 lv, .int .i64 rk, .int .i64 mn, .int .i64 mx, .int .i64 bt, .slice pa pl pc] 40 (0, 0)) := by rw [hwB]; exact heap_alloc_new w2 _
      have B2 := HB.out.trans (b2.mono HB.out.size)
      have BB := B2.trans (bB.mono B2.size)
      have O2 := own_skip (own_skip HO.out b2) bB
      obtain ⟨v3, w3, hrun, hown3, hgr3⟩ := appAny wB w1.heap.size 27 27 40 i0 z0 8 80 Tryz.underlying27 hi hz0 hz1 hz2 hzc (by decide) u6 k (fvs (fosB ys k)) O2 BB.size (some ⟨w2.heap.size, 0, none⟩) 1 1 (Fo.cells ⟨nu, ge, lv, rk, mn, mx, bt, pa, pl, pc, ps⟩) rfl (fun e => by cases e) (fun x hx j u hu => by
        cases hx
        rw [add_none, Nat.zero_add, cell_of_row _ _ _ _ _ _ qB]
        simpa [Fo.cells] using hu) (fun u hu => by
        simp [Fo.cells] at hu
        rcases hu with rfl | rfl | rfl | rfl | rfl | rfl | rfl | rfl <;> rfl) (by unfold maxLen; omega) (by omega)
      have HB3 : Hid (Below w1.heap.size w1 w3) := hidn (BB.grown hgr3 BB.size (fun k hk => (O2.lt k hk).1))
      have HO3 : Hid (w3.ownsRow w1.heap.size 40 8 v3 (k + 1) (fvs (fosB ys (k + 1)))) := hidn (by
        rw [HFO.out, fvs_append]
        exact hown3)
      have HRUN := hidn hrun
      have HWB := hidn hwB
      subst e9
      clear hrun hown3 hgr3 O2 b2 bB qB hwB HO
      go_wp2_with (at_builtin; rw [← HWB.out]; refine wpList_app_runA rfl _ _ 27 27 rfl rfl _ _ _ rfl rfl HRUN.out ?_; clear HRUN)
      go_wp2_with fail
      exact ⟨⟨k + 1, m2, a2, c2, by omega, rfl, HM2, HC2, HB2, HO3, HB3⟩, by simpa using HLT.out⟩
    · have hk2 : k = n := by omega
      have hm0 : m = 0 := by have := HM.out; omega
      have hmi : ¬ ((0 : Int) < (m : Int)) := by omega
      subst hk2
      have HO2 : Hid (wr.ownsRow w1.heap.size 40 8 u6 (readL zs).length (fvs (readL zs))) := hidn (by rw [HRL.out, fosB_length]; exact HO.out)
      obtain ⟨va, vc, e9, hF, hcv2⟩ := fls_of_own HO2.out (by rw [HRL.out]; exact fosB_ils ys k wr)
      have HLN : Hid ((readL zs).length = k) := hidn (by rw [HRL.out, fosB_length])
      rw [HLN.out] at e9 hF hcv2
      have HCA := hidn (can_any va k vc (readL zs) wr hF (by omega) hcv2)
      obtain ⟨p, hp⟩ : ∃ p, p = pcL (readL zs) := ⟨_, rfl⟩
      rw [← hp] at HCA
      have HP := hidn hp
      have HE9 := hidn e9
      subst e9
      clear hp hF hm0
      go_wp2_with fail
      refine HCA.out.mono ?_
      clear HCA
      rintro e w4 ⟨rfl, b4⟩
      have B4 := HB.out.trans (b4.mono HB.out.size)
      have O4 := own_skip HO.out b4
      cases p with
      | true =>
        go_wp2_with fail
        go_ret2
        exact ⟨B4, .inl ⟨HOK.out, HP.out.symm, _, rfl, by rw [HRL.out, ← HN.out]; exact O4⟩⟩
      | false =>
        go_wp2_with fail
        go_ret2
        exact ⟨B4, .inr ⟨by rw [← HP.out, Bool.and_false], rfl⟩⟩

theorem read_any (a : Option Addr) (len cap : Nat) (zs : List Nat) (w : World) (h : Bs w a len zs) (hc : len ≤ cap) :
    Calls Tryz.prog 17 #[.slice a len cap] w (ReadP w zs) := by
  by_cases h4 : len < 4
  · exact read_short a len cap zs w h h4
  · cases hok : manOk zs with
    | true => exact read_ok a len cap zs w h hc hok
    | false => exact read_form a len cap zs w h hc (by omega) hok

end Go.Proofs.YteammmhlpinhfaaGreatDoor
