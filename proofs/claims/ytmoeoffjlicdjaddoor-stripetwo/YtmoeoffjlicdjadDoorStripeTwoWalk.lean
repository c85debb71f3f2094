/- dryrotlaw06.awake, StripeTwo: they return true. -/
import Derived.Test.YtmoeoffjlicdjadDoorStrG
namespace Go.Proofs.YtmoeoffjlicdjadDoor
open Go.RowKit Go.Maps
set_option linter.unusedVariables false

theorem uwrap6 (x : Int) : ∃ u : Nat, IntKind.u64.wrap x = (u : Int) ∧ u < 18446744073709551616 := by
  refine ⟨(IntKind.u64.wrap x).toNat, ?_, ?_⟩ <;> rw [IntKind.wrap_u64] <;> omega

set_option maxHeartbeats 1000000 in
theorem awake6_any (w : World) (hT : CrcTab w) :
    Calls Tryd.prog 12 #[] w fun e w' => e = .returned (.bool true) ∧ Below w.heap.size w w' := by
  have kc := fun (w : World) (C : Array Value) (n c : Nat) => Lib.run_convert_bytes_const (P := Tryd.prog) w 22 5 C n c Tryd.underlying22 Tryd.underlying5
  have HT := hidn hT
  clear hT
  go_enter Tryd.func12, Tryd.ntmps12
  go_wp2_with fail
  refine (new_any _ 10 (by omega)).mono ?_
  rintro e w1 ⟨rfl, hD1, hb1, hs1⟩
  have HD1 := hidn hD1
  have HS1 := hidn hs1
  clear hD1 hs1
  go_wp2_with fail
  have hb1' : Below w1.heap.size w1 (w1.alloc (.cells #[.int .u8 97, .int .u8 98] 5 (2, 3))) := (Below.refl _ _).alloc (Nat.le_refl _) _
  have hB1 : Bs (w1.alloc (.cells #[.int .u8 97, .int .u8 98] 5 (2, 3))) (some ⟨w1.heap.size, 0, none⟩) 2 [97, 98] := bs_new w1 [97, 98] (2, 3) (by decide) (by decide)
  have hBF : BsF (fun k => w.heap.size ≤ k ∧ k < w.heap.size + 2) (w1.alloc (.cells #[.int .u8 97, .int .u8 98] 5 (2, 3))) (some ⟨w1.heap.size, 0, none⟩) 2 [97, 98] := ⟨hB1, fun x hx _ hF => by cases hx; have := HS1.out; have h2 : w1.heap.size < w.heap.size + 2 := hF.2; omega⟩
  refine (storeXr w w1 10 (by omega) hb1 HS1.out _ HD1.out _ hb1' HT.out 1 (by omega) _ 2 2 [97, 98] hBF (by omega) (by omega) 1 (hidn (by decide)) (by omega)).mono ?_
  rintro e w2 ⟨rfl, F2, hD2, hS2, hF2, hb2⟩
  have HD2 := hidn hD2
  have HS2 := hidn hS2
  have HB2 := hidn hb2
  have HP2 := hidn (partsX w2 _ F2 _ _ _ 1 [97, 98] 1 2 hD2 hS2.tab rfl (by omega) (hidn (by decide)) (by decide) (by omega))
  clear hD2 hS2 hF2 hb1 hb2 hb1' hB1 hBF kc
  go_wp2_with fail
  refine (sPart_any _ _ F2 _ _ _ _ HD2.out (diskX_nil _ _ _ 4 (Nat.le_refl _)) ⟨#[120]⟩ x0 x1 x2 x3 (by decide) (hidn (by decide +kernel)) (hidn (by decide +kernel)) (hidn (by decide +kernel)) (hidn (by decide +kernel)) 1 0 2 [97, 98] 2 rfl (by omega) (by decide) (by omega) (by omega) False HP2).mono ?_
  rintro r w3 ⟨hb3, (⟨_, hbad⟩ | ⟨_, a3, c3, rfl, hB3⟩)⟩
  · exfalso
    rcases hbad with h | h
    · omega
    · exact h
  have HBB3 := hidn (HB2.out.trans (hb3.mono HB2.out.size))
  have hB3' : Bs w3 a3 2 [97, 98] := hB3
  have hs3 := hB3'.str (cap := c3)
  have hq : (strB [97, 98]).toList = [97, 98] := by decide +kernel
  generalize strB [97, 98] = st at *
  clear hb3 hB3 hB3' HP2
  go_wp2
  go_ret
  exact ⟨rfl, HBB3.out⟩

def FilesAt (w : World) (fb : Nat) : Prop := w.heap[fb]? = some (.cells #[.string x0, .string x1, .string x2, .string x3] 9 (0, 0))
theorem FilesAt.at {w : World} {fb : Nat} (h : FilesAt w fb) (f : Nat) (hf : f < 4) : w.cell? ⟨fb, f, none⟩ = some (.string (nameX f)) := by
  rw [cell_of_row _ _ _ _ _ _ h]
  match f, hf with
  | 0, _ => rfl
  | 1, _ => rfl
  | 2, _ => rfl
  | 3, _ => rfl
theorem FilesAt.lt {w : World} {fb : Nat} (h : FilesAt w fb) : fb < w.heap.size := (Array.getElem?_eq_some_iff.1 h).1
theorem FilesAt.gr {w w' : World} {F F' : Nat → Prop} {fb : Nat} (h : FilesAt w fb) (hg : Gr F F' w w') (hn : ¬ F fb) : FilesAt w' fb := (hg.1.block _ h.lt hn).trans h
/-- The two that are turned. -/
def badTwo (f k G : Nat) : Nat → Nat → Bool := fun k' j' => (false || (k' == f && j' == G)) || (k' == k && j' == G)
theorem badTwo_count : ∀ f, f < 4 → ∀ k, k < 4 → k ≠ f → countS (fun k' => !((false || (k' == f && true)) || (k' == k && true))) 4 = 2 := by decide
theorem badTwo_ct (f k G : Nat) (hf : f < 4) (hk : k < 4) (hne : k ≠ f) : 1 < countS (fun k' => !badTwo f k G k' G) 4 := by
  unfold badTwo
  simp only [beq_self_eq_true]
  rw [badTwo_count f hf k hk hne]
  omega
theorem badTwo_at {f k G k' j : Nat} (h : badTwo f k G k' j = true) : j = G := by
  unfold badTwo at h
  simp at h
  omega
theorem wrongS_lt (ok : Nat → Bool) : wrongS ok 4 < 4 := by
  have h1 : ∀ j, wrongS ok j ≤ j - 1 := fun j => by
    induction j with
    | zero => exact Nat.le_refl _
    | succ j ih => unfold wrongS; split <;> omega
  have := h1 4
  omega

set_option maxHeartbeats 4000000 in
theorem stripeTwo_walk (a : Option Addr) (len cap : Nat) (zs : List Nat) (i x y : Int) (w : World) (hB : Bs w a len zs) (hcap : len ≤ cap) (hcm : cap ≤ maxLen) (hT : CrcTab w) :
    Calls Tryd.prog 3 #[.slice a len cap, .int .i64 i, .int .i64 x, .int .i64 y] w fun e w' => e = .returned (.bool true) ∧ Below w.heap.size w w' := by
  obtain ⟨m, hm⟩ : ∃ m, m = min len 1500 := ⟨_, rfl⟩
  have hmn : (if (1500 : Int) < (len : Int) then (1500 : Int) else (len : Int)) = (m : Int) := by split <;> omega
  have hBm := bs_cut6 hB m (by omega)
  obtain ⟨pp, hpp⟩ : ∃ pp, pp = zs.take m := ⟨_, rfl⟩
  rw [← hpp] at hBm
  obtain ⟨E, hE⟩ : ∃ E, E = grpB m := ⟨_, rfl⟩
  have hE6 : 1 ≤ E ∧ E ≤ 5 := by rw [hE]; unfold grpB; split <;> omega
  have hmc : (m : Int) ≤ (cap : Int) := by omega
  have hm6 : m ≤ 1500 := by omega
  have HE := hidn hE
  have hGl := fun wx => groups_any wx (m : Int) (by omega)
  rw [Int.toNat_natCast, ← hE] at hGl
  have hmx : (if (E : Int) < 1 then (1 : Int) else (E : Int)) = (E : Int) := by rw [if_neg (by omega)]
  obtain ⟨u, hu, hub⟩ := uwrap6 i
  obtain ⟨G, hG⟩ : ∃ G, G = u % E := ⟨_, rfl⟩
  have hGb : G < E := by rw [hG]; exact Nat.mod_lt _ (by omega)
  have hGm : (u : Int).tmod (E : Int) = (G : Int) := by rw [Int.tmod_eq_emod_of_nonneg (by omega), hG]; push_cast; rfl
  have hEu : IntKind.u64.wrap (E : Int) = (E : Int) := by rw [IntKind.wrap_u64]; omega
  have hGw : IntKind.u64.wrap (G : Int) = (G : Int) := by rw [IntKind.wrap_u64]; omega
  have hGi : IntKind.i64.wrap (G : Int) = (G : Int) := by rw [IntKind.wrap_i64]; omega
  have hE0 : ¬ ((E : Int) = 0) := by omega
  have hE0' : ¬ (E = 0) := by omega
  obtain ⟨v, hv, hvb⟩ := uwrap6 x
  obtain ⟨f, hf⟩ : ∃ f, f = v % 4 := ⟨_, rfl⟩
  have hfm : (v : Int).tmod 4 = (f : Int) := by rw [Int.tmod_eq_emod_of_nonneg (by omega)]; omega
  have hfw : IntKind.u64.wrap (f : Int) = (f : Int) := by rw [IntKind.wrap_u64]; omega
  have hfi : IntKind.i64.wrap (f : Int) = (f : Int) := by rw [IntKind.wrap_i64]; omega
  obtain ⟨z, hz, hzb⟩ := uwrap6 y
  obtain ⟨q, hq⟩ : ∃ q, q = z % 3 := ⟨_, rfl⟩
  have hqm : (z : Int).tmod 3 = (q : Int) := by rw [Int.tmod_eq_emod_of_nonneg (by omega)]; omega
  have hqw : IntKind.u64.wrap (q : Int) = (q : Int) := by rw [IntKind.wrap_u64]; omega
  have hqi : IntKind.i64.wrap (q : Int) = (q : Int) := by rw [IntKind.wrap_i64]; omega
  obtain ⟨f1, hf1⟩ : ∃ f1, f1 = f + 1 := ⟨_, rfl⟩
  obtain ⟨f2, hf2⟩ : ∃ f2, f2 = f1 + q := ⟨_, rfl⟩
  obtain ⟨k, hk⟩ : ∃ k, k = f2 % 4 := ⟨_, rfl⟩
  have hf1i : IntKind.i64.wrap ((f : Int) + 1) = (f1 : Int) := by rw [IntKind.wrap_i64]; omega
  have hf2i : IntKind.i64.wrap ((f1 : Int) + (q : Int)) = (f2 : Int) := by rw [IntKind.wrap_i64]; omega
  have hkm : (f2 : Int).tmod 4 = (k : Int) := by rw [Int.tmod_eq_emod_of_nonneg (by omega)]; omega
  have hki : IntKind.i64.wrap (k : Int) = (k : Int) := by rw [IntKind.wrap_i64]; omega
  have HAR : Hid (f < 4 ∧ k < 4 ∧ k ≠ f ∧ G < E ∧ E ≤ 5 ∧ m ≤ 1500) := hidn (by omega)
  have HBm := hidn hBm
  have hmc' : m ≤ cap := by omega
  have HT := hidn hT
  have hfd : decide (f < 4) = true := decide_eq_true (by omega)
  have hkd : decide (k < 4) = true := decide_eq_true (by omega)
  have hf4 : f < 4 := by omega
  have hk4 : k < 4 := by omega
  have hf4i : (f : Int) < 4 := by omega
  have hk4i : (k : Int) < 4 := by omega
  clear hpp hE hm hBm hB hT hub hvb hzb hf hq hf1 hf2 hk hG hGb
  go_enter Tryd.func3, Tryd.ntmps3
  go_wp2_with fail
  refine (new_any _ 40 (by omega)).mono ?_
  rintro e w1 ⟨rfl, hD1, hb1, hs1⟩
  have HD1 := hidn hD1
  have HS1 := hidn hs1
  clear hD1 hs1
  go_wp2_with fail
  refine (storeX w w1 hb1 HS1.out _ HD1.out HT.out 4 (by omega) a m cap pp HBm.out hmc' hm6 E HE).mono ?_
  rintro e w2 ⟨rfl, F2, hD2, hS2, hF2, hb2⟩
  have HD2 := hidn hD2
  have HS2 := hidn hS2
  have HF2 := hidn hF2
  have HB2 := hidn hb2
  clear hD2 hS2 hF2 hb1 hb2
  go_wp2_with fail
  obtain ⟨fb, hfb⟩ : ∃ fb, fb = w2.heap.size := ⟨_, rfl⟩
  obtain ⟨w3, hw3⟩ : ∃ w3, w3 = w2.alloc (.cells #[.string ⟨#[120, 46, 48]⟩, .string ⟨#[120, 46, 49]⟩, .string ⟨#[120, 46, 50]⟩, .string ⟨#[120, 46, 112]⟩] 9) := ⟨_, rfl⟩
  have hb23 : Below w2.heap.size w2 w3 := by rw [hw3]; exact (Below.refl _ _).alloc (Nat.le_refl _) _
  have hfA : FilesAt w3 fb := by rw [hw3, hfb]; exact heap_alloc_new _ _
  have HNF : Hid (¬ F2 fb) := hidn (fun hF => by have := HS2.out.lt _ hF; omega)
  have HD3 := hidn (HD2.out.below hb23)
  have HS3 := hidn (HS2.out.below hb23)
  have HB3 := hidn (HB2.out.trans (hb23.mono HB2.out.size))
  rw [← hw3, ← hfb]
  have HFA := hidn hfA
  have hcf := hfA.at f HAR.out.1
  clear hw3 hfb hb23 hfA
  refine (hGl _).mono ?_
  rintro e w3' ⟨rfl, rfl⟩
  have HM3 := hidn (turned_diskX 4 pp E)
  obtain ⟨xf, hxf, _⟩ := (turned_diskX 4 pp E).ext f HAR.out.1 G HAR.out.2.2.2.1
  have HXF := hidn hxf
  clear hxf
  have HSF := hidn (nameX_size f HAR.out.1)
  have HSK := hidn (nameX_size k HAR.out.2.1)
  obtain ⟨nf, hnf⟩ : ∃ nf, nf = nameX f := ⟨_, rfl⟩
  obtain ⟨nk, hnk⟩ : ∃ nk, nk = nameX k := ⟨_, rfl⟩
  have HNFE := hidn hnf
  have HNKE := hidn hnk
  rw [← hnf] at hcf
  clear hnf hnk
  go_wp2_with fail
  refine (rot_some _ _ F2 _ _ _ _ HD3.out nf (HNFE.out ▸ HSF.out) G E (G * 385) (hidn (by rw [HNFE.out]; exact HM3.out.len f HAR.out.1)) HAR.out.2.2.2.1 rfl 20 1 (by omega) (by omega) xf (hidn (by rw [HNFE.out]; exact HXF.out))).mono ?_
  rintro e w4 ⟨rfl, hD4, hG4⟩
  have hM4 := HM3.out.rot HBm.out.2.2.1 f G HAR.out.1 HAR.out.2.2.2.1 rfl xf HXF.out 20 1 (by omega) (by omega) (by omega)
  rw [← HNFE.out] at hM4
  obtain ⟨M4, hM4e⟩ : ∃ M4, M4 = upd (diskX 4 pp E 4) nf.data.toList ((diskX 4 pp E 4 nf.data.toList).set G (xf.rot 20 1)) := ⟨_, rfl⟩
  rw [← hM4e] at hM4 hD4
  have HM4 := hidn hM4
  have HD4 := hidn hD4
  have HS4 := hidn (HS3.out.gr hG4)
  have HFA4 := hidn (HFA.out.gr hG4 HNF.out)
  have HB4 := hidn (HB3.out.trans (hG4.1.below HB3.out.size HF2.out))
  have hck := HFA4.out.at k HAR.out.2.1
  rw [← HNKE.out] at hck
  obtain ⟨xk, hxk, _⟩ := hM4.ext k HAR.out.2.1 G HAR.out.2.2.2.1
  have HXK := hidn hxk
  clear hxk hM4 hM4e hD4 hG4 hcf
  go_wp2_with fail
  refine (rot_some _ _ F2 _ _ _ _ HD4.out nk (HNKE.out ▸ HSK.out) G E (G * 385) (hidn (by rw [HNKE.out]; exact HM4.out.len k HAR.out.2.1)) HAR.out.2.2.2.1 rfl 30 1 (by omega) (by omega) xk (hidn (by rw [HNKE.out]; exact HXK.out))).mono ?_
  rintro e w5 ⟨rfl, hD5, hG5⟩
  have hM5 := HM4.out.rot HBm.out.2.2.1 k G HAR.out.2.1 HAR.out.2.2.2.1 (by have := HAR.out.2.2.1; simp [this]) xk HXK.out 30 1 (by omega) (by omega) (by omega)
  rw [← HNKE.out] at hM5
  obtain ⟨M5, hM5e⟩ : ∃ M5, M5 = upd M4 nk.data.toList ((M4 nk.data.toList).set G (xk.rot 30 1)) := ⟨_, rfl⟩
  rw [← hM5e] at hM5 hD5
  have HM5 : Hid (Turned M5 4 pp E (badTwo f k G)) := hidn hM5
  have HD5 := hidn hD5
  have HS5 := hidn (HS4.out.gr hG5)
  have HB5 := hidn (HB4.out.trans (hG5.1.below HB4.out.size HF2.out))
  clear hM5 hM5e hD5 hG5 hck
  go_wp2_with fail
  refine (smend_lost _ _ F2 _ M5 _ _ HD5.out HM5.out.nil ⟨#[120]⟩ x0 x1 x2 x3 (by decide) (hidn (by decide +kernel)) (hidn (by decide +kernel)) (hidn (by decide +kernel)) (hidn (by decide +kernel)) 4 G (by have := HAR.out; omega) (restS (slotX pp (badTwo f k G) G) (fun k' => !badTwo f k G k' G) 4) (restS_ok (slotX_ok HBm.out.2.2.1 _ G) _ 4).1 (restS_ok (slotX_ok HBm.out.2.2.1 _ G) _ 4).2 (wrongS (fun k' => !badTwo f k G k' G) 4) (countS (fun k' => !badTwo f k G k' G) 4) (wrongS_lt _) (badTwo_ct f k G HAR.out.1 HAR.out.2.1 HAR.out.2.2.1) (hidn (fun w6 sb hA hb => lookT w6 _ F2 _ M5 _ _ (HD5.out.below hb) (HS5.out.below hb).tab 4 (by omega) pp HBm.out.2.2.1 E (by have := HAR.out; omega) (badTwo f k G) HM5.out sb G hA HAR.out.2.2.2.1))).mono ?_
  rintro r w6 ⟨rfl, hb6⟩
  have HD6 := hidn (HD5.out.below hb6)
  have HS6 := hidn (HS5.out.below hb6)
  have HB6 := hidn (HB5.out.trans (hb6.mono HB5.out.size))
  have HP6 := hidn (partsT w6 _ F2 _ M5 _ _ 4 pp E m HD6.out HS6.out.tab HBm.out.1 hm6 HE HBm.out.2.2.1 (by omega) (badTwo f k G) HM5.out (fun j k' hj hk' hb => by rw [badTwo_at hb]; exact badTwo_ct f k G HAR.out.1 HAR.out.2.1 HAR.out.2.2.1))
  clear hb6
  go_wp2_with fail
  refine (sPart_any _ _ F2 _ M5 _ _ HD6.out HM5.out.nil ⟨#[120]⟩ x0 x1 x2 x3 (by decide) (hidn (by decide +kernel)) (hidn (by decide +kernel)) (hidn (by decide +kernel)) (hidn (by decide +kernel)) 4 0 m pp m HBm.out.1 (by have := HAR.out; omega) HBm.out.2.2.1 (by omega) (by have := HAR.out; omega) True HP6).mono ?_
  rintro r w7 ⟨hb7, (⟨rfl, _⟩ | ⟨_, a7, c7, rfl, hB7⟩)⟩
  · have HB7 := hidn (HB6.out.trans (hb7.mono HB6.out.size))
    clear hb7
    go_wp2_with fail
    refine (awake6_any _ (HT.out.below HB7.out)).mono ?_
    rintro e w8 ⟨rfl, hb8⟩
    have HB8 := hidn (HB7.out.trans (hb8.mono HB7.out.size))
    clear hb8
    go_wp2
    go_ret
    exact ⟨rfl, HB8.out⟩
  · have HB7 := hidn (HB6.out.trans (hb7.mono HB6.out.size))
    have e7 : (pp.drop 0).take m = pp := by rw [List.drop_zero, List.take_of_length_le (by rw [HBm.out.1]; exact Nat.le_refl _)]
    rw [e7] at hB7
    have HBB7 := hidn hB7
    clear hb7 hB7 e7
    go_wp2_with fail
    refine (equal_any _ _ _ _ _ _ _ _ _ HBB7.out (HBm.out.below HB7.out)).mono ?_
    rw [decide_eq_true rfl]
    rintro e w7' ⟨rfl, rfl⟩
    go_wp2_with fail
    refine (awake6_any _ (HT.out.below HB7.out)).mono ?_
    rintro e w8 ⟨rfl, hb8⟩
    have HB8 := hidn (HB7.out.trans (hb8.mono HB7.out.size))
    clear hb8
    go_wp2
    go_ret
    exact ⟨rfl, HB8.out⟩
end Go.Proofs.YtmoeoffjlicdjadDoor
