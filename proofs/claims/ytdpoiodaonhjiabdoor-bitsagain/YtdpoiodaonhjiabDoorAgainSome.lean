/- The walk of dryrotlaw02.BitsAgain, over sixty bytes at most. -/
import Derived.Test.YtdpoiodaonhjiabDoorAgainBase
namespace Go.Proofs.YtdpoiodaonhjiabDoor
open Go.RowKit
set_option linter.unusedVariables false

set_option maxHeartbeats 16000000 in
theorem again_some (ad : Addr) (m cap : Nat) (at_ : Int) (q : Nat) (zs : List Nat) (w : World) (hm : m ≤ 60) (hcap : m ≤ cap) (hcm : cap ≤ 9223372036854775807) (hB : Bs w (some ad) m zs) (hT : BitsTab w)
    (hq : (IntKind.u64.wrap at_).tmod (8 * (m : Int) + 1) = (q : Int)) (hqm : q ≤ 8 * m) :
    Calls Tryd.prog 6 #[.slice (some ad) m cap, .int .i64 at_] w fun e w' => e = .returned (.bool true) ∧ Below w.heap.size w w' := by
  have HC : Hid (canB zs (((8 * m) : Nat) : Int) = true) := can_full zs m hB.1
  have hNN : Hid ((((8 * m) : Nat) : Int) = (8 * (m : Int))) := (by show _ = _; omega)
  have hW0 : Below w.heap.size w (w.alloc (.cells #[.slice (some ad) m cap, .int .i64 (8 * (m : Int))] 24)) := (Below.refl _ _).alloc (Nat.le_refl _) _
  go_enter Tryd.func6, Tryd.ntmps6
  go_wp2_with fail
  refine (takeInt_any (some ad) m cap (8 * (m : Int)) q zs _ (hB.below hW0) (by omega) (by omega) (hT.below hW0)).mono ?_
  rintro e w1 ⟨v, to, er, rfl, hTI, hb1⟩
  have c0 : w1.cell? ⟨w.heap.size, 0, none⟩ = some (.slice (some ad) m cap) := (hb1.cell (by simp)).trans (by simp)
  have c1 : w1.cell? ⟨w.heap.size, 1, none⟩ = some (.int .i64 (8 * (m : Int))) := (hb1.cell (by simp)).trans (by simp)
  have hbw := hW0.trans (hb1.mono hW0.size)
  have hlt1 : w.heap.size < w1.heap.size := block_lt_of_cell c0
  clear hb1
  by_cases her : er = 0
  · subst her
    rw [← hNN.out] at hTI
    obtain ⟨hto, hfit, hvb, hbits⟩ := ti_bits hTI
    obtain ⟨T, hT2⟩ : ∃ T, T = q + intLen v := ⟨_, rfl⟩
    rw [← hT2] at hto
    rw [hto]
    have HBT : Hid (∀ i, i < intLen v → bitAt zs (q + i) = (intBits v).getD i false) := hbits
    have hL68 : intLen v ≤ 68 := by have h1 := clsMarks_le (cls v); have h2 := clsWidth_le (cls v); unfold intLen; omega
    have hTb : T ≤ 480 := by omega
    have HT2 : Hid (T = q + intLen v) := hT2
    have HLEN : Hid ((intBits v).length = intLen v) := intBits_length v
    have HFIT : Hid (q + intLen v ≤ (8 * m)) := hfit
    clear hbits hto hTI hfit hT2
    go_wp2_with fail
    refine (putInt_zero _ v (hT.below hbw)).mono ?_
    rintro e w2 ⟨ay, cy, ys, rfl, hBy, hpk, hb2⟩
    have hcy : canB ys ((intLen v : Nat) : Int) = true := by have := (canB_iff _ _).2 hpk.can; rwa [HLEN.out] at this
    have hly := len_300 hpk (by rw [HLEN.out]; exact hL68)
    have HCY : Hid (canB ys ((intLen v : Nat) : Int) = true) := hcy
    have HPK : Hid (∀ i, bitAt ys i = (intBits v).getD i false) := hpk.2.2
    obtain ⟨L, hLe⟩ : ∃ L, L = intLen v := ⟨_, rfl⟩
    rw [← hLe]
    have HLe : Hid (L = intLen v) := hLe
    have bL : ((L : Int) != (T : Int) - (q : Int)) = false := by have := HT2.out; rw [bne_eq_false_iff_eq]; omega
    have hL68' : L ≤ 68 := by omega
    have hqL : q + L ≤ (8 * m) := by have := HFIT.out; omega
    have c0_2 := below_cell' hb2 c0
    have c1_2 := below_cell' hb2 c1
    have hbw2 := hbw.trans (hb2.mono hbw.size)
    have hlt2 : w.heap.size < w2.heap.size := block_lt_of_cell c0_2
    have hW2 : Below w.heap.size w (w2.alloc (.cells #[.slice ay ys.length cy, .int .i64 L] 24)) := hbw2.alloc hbw2.size _
    have hBy' := hBy.below ((Below.refl _ _).alloc (Nat.le_refl _) (.cells #[.slice ay ys.length cy, .int .i64 L] 24))
    clear hLe HT2 hcy hpk hb2 c0 c1 hL68
    obtain ⟨ly, hlye⟩ : ∃ ly, ly = ys.length := ⟨_, rfl⟩
    rw [← hlye] at hBy' hW2 hly ⊢
    have HLY : Hid (ly = ys.length) := hlye
    clear hlye hBy
    go_wp2
    go_loopw [84] (fun iv wr => ∃ i : Nat, i ≤ L ∧ iv = .int .i64 i ∧ Below (w2.heap.size + 1) (w2.alloc (.cells #[.slice ay ly cy, .int .i64 L] 24)) wr) (fun iv _ => L - (intOf iv).toNat)
    case atStart => exact ⟨0, by omega, rfl, Below.refl _ _⟩
    case round =>
      obtain ⟨i, hi, rfl, hbel⟩ := hrel
      have hbel' : Below (w2.alloc (.cells #[.slice ay ly cy, .int .i64 L] 24)).heap.size (w2.alloc (.cells #[.slice ay ly cy, .int .i64 L] 24)) wr := by rw [World.size_alloc]; exact hbel
      have hbwr := hW2.trans (hbel'.mono hW2.size)
      by_cases hilt : i < L
      · have x0 := below_cell' hbel' (Lib.cell?_alloc_some _ c0_2)
        have x1 := below_cell' hbel' (Lib.cell?_alloc_some _ c1_2)
        have y0 : wr.cell? ⟨w2.heap.size, 0, none⟩ = some (.slice ay ly cy) := (hbel.cell (by simp)).trans (by simp)
        have y1 : wr.cell? ⟨w2.heap.size, 1, none⟩ = some (.int .i64 L) := (hbel.cell (by simp)).trans (by simp)
        have hszr := hbel'.size
        have hByr := hBy'.below hbel'
        obtain ⟨bb, hbb⟩ : ∃ bb, bb = ((intBits v).getD i false).toNat := ⟨_, rfl⟩
        have HT1 : Hid (tV zs (8 * (m : Int)) ((q : Int) + i) 1 = bb) := by
          show _ = _
          rw [← hNN.out, tV_one HC.out (by omega), HBT.out i (by have := HLe.out; omega), hbb]
        have HT2 : Hid (tV ys (L : Int) (i : Int) 1 = bb) := by
          show _ = _
          rw [tV_one0 (n := L) (by rw [HLe.out]; exact HCY.out) hilt, HPK.out i, hbb]
        clear hbel' hbb
        go_wp2_with fail
        refine (take_all (some ad) m cap (8 * (m : Int)) ((q : Int) + i) 1 zs _ (hB.below hbwr) (by omega) (by omega)).mono ?_
        rintro e w3 ⟨rfl, hb3⟩
        rw [HT1.out]
        have y0_3 := below_cell' hb3 y0
        have y1_3 := below_cell' hb3 y1
        have hbel3 := hbel.trans (hb3.mono (by rw [World.size_alloc] at hszr; omega))
        have hBy3 := hByr.below hb3
        have hbw3 := hbwr.trans (hb3.mono hbwr.size)
        clear x0 x1 y0 y1 hb3 hByr hbel hbwr
        generalize tE zs (8 * (m : Int)) ((q : Int) + i) 1 = te1 at *
        go_wp2_with fail
        refine (take_all ay ly cy L i 1 ys _ hBy3 (by omega) (by omega)).mono ?_
        rintro e w4 ⟨rfl, hb4⟩
        rw [HT2.out]
        have hz3 := hbel3.size
        rw [World.size_alloc] at hz3
        have hbel4 := hbel3.trans (hb4.mono (by omega))
        clear y0_3 y1_3 hb4 hBy3 hbel3 hbw3
        generalize tE ys (L : Int) (i : Int) 1 = te2 at *
        have bb' : ((bb : Int) != (bb : Int)) = false := by simp
        go_wp2
        go_roundw
        case rel => exact ⟨i + 1, by omega, by go_num, hbel4⟩
        case measure => simp [intOf]; omega
      · clear hbel hbel'
        go_wp2_with fail
        refine (awake2_any _ (hT.below hbwr)).mono ?_
        rintro e w5 ⟨rfl, hb5⟩
        go_wp2
        go_ret
        exact ⟨rfl, hbwr.trans (hb5.mono hbwr.size)⟩
  · obtain ⟨hv0, hto0⟩ := ti_err hTI her
    have bne : (er != 0) = true := by rw [bne_iff_ne]; exact her
    rw [hv0, hto0]
    clear her
    go_wp2_with fail
    refine (refTakeInt_any (some ad) m cap (8 * (m : Int)) q zs _ (hB.below hbw) (by omega) (by omega)).mono ?_
    rintro e w2 ⟨v2, to2, er2, rfl, hTI2, hb2⟩
    obtain ⟨q1, q2, q3⟩ := hTI.unique hTI2
    rw [← q3]
    have hbw2 := hbw.trans (hb2.mono hbw.size)
    have be : (er == er) = true := by simp
    clear q1 q2 q3 hTI hTI2 hv0 hto0 hb2 c0 c1
    go_wp2_with fail
    refine (awake2_any _ (hT.below hbw2)).mono ?_
    rintro e w3 ⟨rfl, hb3⟩
    go_wp2
    go_ret
    exact ⟨rfl, hbw2.trans (hb3.mono hbw2.size)⟩
end Go.Proofs.YtdpoiodaonhjiabDoor
