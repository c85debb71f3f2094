/- The document's disk: Write of a new file. -/
import Derived.Test.YtocfbokgbpaneaaRyP
import Derived.Test.YtocfbokgbpaneaaRyW
import Derived.Deep.CutRange
namespace Go.Proofs.Ytocfbokgbpaneaa
open Go.RowKit Go.Maps
set_option linter.unusedVariables false

theorem own_grown0 {w w' : World} {base e size n : Nat} {v : Value} {xs : List Value} (h : w.ownsRow base e size v n xs) (hg : w.grownBy w' none) : w'.ownsRow base e size v n xs :=
  own_other h (fun g hv => hg.block g (own_lt h g hv) (by simp))

theorem srcF {W : World} {b : Nat} {s : ByteArray} (he : W.heap[b]? = some (.cells #[.string s, .slice none 0 0] 55 (0, 0))) : ([.string s, .slice none 0 0] : List Value).length = 1 * 2 ∧ (∀ u ∈ ([.string s, .slice none 0 0] : List Value), u.oneCell' = true) ∧ ((some ⟨b, 0, none⟩ : Option Addr) = none → 1 = 0) ∧ ∀ x, (some ⟨b, 0, none⟩ : Option Addr) = some x → ∀ j u, ([.string s, .slice none 0 0] : List Value)[j]? = some u → W.cell? (x.add j) = some u :=
  ⟨rfl, fun u hu => by
    simp only [List.mem_cons, List.not_mem_nil, or_false] at hu
    rcases hu with rfl | rfl <;> rfl, (fun e => by cases e), fun x hx j u hu => by
    cases hx
    rw [add_none, Nat.zero_add, cell_of_row _ _ _ _ _ _ he]
    simpa using hu⟩

/-- Where a new file goes. -/
def InsP (R : List Yf) (s : ByteArray) (k : Nat) : Prop := k ≤ R.length ∧ (∀ j < k, ∀ f, R[j]? = some f → Op.bytesLess f.name.toList s.toList = true) ∧ (∀ f, R[k]? = some f → Op.bytesLess f.name.toList s.toList = false)

theorem set_mid {A B : List Value} {k : Nat} {s x v : Value} (h : A.length = k * 2) : (A ++ [s, x] ++ B).set (k * 2 + 1) v = A ++ ([s, v] ++ B) := by
  rw [List.append_assoc, List.set_append_right _ _ (by omega), show k * 2 + 1 - A.length = 1 from by omega]
  rfl

theorem new_end2i (w5 : World) (y : Nat) (F : Nat → Prop) (fa : Option Addr) (fc : Nat) (R : List Yf) (room fuse : Int) (h5 : RyOf w5 y F fa fc R room fuse) (hL : ∀ b, F b → b < w5.heap.size) (k : Nat) (hk : k ≤ R.length) (s : ByteArray) (hs : s.size ≤ 24) (zs : List Nat) (ba boff cap : Nat) (hBF : BsF F w5 (some ⟨ba, boff, none⟩) 128 zs)
    (n0 : Nat) (hn0 : n0 = w5.heap.size) (gB cB g2 c2 A B : Nat) (Wz : World) (hI : NewI w5 y n0 R room fuse s k gB cB g2 c2 A B Wz) (i n9 : Nat) (hi : i = 0) (hn9 : n9 = R.length + 1) :
    ∃ (q1 : Nat × Nat) (W2 : World) (q2 : Nat × Nat) (W4 : World),
      (Builtin.append_ #[29, 29] 29 #[.slice (some ⟨Wz.heap.size, 0, none⟩) 0 0, .slice (some ⟨ba, boff, none⟩) 128 cap]).run Try.prog (Wz.alloc (.cells #[] 5)) = .ok (im q1) W2 ∧
      (Builtin.append_ #[29, 29] 29 #[.slice (some ⟨W2.heap.size, 0, none⟩) 0 0, .slice (some ⟨ba, boff, none⟩) 128 cap]).run Try.prog (W2.alloc (.cells #[] 5)) = .ok (im q2) W4 ∧
      Wz.cell? ⟨y, 1, none⟩ = some (.slice (some ⟨gB, 0, none⟩) n9 cB) ∧ Wz.cell? ⟨gB, k * 2 + 1, none⟩ = some (.slice (some ⟨g2, 0, none⟩) 1 c2) ∧
      W4.cell? ⟨g2, i * 5, none⟩ = some (.slice none 0 0) ∧ W4.cell? ⟨g2, i * 5 + 3, none⟩ = some (.slice none 0 0) ∧ W4.cell? ⟨g2, i * 5 + 4, none⟩ = some (.bool false) ∧ (∃ cur, W4.heap[g2]? = some (.cells cur 57 (0, 0))) ∧
      ∃ F' c', RyOf (((W4.setCell ⟨g2, i * 5, none⟩ (im q1)).setCell ⟨g2, i * 5 + 3, none⟩ (im q2)).setCell ⟨g2, i * 5 + 4, none⟩ (.bool true)) y F' (some ⟨gB, 0, none⟩) cB (R.take k ++ ⟨s, g2, c2, [c']⟩ :: R.drop k) room fuse ∧ c'.x = zeroE.wrote zs ∧ Gr F F' w5 (((W4.setCell ⟨g2, i * 5, none⟩ (im q1)).setCell ⟨g2, i * 5 + 3, none⟩ (im q2)).setCell ⟨g2, i * 5 + 4, none⟩ (.bool true)) := by
  subst hi
  subst hn9
  simp only [Nat.zero_mul, Nat.zero_add]
  exact new_end2 w5 y F fa fc R room fuse h5 hL k hk s hs zs ba boff cap hBF n0 hn0 gB cB g2 c2 A B Wz hI

set_option maxRecDepth 100000 in
set_option maxHeartbeats 32000000 in
theorem writeY_newf (w : World) (y : Nat) (F : Nat → Prop) (fa : Option Addr) (fc : Nat) (R : List Yf) (room fuse : Int) (h : RyOf w y F fa fc R room fuse) (hF : ∀ k, F k → k < w.heap.size) (s : ByteArray) (hs : nameB s.data.toList = true) (hR : R.length ≤ 1000000) (hr0 : 0 ≤ room) (hr1 : room ≤ 100000) (hsm : sumL R ≤ 100000) (hf0 : fuse ≠ 0) (hf1 : -1 ≤ fuse) (hf2 : fuse ≤ 9223372036854775807) (i : Nat) (ba cap : Nat) (boff : Nat) (zs : List Nat) (hB : BsF F w (some ⟨ba, boff, none⟩) 128 zs) (n : Nat) (HN : Hid (n = (extY R s).length)) (hin : i = n) (hroom : 0 < room - (sumL R : Int)) (hp : placeY R s = none) :
    Calls Try.prog 16 #[.pointer (some ⟨y, 0, none⟩), .string s, .int .i64 (i : Int), .slice (some ⟨ba, boff, none⟩) 128 cap] w (RyPost w y F (fun R2 => ∃ k c' g2 c2, InsP R s k ∧ c'.x = zeroE.wrote zs ∧ R2 = R.take k ++ ⟨s, g2, c2, [c']⟩ :: R.drop k) room (burnt fuse) 0) := by
  have HS24 : Hid (s.size ≤ 24) := hidn (nameB_size hs).2
  have HNm := hidn (isNameY_any w s (by have := nameB_size hs; unfold maxLen; omega))
  rw [hs] at HNm
  have HE := hidn (extentsY_any w y F fa fc R room fuse h hF s hR n HN)
  have HF := hidn hF
  have HBz := hidn hB
  have HYF := hidn h.fy
  have HSt := hidn (fun (wx : World) (hx : RyOf wx y F fa fc R room fuse) => stops_no wx y F fa fc R room fuse hx hf0 hf1 hf2)
  have HE2 := hidn (fun (wx : World) (hx : RyOf wx y F fa fc R room (burnt fuse)) (hl : ∀ k, F k → k < wx.heap.size) => extentsY_any wx y F fa fc R room (burnt fuse) hx hl s hR n HN)
  have HPl := hidn (fun (wx : World) (hx : RyOf wx y F fa fc R room (burnt fuse)) (hl : ∀ k, F k → k < wx.heap.size) => place_any wx y F fa fc R room (burnt fuse) hx hl s hR)
  have HFr := hidn (fun (wx : World) (hx : RyOf wx y F fa fc R room (burnt fuse)) (hl : ∀ k, F k → k < wx.heap.size) => freeY_any wx y F fa fc R room (burnt fuse) hx hl hR hr0 hr1 hsm)
  have H := hidn h
  have e2 : decide ((i : Int) < 0) = false := by simp
  have e3 : decide ((n : Int) < (i : Int)) = false := by simp; omega
  clear h hF hs hB hf0 hf1 hf2
  have HPI : Hid (placeI R s = -1) := hidn (by unfold placeI; rw [hp])
  have HRl := hidn hR
  have HI0 : Hid (i = 0) := hidn (by rw [hin, HN.out]; unfold extY; rw [hp]; rfl)
  have e3n : decide (n < i) = false := by simp; omega
  have e3m : ¬ ((n : Int) < (i : Int)) := by omega
  have e4 : ((i : Int) == (n : Int)) = true := by rw [hin]; simp
  have e4n : decide (i = n) = true := by simpa using hin
  obtain ⟨fr, hfr⟩ : ∃ fr, fr = room - (sumL R : Int) := ⟨_, rfl⟩
  rw [← hfr] at HFr
  have e5 : decide (fr ≤ 0) = false := by rw [hfr]; simp; omega
  clear hp hR hin hroom hfr
  go_enter Try.func16, Try.ntmps16
  go_wp2_with fail
  refine HNm.out.mono ?_
  clear HNm
  rintro e w1 ⟨rfl, hw1⟩
  rw [hw1]
  clear hw1
  go_wp2_with fail
  refine HE.out.mono ?_
  clear HE
  rintro e w2 ⟨rfl, hb2⟩
  have HG2 := hidn (Gr.of (Keeps.of_below (F := F) hb2))
  have HL2 : Hid (∀ k, F k → k < w2.heap.size) := hidn (fun k hk => Nat.lt_of_lt_of_le (HF.out k hk) hb2.size)
  have HR2 := hidn (H.out.below HF.out hb2)
  clear hb2 H HF
  go_wp2_with fail
  refine (HSt.out _ HR2.out).mono ?_
  clear HSt HR2
  rintro e w3 ⟨rfl, hR3, hG3, hs3⟩
  have HR3 := hidn hR3
  have HG3 := hidn (HG2.out.trans hG3)
  have HL3 : Hid (∀ k, F k → k < w3.heap.size) := hidn (fun k hk => by rw [hs3]; exact HL2.out k hk)
  clear hR3 hG3 hs3 HG2 HL2
  go_wp2_with fail
  refine (HE2.out _ HR3.out HL3.out).mono ?_
  clear HE2
  rintro e w4 ⟨rfl, hb4⟩
  have HR4 := hidn (HR3.out.below HL3.out hb4)
  have HG4 := hidn (HG3.out.trans (Gr.of (Keeps.of_below (F := F) hb4)))
  have HL4 : Hid (∀ k, F k → k < w4.heap.size) := hidn (fun k hk => Nat.lt_of_lt_of_le (HL3.out k hk) hb4.size)
  clear hb4 HR3 HG3 HL3
  go_wp2_with fail
  refine (HFr.out _ HR4.out HL4.out).mono ?_
  clear HFr
  rintro e w45 ⟨rfl, hb45⟩
  have HR4 := hidn (HR4.out.below HL4.out hb45)
  have HG4 := hidn (HG4.out.trans (Gr.of (Keeps.of_below (F := F) hb45)))
  have HL4 : Hid (∀ k, F k → k < w45.heap.size) := hidn (fun k hk => Nat.lt_of_lt_of_le (HL4.out k hk) hb45.size)
  clear hb45
  go_wp2_with fail
  have HP := hidn (HPl.out _ HR4.out HL4.out)
  rw [HPI.out] at HP
  refine HP.out.mono ?_
  clear HP HPl HPI
  rintro e w5 ⟨rfl, hb5⟩
  have h5 := HR4.out.below HL4.out hb5
  have HG5 := hidn (HG4.out.trans (Gr.of (Keeps.of_below (F := F) hb5)))
  have HL5 : Hid (∀ k, F k → k < w5.heap.size) := hidn (fun k hk => Nat.lt_of_lt_of_le (HL4.out k hk) hb5.size)
  clear hb5 HR4 HG4 HL4
  have c1 : w5.cell? ⟨y, 1, none⟩ = some (.slice fa R.length fc) := by rw [cell_of_row _ _ _ _ _ _ h5.disk]; rfl
  have hfaN := files_at h5.files
  obtain ⟨N, hN⟩ : ∃ N, N = R.length := ⟨_, rfl⟩
  have hNb : N ≤ 1000000 := by rw [hN]; exact HRl.out
  rw [← hN] at c1 hfaN
  have HNN := hidn hN
  have H5 := hidn h5
  clear hN
  have HfaN := hidn hfaN
  clear hfaN h5
  go_wp2_with fail
  go_loopw [9] (fun iv wr => ∃ k : Nat, k ≤ N ∧ iv = .int .i64 (k : Int) ∧ Hid (∀ j < k, ∀ f, R[j]? = some f → Op.bytesLess f.name.toList s.toList = true) ∧ w5 = wr) (fun iv _ => N - (intOf iv).toNat)
  case atStart => exact ⟨0, Nat.zero_le _, rfl, hidn (fun j hj => by omega), rfl⟩
  case round =>
    obtain ⟨k, hkN, rfl, HLe, rfl⟩ := hrel
    go_upto_region 10 with fail
    go_cut [65] from 47 to 67 (fun c wx => Hid (∃ b : Bool, c = .bool b ∧ (b = true → k < N ∧ ∀ f, R[k]? = some f → Op.bytesLess f.name.toList s.toList = true) ∧ (b = false → ∀ f, R[k]? = some f → Op.bytesLess f.name.toList s.toList = false)) ∧ w5 = wx)
    case first =>
      by_cases hlt : k < N
      · have hlt2 : (k : Int) < (N : Int) := by omega
        have hltb : decide ((k : Int) < (N : Int)) = true := by simpa using hlt2
        have hltn : decide (k < N) = true := by simpa using hlt
        obtain ⟨f, hf⟩ : ∃ f, R[k]? = some f := ⟨_, List.getElem?_eq_getElem (by rw [← HNN.out]; exact hlt)⟩
        obtain ⟨g, hfa, hFg, hc0, hc1⟩ := H5.out.at hf
        subst hfa
        obtain ⟨nm, hnm⟩ : ∃ nm, nm = f.name := ⟨_, rfl⟩
        rw [← hnm] at hc0
        have HFK := hidn hf
        have HNM := hidn hnm
        obtain ⟨bb, hbb⟩ : ∃ bb, bb = Op.bytesLess nm.toList s.toList := ⟨_, rfl⟩
        have hbb' := hbb.symm
        have HBB := hidn hbb
        clear hf hnm hFg hc1 hbb
        go_wp2
        go_meet
        refine ⟨hidn ⟨bb, rfl, fun hb => ⟨hlt, fun f' hf' => ?_⟩, fun hb f' hf' => ?_⟩, rfl⟩
        · rw [HFK.out] at hf'; cases hf'; rw [← HNM.out, ← HBB.out]; exact hb
        · rw [HFK.out] at hf'; cases hf'; rw [← HNM.out, ← HBB.out]; exact hb
      · have hlt2 : ¬ (k : Int) < (N : Int) := by omega
        have hltb : decide ((k : Int) < (N : Int)) = false := by simpa using hlt2
        have hltn : decide (k < N) = false := by simpa using hlt
        go_wp2
        go_meet
        refine ⟨hidn ⟨false, rfl, (fun hb => by cases hb), fun hb f' hf' => ?_⟩, rfl⟩
        have := (List.getElem?_eq_some_iff.1 hf').1
        rw [← HNN.out] at this
        omega
    case rest =>
      obtain ⟨hcb, rfl⟩ := hcut
      obtain ⟨b, rfl, hb1, hb2⟩ := hcb.out
      clear hcb
      cases b with
      | true =>
        obtain ⟨hlt, hle⟩ := hb1 rfl
        have HLe2 : Hid (∀ j < k + 1, ∀ f, R[j]? = some f → Op.bytesLess f.name.toList s.toList = true) := hidn (fun j hj f hf => by
          by_cases e : j = k
          · subst e; exact hle f hf
          · exact HLe.out j (by omega) f hf)
        clear hb1 hb2 hle
        go_wp2
        go_roundw
        case rel => exact ⟨k + 1, hlt, by simp, HLe2, trivial⟩
        case measure => simp [intOf]; omega
      | false =>
        have HIns : Hid (InsP R s k) := hidn ⟨by rw [← HNN.out]; exact hkN, HLe.out, hb2 rfl⟩
        clear hb1 hb2 HLe
        have h5 := H5.out
        have hyrow := h5.disk
        have hfaN := HfaN.out
        obtain ⟨n0, hn0⟩ : ∃ n0, n0 = w5.heap.size := ⟨_, rfl⟩
        have HNE := hidn hn0
        have ly0 : y < n0 := by rw [hn0]; exact HL5.out y h5.fy
        obtain ⟨k1, hk1⟩ : ∃ k1, k1 = k + 1 := ⟨_, rfl⟩
        obtain ⟨m2, hm2⟩ : ∃ m2, m2 = N - k := ⟨_, rfl⟩
        obtain ⟨c2, hc2⟩ : ∃ c2, c2 = fc - k := ⟨_, rfl⟩
        obtain ⟨a2, ha2⟩ : ∃ a2 : Option Addr, a2 = lowA fa fc k := ⟨_, rfl⟩
        obtain ⟨n9, hn9⟩ : ∃ n9, n9 = k1 + m2 := ⟨_, rfl⟩
        have hn9' : n9 = N + 1 := by omega
        have HA2 := hidn ha2
        have HM2 := hidn hm2
        have HC2 := hidn hc2
        have HN9 := hidn hn9'
        have hsrcf : ∀ (W : World), Below n0 w5 W → ∀ g, fa = some ⟨g, 0, none⟩ → ∀ j u, (cellsR R)[j]? = some u → W.cell? ⟨g, j, none⟩ = some u := fun W hb g hg j u hu => by
          subst hg
          have h1 := h5.files.cells (g := g) rfl j u hu
          rw [add_none, Nat.zero_add] at h1
          exact (hb.cell (p := ⟨g, j, none⟩) (by show g < n0; rw [hn0]; exact HL5.out g (h5.ff _ rfl))).trans h1
        have HSrcA : Hid (∀ W, Below n0 w5 W → (cellsR (R.take k)).length = k * 2 ∧ (∀ u ∈ cellsR (R.take k), u.oneCell' = true) ∧ (fa = none → k = 0) ∧ ∀ x, fa = some x → ∀ j u, (cellsR (R.take k))[j]? = some u → W.cell? (x.add j) = some u) := hidn (fun W hb => ⟨by rw [cellsR_length, List.length_take, Nat.min_eq_left (by rw [← HNN.out]; exact hkN)], cellsR_one _, (fun e => by
            rcases hfaN with ⟨_, h0, _⟩ | ⟨g, h0, _⟩
            · omega
            · rw [h0] at e; cases e), fun x hx j u hu => by
          rcases hfaN with ⟨h0, _⟩ | ⟨g, h0, _⟩
          · rw [h0] at hx; cases hx
          · have hx2 := hx
            rw [h0] at hx2
            cases hx2
            rw [add_none, Nat.zero_add]
            exact hsrcf W hb g h0 j u (cellsR_takeY R k j u hu)⟩)
        have HSrcB : Hid (∀ W, Below n0 w5 W → (cellsR (R.drop k)).length = m2 * 2 ∧ (∀ u ∈ cellsR (R.drop k), u.oneCell' = true) ∧ (a2 = none → m2 = 0) ∧ ∀ x, a2 = some x → ∀ j u, (cellsR (R.drop k))[j]? = some u → W.cell? (x.add j) = some u) := hidn (fun W hb => ⟨by rw [cellsR_length, List.length_drop, ← HNN.out, hm2], cellsR_one _, (fun e => by
            rcases hfaN with ⟨_, h0, _⟩ | ⟨g, h0, _⟩
            · omega
            · rw [ha2, h0] at e
              unfold lowA at e
              simp only at e
              split at e <;> cases e), fun x hx j u hu => by
          have hjl := (List.getElem?_eq_some_iff.1 hu).1
          rw [cellsR_length, List.length_drop, ← HNN.out] at hjl
          rcases hfaN with ⟨h0, _⟩ | ⟨g, h0, hle⟩
          · rw [ha2, h0] at hx; cases hx
          · rw [ha2, h0] at hx
            unfold lowA at hx
            simp only at hx
            rw [if_neg (by omega)] at hx
            cases hx
            rw [cellsR_drop] at hu
            rw [add_none]
            have h1 := hsrcf W hb g h0 (k * 2 + j) u hu
            rw [Nat.zero_add]
            exact h1⟩)
        have hk0 : k ≤ 1000000 := by omega
        have hm0 : m2 ≤ 1000000 := by omega
        have hn9b : n9 ≤ 1000001 := by omega
        clear hsrcf ha2 hc2 hn0 h5 hn9'
        go_wp2_with fail
        refine region_cut (fun l w' => ∃ (b69 : Nat) (aA : Option Addr) (cA b79 : Nat) (aB : Option Addr) (cB : Nat) (aC : Option Addr) (cC : Nat) (W : World), l = [(68, .pointer (some ⟨y, 0, none⟩)), (69, .slice (some ⟨b69, 0, none⟩) 0 0), (70, .pointer (some ⟨y, 0, none⟩)), (71, .pointer (some ⟨y, 0, none⟩)), (72, .pointer (some ⟨y, 1, none⟩)), (73, .slice fa N fc), (74, .int .i64 (k : Int)), (75, .slice fa k fc), (76, .slice aA k cA), (77, .string s), (78, .agg #[.string s, .slice none 0 0]), (79, .slice (some ⟨b79, 0, none⟩) 1 1), (80, .slice aB k1 cB), (81, .pointer (some ⟨y, 0, none⟩)), (82, .pointer (some ⟨y, 0, none⟩)), (83, .pointer (some ⟨y, 1, none⟩)), (84, .slice fa N fc), (85, .int .i64 (k : Int)), (86, .slice a2 m2 c2), (87, .slice aC n9 cC), (88, .pointer (some ⟨y, 0, none⟩)), (89, .pointer (some ⟨y, 1, none⟩))] ∧ w' = W.setCell ⟨y, 1, none⟩ (.slice aC n9 cC) ∧ Below n0 w5 W ∧ W.ownsRow n0 55 2 (.slice aC n9 cC) n9 (cellsR (R.take k) ++ [.string s, .slice none 0 0] ++ cellsR (R.drop k))) ?_ ?_
        · skip
          refine wp_region_noPanic ?_
          refine wp_region_heldZ (S := Below n0 w5) 22 (by kernel_rfl) ((Below.refl n0 w5).drew) (fun hHeld => ?_)
          obtain ⟨Wd, hWd⟩ : ∃ Wd, Wd = w5.drew := ⟨_, rfl⟩
          have hle0 : n0 ≤ Wd.heap.size := by rw [hWd]; exact Nat.le_of_eq HNE.out
          have hK0 : Below n0 w5 Wd := by rw [hWd]; exact (Below.refl n0 w5).drew
          rw [← hWd] at hHeld ⊢
          clear hWd
          refine drawnZ_take (i := 0) (v := .pointer (some ⟨y, 0, none⟩)) (some 68) rfl (by kernel_rfl) rfl (by kernel_rfl) (by kernel_rfl) (by kernel_rfl) (fun _ _ _ h => h) (Or.inl ⟨by kernel_rfl, fun wq hw => by go_simp⟩) hHeld ?_
          simp only [Act.put, List.setIfInBounds_toArray, List.set_cons_succ, List.set_cons_zero]
          refine drawnZ_take (i := 2) (v := .pointer (some ⟨y, 0, none⟩)) (some 70) rfl (by kernel_rfl) rfl (by kernel_rfl) (by kernel_rfl) (by kernel_rfl) (fun _ _ _ h => h) (Or.inl ⟨by kernel_rfl, fun wq hw => by go_simp⟩) hHeld ?_
          simp only [Act.put, List.setIfInBounds_toArray, List.set_cons_succ, List.set_cons_zero]
          refine drawnZ_take (i := 3) (v := .pointer (some ⟨y, 0, none⟩)) (some 71) rfl (by kernel_rfl) rfl (by kernel_rfl) (by kernel_rfl) (by kernel_rfl) (fun _ _ _ h => h) (Or.inl ⟨by kernel_rfl, fun wq hw => by go_simp⟩) hHeld ?_
          simp only [Act.put, List.setIfInBounds_toArray, List.set_cons_succ, List.set_cons_zero]
          refine drawnZ_take (i := 4) (v := .pointer (some ⟨y, 1, none⟩)) (some 72) rfl (by kernel_rfl) rfl (by kernel_rfl) (by kernel_rfl) (by kernel_rfl) (fun _ _ _ h => h) (Or.inl ⟨by kernel_rfl, fun wq hw => by go_simp⟩) hHeld ?_
          simp only [Act.put, List.setIfInBounds_toArray, List.set_cons_succ, List.set_cons_zero]
          refine drawnZ_take (i := 5) (v := .slice fa N fc) (some 73) rfl (by kernel_rfl) rfl (by kernel_rfl) (by kernel_rfl) (by kernel_rfl) (fun _ _ _ h => h) (Or.inl ⟨by kernel_rfl, fun wq hw => by have q := (hw.cell (p := ⟨y, 1, none⟩) ly0).trans c1; go_simp⟩) hHeld ?_
          simp only [Act.put, List.setIfInBounds_toArray, List.set_cons_succ, List.set_cons_zero]
          refine drawnZ_take (i := 6) (v := .int .i64 (k : Int)) (some 74) rfl (by kernel_rfl) rfl (by kernel_rfl) (by kernel_rfl) (by kernel_rfl) (fun _ _ _ h => h) (Or.inl ⟨by kernel_rfl, fun wq hw => by go_simp⟩) hHeld ?_
          simp only [Act.put, List.setIfInBounds_toArray, List.set_cons_succ, List.set_cons_zero]
          refine drawnZ_take (i := 7) (v := .slice fa k fc) (some 75) rfl (by kernel_rfl) rfl (by kernel_rfl) (by kernel_rfl) (by kernel_rfl) (fun _ _ _ h => h) (Or.inl ⟨by kernel_rfl, fun wq hw => slHO_run (x := .tmp 73) (z := .tmp 74) (N := N) rfl (by kernel_rfl) (by kernel_rfl) hfaN hkN⟩) hHeld ?_
          simp only [Act.put, List.setIfInBounds_toArray, List.set_cons_succ, List.set_cons_zero]
          refine drawnZ_take (i := 9) (v := .string s) (some 77) rfl (by kernel_rfl) rfl (by kernel_rfl) (by kernel_rfl) (by kernel_rfl) (fun _ _ _ h => h) (Or.inl ⟨by kernel_rfl, fun wq hw => by go_simp⟩) hHeld ?_
          simp only [Act.put, List.setIfInBounds_toArray, List.set_cons_succ, List.set_cons_zero]
          refine drawnZ_take (i := 10) (v := .agg #[.string s, .slice none 0 0]) (some 78) rfl (by kernel_rfl) rfl (by kernel_rfl) (by kernel_rfl) (by kernel_rfl) (fun _ _ _ h => h) (Or.inl ⟨by kernel_rfl, fun wq hw => by go_simp⟩) hHeld ?_
          simp only [Act.put, List.setIfInBounds_toArray, List.set_cons_succ, List.set_cons_zero]
          refine drawnZ_take (i := 13) (v := .pointer (some ⟨y, 0, none⟩)) (some 81) rfl (by kernel_rfl) rfl (by kernel_rfl) (by kernel_rfl) (by kernel_rfl) (fun _ _ _ h => h) (Or.inl ⟨by kernel_rfl, fun wq hw => by go_simp⟩) hHeld ?_
          simp only [Act.put, List.setIfInBounds_toArray, List.set_cons_succ, List.set_cons_zero]
          refine drawnZ_take (i := 14) (v := .pointer (some ⟨y, 0, none⟩)) (some 82) rfl (by kernel_rfl) rfl (by kernel_rfl) (by kernel_rfl) (by kernel_rfl) (fun _ _ _ h => h) (Or.inl ⟨by kernel_rfl, fun wq hw => by go_simp⟩) hHeld ?_
          simp only [Act.put, List.setIfInBounds_toArray, List.set_cons_succ, List.set_cons_zero]
          refine drawnZ_take (i := 15) (v := .pointer (some ⟨y, 1, none⟩)) (some 83) rfl (by kernel_rfl) rfl (by kernel_rfl) (by kernel_rfl) (by kernel_rfl) (fun _ _ _ h => h) (Or.inl ⟨by kernel_rfl, fun wq hw => by go_simp⟩) hHeld ?_
          simp only [Act.put, List.setIfInBounds_toArray, List.set_cons_succ, List.set_cons_zero]
          refine drawnZ_take (i := 16) (v := .slice fa N fc) (some 84) rfl (by kernel_rfl) rfl (by kernel_rfl) (by kernel_rfl) (by kernel_rfl) (fun _ _ _ h => h) (Or.inl ⟨by kernel_rfl, fun wq hw => by have q := (hw.cell (p := ⟨y, 1, none⟩) ly0).trans c1; go_simp⟩) hHeld ?_
          simp only [Act.put, List.setIfInBounds_toArray, List.set_cons_succ, List.set_cons_zero]
          refine drawnZ_take (i := 17) (v := .int .i64 (k : Int)) (some 85) rfl (by kernel_rfl) rfl (by kernel_rfl) (by kernel_rfl) (by kernel_rfl) (fun _ _ _ h => h) (Or.inl ⟨by kernel_rfl, fun wq hw => by go_simp⟩) hHeld ?_
          simp only [Act.put, List.setIfInBounds_toArray, List.set_cons_succ, List.set_cons_zero]
          refine drawnZ_take (i := 18) (v := .slice a2 m2 c2) (some 86) rfl (by kernel_rfl) rfl (by kernel_rfl) (by kernel_rfl) (by kernel_rfl) (fun _ _ _ h => h) (Or.inl ⟨by kernel_rfl, fun wq hw => slLO_run (x := .tmp 84) (z := .tmp 85) (fa := fa) (N := N) (fc := fc) (k := k) rfl (by kernel_rfl) (by kernel_rfl) hfaN hkN HA2 HM2 HC2⟩) hHeld ?_
          simp only [Act.put, List.setIfInBounds_toArray, List.set_cons_succ, List.set_cons_zero]
          refine wpAnyZ_ready (rs := [1, 11]) (by kernel_rfl) (by simp) ?_
          refine rdyZ_val (i := 1) rfl rfl (some 69) rfl (.slice (some ⟨Wd.heap.size, 0, none⟩) 0 0) (Wd.alloc (.cells #[] 55)) (mk0f_run rfl) (hK0.alloc (hle0) _) (fun hHeld => ?_) ?_
          · simp only [Act.put, List.setIfInBounds_toArray, List.set_cons_succ, List.set_cons_zero]
            have he1 := heap_alloc_new Wd (.cells #[] 55)
            have hK1 := hK0.alloc (hle0) (.cells #[] 55)
            have hg1 : Wd.grownBy (Wd.alloc (.cells #[] 55)) none := grown_alloc Wd _
            obtain ⟨b1, hb1⟩ : ∃ b, b = Wd.heap.size := ⟨_, rfl⟩
            obtain ⟨W1, hW1⟩ : ∃ W', W' = Wd.alloc (.cells #[] 55) := ⟨_, rfl⟩
            rw [← hW1] at hHeld hK1 hg1
            rw [← hb1, ← hW1] at he1
            rw [← hb1, ← hW1]
            have hn1 : n0 ≤ b1 := by rw [hb1]; exact hle0
            have ho1 : W1.ownsRow n0 55 2 (.slice (some ⟨b1, 0, none⟩) 0 0) 0 [] := own_emptyN he1 hn1
            clear hW1
            refine wpAnyZ_ready (rs := [8, 11]) (by kernel_rfl) (by simp) ?_
            obtain ⟨ga2, gc2, W2, hr2, ho2, hg2⟩ := appFl W1 n0 (some ⟨b1, 0, none⟩) 0 0 [] ho1 (Nat.le_trans (hle0) hg1.size) fa k fc (cellsR (R.take k)) (by omega) (HSrcA.out W1 hK1) k (by omega) (by omega)
            refine rdyZ_val (i := 8) rfl rfl (some 76) rfl (.slice ga2 k gc2) W2 (app_run3 (x := .tmp 69) (y := .tmp 75) rfl (by kernel_rfl) (by kernel_rfl) hr2) (hK1.grown hg2 (Nat.le_trans (hle0) hg1.size) (fun b hb => (ho1.lt b hb).1)) (fun hHeld => ?_) ?_
            · simp only [Act.put, List.setIfInBounds_toArray, List.set_cons_succ, List.set_cons_zero]
              clear hr2
              have hK2 := hK1.grown hg2 (Nat.le_trans (hle0) hg1.size) (fun b hb => (ho1.lt b hb).1)
              refine wpAnyZ_ready (rs := [11]) (by kernel_rfl) (by simp) ?_
              refine rdyZ_val (i := 11) rfl rfl (some 79) rfl (.slice (some ⟨W2.heap.size, 0, none⟩) 1 1) (W2.alloc (.cells #[.string s, .slice none 0 0] 55)) (bs1f_run (x := .tmp 78) rfl (by kernel_rfl)) (hK2.alloc (Nat.le_trans (Nat.le_trans (hle0) hg1.size) hg2.size) _) (fun hHeld => ?_) rdyZ_nil
              simp only [Act.put, List.setIfInBounds_toArray, List.set_cons_succ, List.set_cons_zero]
              have he3 := heap_alloc_new W2 (.cells #[.string s, .slice none 0 0] 55)
              have hK3 := hK2.alloc (Nat.le_trans (Nat.le_trans (hle0) hg1.size) hg2.size) (.cells #[.string s, .slice none 0 0] 55)
              have hg3 : W2.grownBy (W2.alloc (.cells #[.string s, .slice none 0 0] 55)) none := grown_alloc W2 _
              obtain ⟨b3, hb3⟩ : ∃ b, b = W2.heap.size := ⟨_, rfl⟩
              obtain ⟨W3, hW3⟩ : ∃ W', W' = W2.alloc (.cells #[.string s, .slice none 0 0] 55) := ⟨_, rfl⟩
              rw [← hW3] at hHeld hK3 hg3
              rw [← hb3, ← hW3] at he3
              rw [← hb3, ← hW3]
              clear hW3
              have ho2_3 := own_grown0 ho2 hg3
              refine wpAnyZ_ready (rs := [12]) (by kernel_rfl) (by simp) ?_
              obtain ⟨ga4, gc4, W4, hr4, ho4, hg4⟩ := appFl W3 n0 ga2 k gc2 (cellsR (R.take k)) ho2_3 (Nat.le_trans (Nat.le_trans (Nat.le_trans (hle0) hg1.size) hg2.size) hg3.size) (some ⟨b3, 0, none⟩) 1 1 [.string s, .slice none 0 0] (by omega) (srcF he3) k1 (by omega) (by omega)
              refine rdyZ_val (i := 12) rfl rfl (some 80) rfl (.slice ga4 k1 gc4) W4 (app_run3 (x := .tmp 76) (y := .tmp 79) rfl (by kernel_rfl) (by kernel_rfl) hr4) (hK3.grown hg4 (Nat.le_trans (Nat.le_trans (Nat.le_trans (hle0) hg1.size) hg2.size) hg3.size) (fun b hb => (ho2_3.lt b hb).1)) (fun hHeld => ?_) rdyZ_nil
              simp only [Act.put, List.setIfInBounds_toArray, List.set_cons_succ, List.set_cons_zero]
              clear hr4
              have hK4 := hK3.grown hg4 (Nat.le_trans (Nat.le_trans (Nat.le_trans (hle0) hg1.size) hg2.size) hg3.size) (fun b hb => (ho2_3.lt b hb).1)
              refine wpAnyZ_ready (rs := [19]) (by kernel_rfl) (by simp) ?_
              obtain ⟨ga5, gc5, W5, hr5, ho5, hg5⟩ := appFl W4 n0 ga4 k1 gc4 (cellsR (R.take k) ++ [.string s, .slice none 0 0]) ho4 (Nat.le_trans (Nat.le_trans (Nat.le_trans (Nat.le_trans (hle0) hg1.size) hg2.size) hg3.size) hg4.size) a2 m2 c2 (cellsR (R.drop k)) (by omega) (HSrcB.out W4 hK4) n9 (by omega) (by omega)
              refine rdyZ_val (i := 19) rfl rfl (some 87) rfl (.slice ga5 n9 gc5) W5 (app_run3 (x := .tmp 80) (y := .tmp 86) rfl (by kernel_rfl) (by kernel_rfl) hr5) (hK4.grown hg5 (Nat.le_trans (Nat.le_trans (Nat.le_trans (Nat.le_trans (hle0) hg1.size) hg2.size) hg3.size) hg4.size) (fun b hb => (ho4.lt b hb).1)) (fun hHeld => ?_) rdyZ_nil
              simp only [Act.put, List.setIfInBounds_toArray, List.set_cons_succ, List.set_cons_zero]
              clear hr5
              have hK5 := hK4.grown hg5 (Nat.le_trans (Nat.le_trans (Nat.le_trans (Nat.le_trans (hle0) hg1.size) hg2.size) hg3.size) hg4.size) (fun b hb => (ho4.lt b hb).1)
              refine wpAnyZ_ready (rs := [20]) (by kernel_rfl) (by simp) ?_
              refine rdyZ_val (i := 20) rfl rfl (some 88) rfl (.pointer (some ⟨y, 0, none⟩)) W5 (by go_simp) hK5 (fun hHeld => ?_) rdyZ_nil
              simp only [Act.put, List.setIfInBounds_toArray, List.set_cons_succ, List.set_cons_zero]
              refine wpAnyZ_ready (rs := [21]) (by kernel_rfl) (by simp) ?_
              refine rdyZ_val (i := 21) rfl rfl (some 89) rfl (.pointer (some ⟨y, 1, none⟩)) W5 (by go_simp) hK5 (fun hHeld => ?_) rdyZ_nil
              simp only [Act.put, List.setIfInBounds_toArray, List.set_cons_succ, List.set_cons_zero]
              refine wpAnyZ_ready (rs := [22]) (by kernel_rfl) (by simp) ?_
              have hcf := (hK5.cell (p := ⟨y, 1, none⟩) ly0).trans c1
              have hfz := frozen_of_row _ _ 1 _ _ ((hK5.block y ly0).trans hyrow)
              refine rdyZ_last (z := 22) rfl rfl rfl (W5.setCell ⟨y, 1, none⟩ (.slice ga5 n9 gc5)) (by go_simp) ?_
              simp only [Act.put]
              refine wpAnyZ_done (by kernel_rfl) ?_ _
              refine NoPanic.normal ?_
              exact ⟨rfl, _, ⟨b1, ga2, gc2, b3, ga4, gc4, ga5, gc5, W5, rfl, rfl, hK5, ho5⟩, by kernel_rfl⟩
            refine rdyZ_val (i := 11) rfl rfl (some 79) rfl (.slice (some ⟨W1.heap.size, 0, none⟩) 1 1) (W1.alloc (.cells #[.string s, .slice none 0 0] 55)) (bs1f_run (x := .tmp 78) rfl (by kernel_rfl)) (hK1.alloc (Nat.le_trans (hle0) hg1.size) _) (fun hHeld => ?_) rdyZ_nil
            simp only [Act.put, List.setIfInBounds_toArray, List.set_cons_succ, List.set_cons_zero]
            have he2 := heap_alloc_new W1 (.cells #[.string s, .slice none 0 0] 55)
            have hK2 := hK1.alloc (Nat.le_trans (hle0) hg1.size) (.cells #[.string s, .slice none 0 0] 55)
            have hg2 : W1.grownBy (W1.alloc (.cells #[.string s, .slice none 0 0] 55)) none := grown_alloc W1 _
            obtain ⟨b2, hb2⟩ : ∃ b, b = W1.heap.size := ⟨_, rfl⟩
            obtain ⟨W2, hW2⟩ : ∃ W', W' = W1.alloc (.cells #[.string s, .slice none 0 0] 55) := ⟨_, rfl⟩
            rw [← hW2] at hHeld hK2 hg2
            rw [← hb2, ← hW2] at he2
            rw [← hb2, ← hW2]
            clear hW2
            have hd2 : b1 ≠ b2 := by have := own_lt ho1 b1 rfl; omega
            have ho1_2 := own_grown0 ho1 hg2
            refine wpAnyZ_ready (rs := [8]) (by kernel_rfl) (by simp) ?_
            obtain ⟨ga3, gc3, W3, hr3, ho3, hg3⟩ := appFl W2 n0 (some ⟨b1, 0, none⟩) 0 0 [] ho1_2 (Nat.le_trans (Nat.le_trans (hle0) hg1.size) hg2.size) fa k fc (cellsR (R.take k)) (by omega) (HSrcA.out W2 hK2) k (by omega) (by omega)
            refine rdyZ_val (i := 8) rfl rfl (some 76) rfl (.slice ga3 k gc3) W3 (app_run3 (x := .tmp 69) (y := .tmp 75) rfl (by kernel_rfl) (by kernel_rfl) hr3) (hK2.grown hg3 (Nat.le_trans (Nat.le_trans (hle0) hg1.size) hg2.size) (fun b hb => (ho1_2.lt b hb).1)) (fun hHeld => ?_) rdyZ_nil
            simp only [Act.put, List.setIfInBounds_toArray, List.set_cons_succ, List.set_cons_zero]
            clear hr3
            have hK3 := hK2.grown hg3 (Nat.le_trans (Nat.le_trans (hle0) hg1.size) hg2.size) (fun b hb => (ho1_2.lt b hb).1)
            have he2_3 := (hg3.block b2 (Array.getElem?_eq_some_iff.1 he2).1 (fun e => hd2 (Option.some.inj (e : some b2 = some b1)).symm)).trans he2
            refine wpAnyZ_ready (rs := [12]) (by kernel_rfl) (by simp) ?_
            obtain ⟨ga4, gc4, W4, hr4, ho4, hg4⟩ := appFl W3 n0 ga3 k gc3 (cellsR (R.take k)) ho3 (Nat.le_trans (Nat.le_trans (Nat.le_trans (hle0) hg1.size) hg2.size) hg3.size) (some ⟨b2, 0, none⟩) 1 1 [.string s, .slice none 0 0] (by omega) (srcF he2_3) k1 (by omega) (by omega)
            refine rdyZ_val (i := 12) rfl rfl (some 80) rfl (.slice ga4 k1 gc4) W4 (app_run3 (x := .tmp 76) (y := .tmp 79) rfl (by kernel_rfl) (by kernel_rfl) hr4) (hK3.grown hg4 (Nat.le_trans (Nat.le_trans (Nat.le_trans (hle0) hg1.size) hg2.size) hg3.size) (fun b hb => (ho3.lt b hb).1)) (fun hHeld => ?_) rdyZ_nil
            simp only [Act.put, List.setIfInBounds_toArray, List.set_cons_succ, List.set_cons_zero]
            clear hr4
            have hK4 := hK3.grown hg4 (Nat.le_trans (Nat.le_trans (Nat.le_trans (hle0) hg1.size) hg2.size) hg3.size) (fun b hb => (ho3.lt b hb).1)
            refine wpAnyZ_ready (rs := [19]) (by kernel_rfl) (by simp) ?_
            obtain ⟨ga5, gc5, W5, hr5, ho5, hg5⟩ := appFl W4 n0 ga4 k1 gc4 (cellsR (R.take k) ++ [.string s, .slice none 0 0]) ho4 (Nat.le_trans (Nat.le_trans (Nat.le_trans (Nat.le_trans (hle0) hg1.size) hg2.size) hg3.size) hg4.size) a2 m2 c2 (cellsR (R.drop k)) (by omega) (HSrcB.out W4 hK4) n9 (by omega) (by omega)
            refine rdyZ_val (i := 19) rfl rfl (some 87) rfl (.slice ga5 n9 gc5) W5 (app_run3 (x := .tmp 80) (y := .tmp 86) rfl (by kernel_rfl) (by kernel_rfl) hr5) (hK4.grown hg5 (Nat.le_trans (Nat.le_trans (Nat.le_trans (Nat.le_trans (hle0) hg1.size) hg2.size) hg3.size) hg4.size) (fun b hb => (ho4.lt b hb).1)) (fun hHeld => ?_) rdyZ_nil
            simp only [Act.put, List.setIfInBounds_toArray, List.set_cons_succ, List.set_cons_zero]
            clear hr5
            have hK5 := hK4.grown hg5 (Nat.le_trans (Nat.le_trans (Nat.le_trans (Nat.le_trans (hle0) hg1.size) hg2.size) hg3.size) hg4.size) (fun b hb => (ho4.lt b hb).1)
            refine wpAnyZ_ready (rs := [20]) (by kernel_rfl) (by simp) ?_
            refine rdyZ_val (i := 20) rfl rfl (some 88) rfl (.pointer (some ⟨y, 0, none⟩)) W5 (by go_simp) hK5 (fun hHeld => ?_) rdyZ_nil
            simp only [Act.put, List.setIfInBounds_toArray, List.set_cons_succ, List.set_cons_zero]
            refine wpAnyZ_ready (rs := [21]) (by kernel_rfl) (by simp) ?_
            refine rdyZ_val (i := 21) rfl rfl (some 89) rfl (.pointer (some ⟨y, 1, none⟩)) W5 (by go_simp) hK5 (fun hHeld => ?_) rdyZ_nil
            simp only [Act.put, List.setIfInBounds_toArray, List.set_cons_succ, List.set_cons_zero]
            refine wpAnyZ_ready (rs := [22]) (by kernel_rfl) (by simp) ?_
            have hcf := (hK5.cell (p := ⟨y, 1, none⟩) ly0).trans c1
            have hfz := frozen_of_row _ _ 1 _ _ ((hK5.block y ly0).trans hyrow)
            refine rdyZ_last (z := 22) rfl rfl rfl (W5.setCell ⟨y, 1, none⟩ (.slice ga5 n9 gc5)) (by go_simp) ?_
            simp only [Act.put]
            refine wpAnyZ_done (by kernel_rfl) ?_ _
            refine NoPanic.normal ?_
            exact ⟨rfl, _, ⟨b1, ga3, gc3, b2, ga4, gc4, ga5, gc5, W5, rfl, rfl, hK5, ho5⟩, by kernel_rfl⟩
          refine rdyZ_val (i := 11) rfl rfl (some 79) rfl (.slice (some ⟨Wd.heap.size, 0, none⟩) 1 1) (Wd.alloc (.cells #[.string s, .slice none 0 0] 55)) (bs1f_run (x := .tmp 78) rfl (by kernel_rfl)) (hK0.alloc (hle0) _) (fun hHeld => ?_) rdyZ_nil
          simp only [Act.put, List.setIfInBounds_toArray, List.set_cons_succ, List.set_cons_zero]
          have he1 := heap_alloc_new Wd (.cells #[.string s, .slice none 0 0] 55)
          have hK1 := hK0.alloc (hle0) (.cells #[.string s, .slice none 0 0] 55)
          have hg1 : Wd.grownBy (Wd.alloc (.cells #[.string s, .slice none 0 0] 55)) none := grown_alloc Wd _
          obtain ⟨b1, hb1⟩ : ∃ b, b = Wd.heap.size := ⟨_, rfl⟩
          obtain ⟨W1, hW1⟩ : ∃ W', W' = Wd.alloc (.cells #[.string s, .slice none 0 0] 55) := ⟨_, rfl⟩
          rw [← hW1] at hHeld hK1 hg1
          rw [← hb1, ← hW1] at he1
          rw [← hb1, ← hW1]
          clear hW1
          refine wpAnyZ_ready (rs := [1]) (by kernel_rfl) (by simp) ?_
          refine rdyZ_val (i := 1) rfl rfl (some 69) rfl (.slice (some ⟨W1.heap.size, 0, none⟩) 0 0) (W1.alloc (.cells #[] 55)) (mk0f_run rfl) (hK1.alloc (Nat.le_trans (hle0) hg1.size) _) (fun hHeld => ?_) rdyZ_nil
          simp only [Act.put, List.setIfInBounds_toArray, List.set_cons_succ, List.set_cons_zero]
          have he2 := heap_alloc_new W1 (.cells #[] 55)
          have hK2 := hK1.alloc (Nat.le_trans (hle0) hg1.size) (.cells #[] 55)
          have hg2 : W1.grownBy (W1.alloc (.cells #[] 55)) none := grown_alloc W1 _
          obtain ⟨b2, hb2⟩ : ∃ b, b = W1.heap.size := ⟨_, rfl⟩
          obtain ⟨W2, hW2⟩ : ∃ W', W' = W1.alloc (.cells #[] 55) := ⟨_, rfl⟩
          rw [← hW2] at hHeld hK2 hg2
          rw [← hb2, ← hW2] at he2
          rw [← hb2, ← hW2]
          have hn2 : n0 ≤ b2 := by rw [hb2]; exact Nat.le_trans (hle0) hg1.size
          have ho2 : W2.ownsRow n0 55 2 (.slice (some ⟨b2, 0, none⟩) 0 0) 0 [] := own_emptyN he2 hn2
          clear hW2
          have hd2 : b2 ≠ b1 := by have := (Array.getElem?_eq_some_iff.1 he1).1; omega
          have he1_2 := (hg2.block b1 (Array.getElem?_eq_some_iff.1 he1).1 (by simp)).trans he1
          refine wpAnyZ_ready (rs := [8]) (by kernel_rfl) (by simp) ?_
          obtain ⟨ga3, gc3, W3, hr3, ho3, hg3⟩ := appFl W2 n0 (some ⟨b2, 0, none⟩) 0 0 [] ho2 (Nat.le_trans (Nat.le_trans (hle0) hg1.size) hg2.size) fa k fc (cellsR (R.take k)) (by omega) (HSrcA.out W2 hK2) k (by omega) (by omega)
          refine rdyZ_val (i := 8) rfl rfl (some 76) rfl (.slice ga3 k gc3) W3 (app_run3 (x := .tmp 69) (y := .tmp 75) rfl (by kernel_rfl) (by kernel_rfl) hr3) (hK2.grown hg3 (Nat.le_trans (Nat.le_trans (hle0) hg1.size) hg2.size) (fun b hb => (ho2.lt b hb).1)) (fun hHeld => ?_) rdyZ_nil
          simp only [Act.put, List.setIfInBounds_toArray, List.set_cons_succ, List.set_cons_zero]
          clear hr3
          have hK3 := hK2.grown hg3 (Nat.le_trans (Nat.le_trans (hle0) hg1.size) hg2.size) (fun b hb => (ho2.lt b hb).1)
          have he1_2_3 := (hg3.block b1 (Array.getElem?_eq_some_iff.1 he1_2).1 (fun e => hd2 (Option.some.inj (e : some b1 = some b2)).symm)).trans he1_2
          refine wpAnyZ_ready (rs := [12]) (by kernel_rfl) (by simp) ?_
          obtain ⟨ga4, gc4, W4, hr4, ho4, hg4⟩ := appFl W3 n0 ga3 k gc3 (cellsR (R.take k)) ho3 (Nat.le_trans (Nat.le_trans (Nat.le_trans (hle0) hg1.size) hg2.size) hg3.size) (some ⟨b1, 0, none⟩) 1 1 [.string s, .slice none 0 0] (by omega) (srcF he1_2_3) k1 (by omega) (by omega)
          refine rdyZ_val (i := 12) rfl rfl (some 80) rfl (.slice ga4 k1 gc4) W4 (app_run3 (x := .tmp 76) (y := .tmp 79) rfl (by kernel_rfl) (by kernel_rfl) hr4) (hK3.grown hg4 (Nat.le_trans (Nat.le_trans (Nat.le_trans (hle0) hg1.size) hg2.size) hg3.size) (fun b hb => (ho3.lt b hb).1)) (fun hHeld => ?_) rdyZ_nil
          simp only [Act.put, List.setIfInBounds_toArray, List.set_cons_succ, List.set_cons_zero]
          clear hr4
          have hK4 := hK3.grown hg4 (Nat.le_trans (Nat.le_trans (Nat.le_trans (hle0) hg1.size) hg2.size) hg3.size) (fun b hb => (ho3.lt b hb).1)
          refine wpAnyZ_ready (rs := [19]) (by kernel_rfl) (by simp) ?_
          obtain ⟨ga5, gc5, W5, hr5, ho5, hg5⟩ := appFl W4 n0 ga4 k1 gc4 (cellsR (R.take k) ++ [.string s, .slice none 0 0]) ho4 (Nat.le_trans (Nat.le_trans (Nat.le_trans (Nat.le_trans (hle0) hg1.size) hg2.size) hg3.size) hg4.size) a2 m2 c2 (cellsR (R.drop k)) (by omega) (HSrcB.out W4 hK4) n9 (by omega) (by omega)
          refine rdyZ_val (i := 19) rfl rfl (some 87) rfl (.slice ga5 n9 gc5) W5 (app_run3 (x := .tmp 80) (y := .tmp 86) rfl (by kernel_rfl) (by kernel_rfl) hr5) (hK4.grown hg5 (Nat.le_trans (Nat.le_trans (Nat.le_trans (Nat.le_trans (hle0) hg1.size) hg2.size) hg3.size) hg4.size) (fun b hb => (ho4.lt b hb).1)) (fun hHeld => ?_) rdyZ_nil
          simp only [Act.put, List.setIfInBounds_toArray, List.set_cons_succ, List.set_cons_zero]
          clear hr5
          have hK5 := hK4.grown hg5 (Nat.le_trans (Nat.le_trans (Nat.le_trans (Nat.le_trans (hle0) hg1.size) hg2.size) hg3.size) hg4.size) (fun b hb => (ho4.lt b hb).1)
          refine wpAnyZ_ready (rs := [20]) (by kernel_rfl) (by simp) ?_
          refine rdyZ_val (i := 20) rfl rfl (some 88) rfl (.pointer (some ⟨y, 0, none⟩)) W5 (by go_simp) hK5 (fun hHeld => ?_) rdyZ_nil
          simp only [Act.put, List.setIfInBounds_toArray, List.set_cons_succ, List.set_cons_zero]
          refine wpAnyZ_ready (rs := [21]) (by kernel_rfl) (by simp) ?_
          refine rdyZ_val (i := 21) rfl rfl (some 89) rfl (.pointer (some ⟨y, 1, none⟩)) W5 (by go_simp) hK5 (fun hHeld => ?_) rdyZ_nil
          simp only [Act.put, List.setIfInBounds_toArray, List.set_cons_succ, List.set_cons_zero]
          refine wpAnyZ_ready (rs := [22]) (by kernel_rfl) (by simp) ?_
          have hcf := (hK5.cell (p := ⟨y, 1, none⟩) ly0).trans c1
          have hfz := frozen_of_row _ _ 1 _ _ ((hK5.block y ly0).trans hyrow)
          refine rdyZ_last (z := 22) rfl rfl rfl (W5.setCell ⟨y, 1, none⟩ (.slice ga5 n9 gc5)) (by go_simp) ?_
          simp only [Act.put]
          refine wpAnyZ_done (by kernel_rfl) ?_ _
          refine NoPanic.normal ?_
          exact ⟨rfl, _, ⟨b2, ga3, gc3, b1, ga4, gc4, ga5, gc5, W5, rfl, rfl, hK5, ho5⟩, by kernel_rfl⟩
        · rintro l9 w9 ⟨b69, aA, cA, b79, aB, cB, aC, cC, W, rfl, hw9, hBW, hoW⟩
          obtain ⟨gB, rfl⟩ : ∃ gB, aC = some ⟨gB, 0, none⟩ := by
            rcases files_at hoW with ⟨_, h0, _⟩ | ⟨g, h0, _⟩
            · omega
            · exact ⟨g, h0⟩
          have h5 := H5.out
          have hle : w5.heap.size = n0 := HNE.out.symm
          have lgB := hoW.lt gB rfl
          have hyB : gB ≠ y := by omega
          have hyW : W.heap[y]? = some (.cells #[.int .i64 room, .slice fa R.length fc, .int .i64 (burnt fuse)] 52 (0, 0)) := (hBW.block y ly0).trans h5.disk
          obtain ⟨w6, hw6⟩ : ∃ w6, w6 = w9 := ⟨_, rfl⟩
          have hy6 : w6.heap[y]? = some (.cells #[.int .i64 room, .slice (some ⟨gB, 0, none⟩) n9 cC, .int .i64 (burnt fuse)] 52 (0, 0)) := by rw [hw6, hw9]; exact set3b hyW
          have hoth6 : ∀ b, b ≠ y → w6.heap[b]? = W.heap[b]? := fun b hb => by rw [hw6, hw9]; exact Below.heap_setCell W ⟨y, 1, none⟩ _ b hb
          have hs6 : w6.heap.size = W.heap.size := by rw [hw6, hw9]; simp [World.setCell]
          have ho6 : w6.ownsRow n0 55 2 (.slice (some ⟨gB, 0, none⟩) n9 cC) n9 (cellsR (R.take k) ++ [.string s, .slice none 0 0] ++ cellsR (R.drop k)) := own_other hoW (fun b hb => by cases hb; exact hoth6 gB hyB)
          have hx6 : w6.os = w5.os ∧ w6.tape = w5.tape ∧ w6.output = w5.output := by rw [hw6, hw9]; exact ⟨hBW.os, hBW.tape, hBW.output⟩
          have hlA := (HSrcA.out w5 (Below.refl _ _)).1
          have c6 : w6.cell? ⟨y, 1, none⟩ = some (.slice (some ⟨gB, 0, none⟩) n9 cC) := by rw [cell_of_row _ _ _ _ _ _ hy6]; rfl
          have cB6 : w6.cell? ⟨gB, k * 2 + 1, none⟩ = some (.slice none 0 0) := by
            have h1 := ho6.cells (g := gB) rfl (k * 2 + 1) (.slice none 0 0) (by
              rw [List.append_assoc, List.getElem?_append_right (by omega), show k * 2 + 1 - (cellsR (R.take k)).length = 1 from by omega]
              rfl)
            rw [add_none, Nat.zero_add] at h1
            exact h1
          obtain ⟨n1, hn1⟩ : ∃ n1, n1 = w6.heap.size := ⟨_, rfl⟩
          have HNE1 := hidn hn1
          have lB1 : gB < n1 := by rw [hn1, hs6]; exact lgB.2
          have hn01 : n0 ≤ n1 := by rw [hn1, hs6]; have := hBW.size; omega
          have ly1' : y < n1 := by omega
          have ly1 : y < w6.heap.size := by omega
          have nyB : ¬ (fun b => b = gB) y := fun e => hyB e.symm
          obtain ⟨Bcur, hBrow⟩ := own_ty ho6 (g := gB) rfl
          have hkn9 : (k : Int) < (n9 : Int) := by omega
          have ei0 : ((i : Int) == 0) = true := by rw [HI0.out]; rfl
          have ein : decide (i = 0) = true := by simpa using HI0.out
          have HKept : Hid (∀ b, b < n0 → b ≠ y → w6.heap[b]? = w5.heap[b]?) := hidn (fun b hb hne => (hoth6 b hne).trans (hBW.block b hb))
          have HO6 := hidn (And.intro ho6 (And.intro hy6 (And.intro hx6 hlA)))
          have HN01 := hidn hn01
          rw [← hw6]
          clear hw6 hw9 hoW hBW hyW hy6 hoth6 hs6 ho6 hx6 hlA h5 hle hn1 lgB hn01 c1 hyrow HSrcA HSrcB HA2 HM2 HC2 hm2 hn9 hk1
          simp only [putAll, List.foldl, Act.put, List.setIfInBounds_toArray, List.set_cons_succ, List.set_cons_zero]
          go_wp2_with fail
          refine region_cut (fun l w' => ∃ (mA mB b117 g2 c2' : Nat) (W : World), l = [(101, .pointer (some ⟨y, 0, none⟩)), (102, .pointer (some ⟨y, 0, none⟩)), (103, .pointer (some ⟨y, 1, none⟩)), (104, .slice (some ⟨gB, 0, none⟩) n9 cC), (105, .int .i64 (k : Int)), (106, .pointer (some ⟨y, 0, none⟩)), (107, .pointer (some ⟨y, 0, none⟩)), (108, .pointer (some ⟨y, 1, none⟩)), (109, .slice (some ⟨gB, 0, none⟩) n9 cC), (110, .int .i64 (k : Int)), (111, .pointer (some ⟨gB, k * 2, none⟩)), (112, .pointer (some ⟨gB, k * 2 + 1, none⟩)), (113, .slice none 0 0), (114, .slice (some ⟨mA, 0, none⟩) 128 128), (115, .slice (some ⟨mB, 0, none⟩) 128 128), (116, .agg #[.slice none 0 0, .slice (some ⟨mA, 0, none⟩) 128 128, .slice (some ⟨mB, 0, none⟩) 128 128, .slice none 0 0, .bool false]), (117, .slice (some ⟨b117, 0, none⟩) 1 1), (118, .slice (some ⟨g2, 0, none⟩) 1 c2'), (119, .pointer (some ⟨gB, k * 2, none⟩)), (120, .pointer (some ⟨gB, k * 2 + 1, none⟩))] ∧ w' = W.setCell ⟨gB, k * 2 + 1, none⟩ (.slice (some ⟨g2, 0, none⟩) 1 c2') ∧ Below n1 w6 W ∧ W.ownsRow n1 57 5 (.slice (some ⟨g2, 0, none⟩) 1 c2') 1 [.slice none 0 0, .slice (some ⟨mA, 0, none⟩) 128 128, .slice (some ⟨mB, 0, none⟩) 128 128, .slice none 0 0, .bool false] ∧ Im W (mA, 128) zeroY128 ∧ Im W (mB, 128) zeroY128 ∧ n1 ≤ mA ∧ n1 ≤ mB) ?_ ?_
          · skip
            refine wp_region_noPanic ?_
            refine wp_region_heldZ (S := Below n1 w6) 20 (by kernel_rfl) ((Below.refl n1 w6).drew) (fun hHeld => ?_)
            obtain ⟨Wd, hWd⟩ : ∃ Wd, Wd = w6.drew := ⟨_, rfl⟩
            have hle1 : n1 ≤ Wd.heap.size := by rw [hWd]; exact Nat.le_of_eq HNE1.out
            have hK1 : Below n1 w6 Wd := by rw [hWd]; exact (Below.refl n1 w6).drew
            rw [← hWd] at hHeld ⊢
            clear hWd
            refine drawnZ_take (i := 0) (v := .pointer (some ⟨y, 0, none⟩)) (some 101) rfl (by kernel_rfl) rfl (by kernel_rfl) (by kernel_rfl) (by kernel_rfl) (fun _ _ _ h => h) (Or.inl ⟨by kernel_rfl, fun wq hw => by go_simp⟩) hHeld ?_
            simp only [Act.put, List.setIfInBounds_toArray, List.set_cons_succ, List.set_cons_zero]
            refine drawnZ_take (i := 1) (v := .pointer (some ⟨y, 0, none⟩)) (some 102) rfl (by kernel_rfl) rfl (by kernel_rfl) (by kernel_rfl) (by kernel_rfl) (fun _ _ _ h => h) (Or.inl ⟨by kernel_rfl, fun wq hw => by go_simp⟩) hHeld ?_
            simp only [Act.put, List.setIfInBounds_toArray, List.set_cons_succ, List.set_cons_zero]
            refine drawnZ_take (i := 2) (v := .pointer (some ⟨y, 1, none⟩)) (some 103) rfl (by kernel_rfl) rfl (by kernel_rfl) (by kernel_rfl) (by kernel_rfl) (fun _ _ _ h => h) (Or.inl ⟨by kernel_rfl, fun wq hw => by go_simp⟩) hHeld ?_
            simp only [Act.put, List.setIfInBounds_toArray, List.set_cons_succ, List.set_cons_zero]
            refine drawnZ_take (i := 3) (v := .slice (some ⟨gB, 0, none⟩) n9 cC) (some 104) rfl (by kernel_rfl) rfl (by kernel_rfl) (by kernel_rfl) (by kernel_rfl) (fun _ _ _ h => h) (Or.inl ⟨by kernel_rfl, fun wq hw => by have q := (hw.cell (p := ⟨y, 1, none⟩) ly1').trans c6; go_simp⟩) hHeld ?_
            simp only [Act.put, List.setIfInBounds_toArray, List.set_cons_succ, List.set_cons_zero]
            refine drawnZ_take (i := 4) (v := .int .i64 (k : Int)) (some 105) rfl (by kernel_rfl) rfl (by kernel_rfl) (by kernel_rfl) (by kernel_rfl) (fun _ _ _ h => h) (Or.inl ⟨by kernel_rfl, fun wq hw => by go_simp⟩) hHeld ?_
            simp only [Act.put, List.setIfInBounds_toArray, List.set_cons_succ, List.set_cons_zero]
            refine drawnZ_take (i := 5) (v := .pointer (some ⟨y, 0, none⟩)) (some 106) rfl (by kernel_rfl) rfl (by kernel_rfl) (by kernel_rfl) (by kernel_rfl) (fun _ _ _ h => h) (Or.inl ⟨by kernel_rfl, fun wq hw => by go_simp⟩) hHeld ?_
            simp only [Act.put, List.setIfInBounds_toArray, List.set_cons_succ, List.set_cons_zero]
            refine drawnZ_take (i := 6) (v := .pointer (some ⟨y, 0, none⟩)) (some 107) rfl (by kernel_rfl) rfl (by kernel_rfl) (by kernel_rfl) (by kernel_rfl) (fun _ _ _ h => h) (Or.inl ⟨by kernel_rfl, fun wq hw => by go_simp⟩) hHeld ?_
            simp only [Act.put, List.setIfInBounds_toArray, List.set_cons_succ, List.set_cons_zero]
            refine drawnZ_take (i := 7) (v := .pointer (some ⟨y, 1, none⟩)) (some 108) rfl (by kernel_rfl) rfl (by kernel_rfl) (by kernel_rfl) (by kernel_rfl) (fun _ _ _ h => h) (Or.inl ⟨by kernel_rfl, fun wq hw => by go_simp⟩) hHeld ?_
            simp only [Act.put, List.setIfInBounds_toArray, List.set_cons_succ, List.set_cons_zero]
            refine drawnZ_take (i := 8) (v := .slice (some ⟨gB, 0, none⟩) n9 cC) (some 109) rfl (by kernel_rfl) rfl (by kernel_rfl) (by kernel_rfl) (by kernel_rfl) (fun _ _ _ h => h) (Or.inl ⟨by kernel_rfl, fun wq hw => by have q := (hw.cell (p := ⟨y, 1, none⟩) ly1').trans c6; go_simp⟩) hHeld ?_
            simp only [Act.put, List.setIfInBounds_toArray, List.set_cons_succ, List.set_cons_zero]
            refine drawnZ_take (i := 9) (v := .int .i64 (k : Int)) (some 110) rfl (by kernel_rfl) rfl (by kernel_rfl) (by kernel_rfl) (by kernel_rfl) (fun _ _ _ h => h) (Or.inl ⟨by kernel_rfl, fun wq hw => by go_simp⟩) hHeld ?_
            simp only [Act.put, List.setIfInBounds_toArray, List.set_cons_succ, List.set_cons_zero]
            refine drawnZ_take (i := 10) (v := .pointer (some ⟨gB, k * 2, none⟩)) (some 111) rfl (by kernel_rfl) rfl (by kernel_rfl) (by kernel_rfl) (by kernel_rfl) (fun _ _ _ h => h) (Or.inl ⟨by kernel_rfl, fun wq hw => by go_simp⟩) hHeld ?_
            simp only [Act.put, List.setIfInBounds_toArray, List.set_cons_succ, List.set_cons_zero]
            refine drawnZ_take (i := 11) (v := .pointer (some ⟨gB, k * 2 + 1, none⟩)) (some 112) rfl (by kernel_rfl) rfl (by kernel_rfl) (by kernel_rfl) (by kernel_rfl) (fun _ _ _ h => h) (Or.inl ⟨by kernel_rfl, fun wq hw => by go_simp⟩) hHeld ?_
            simp only [Act.put, List.setIfInBounds_toArray, List.set_cons_succ, List.set_cons_zero]
            refine drawnZ_take (i := 12) (v := .slice none 0 0) (some 113) rfl (by kernel_rfl) rfl (by kernel_rfl) (by kernel_rfl) (by kernel_rfl) (fun _ _ _ h => h) (Or.inl ⟨by kernel_rfl, fun wq hw => by have q := (hw.cell (p := ⟨gB, k * 2 + 1, none⟩) lB1).trans cB6; go_simp⟩) hHeld ?_
            simp only [Act.put, List.setIfInBounds_toArray, List.set_cons_succ, List.set_cons_zero]
            refine wpAnyZ_ready (rs := [13, 14]) (by kernel_rfl) (by simp) ?_
            refine rdyZ_val (i := 13) rfl rfl (some 114) rfl (.slice (some ⟨Wd.heap.size, 0, none⟩) 128 128) (Wd.alloc (.cells (Array.replicate 128 (.int .u8 0)) 5)) (mkm_run rfl) (hK1.alloc (hle1) _) (fun hHeld => ?_) ?_
            · simp only [Act.put, List.setIfInBounds_toArray, List.set_cons_succ, List.set_cons_zero]
              have hi1 := im_make Wd
              have hK1 := hK1.alloc (hle1) (.cells (Array.replicate 128 (.int .u8 0)) 5)
              have hg1 : Wd.grownBy (Wd.alloc (.cells (Array.replicate 128 (.int .u8 0)) 5)) none := grown_alloc Wd _
              obtain ⟨m1, hm1⟩ : ∃ b, b = Wd.heap.size := ⟨_, rfl⟩
              obtain ⟨W1, hW1⟩ : ∃ W', W' = Wd.alloc (.cells (Array.replicate 128 (.int .u8 0)) 5) := ⟨_, rfl⟩
              rw [← hW1] at hHeld hg1 hK1
              rw [← hm1, ← hW1] at hi1
              rw [← hm1, ← hW1]
              have hn1 : n1 ≤ m1 := by rw [hm1]; exact hle1
              clear hW1
              refine wpAnyZ_ready (rs := [14]) (by kernel_rfl) (by simp) ?_
              refine rdyZ_val (i := 14) rfl rfl (some 115) rfl (.slice (some ⟨W1.heap.size, 0, none⟩) 128 128) (W1.alloc (.cells (Array.replicate 128 (.int .u8 0)) 5)) (mkm_run rfl) (hK1.alloc (Nat.le_trans (hle1) hg1.size) _) (fun hHeld => ?_) rdyZ_nil
              simp only [Act.put, List.setIfInBounds_toArray, List.set_cons_succ, List.set_cons_zero]
              have hi2 := im_make W1
              have hK2 := hK1.alloc (Nat.le_trans (hle1) hg1.size) (.cells (Array.replicate 128 (.int .u8 0)) 5)
              have hg2 : W1.grownBy (W1.alloc (.cells (Array.replicate 128 (.int .u8 0)) 5)) none := grown_alloc W1 _
              obtain ⟨m2, hm2⟩ : ∃ b, b = W1.heap.size := ⟨_, rfl⟩
              obtain ⟨W2, hW2⟩ : ∃ W', W' = W1.alloc (.cells (Array.replicate 128 (.int .u8 0)) 5) := ⟨_, rfl⟩
              rw [← hW2] at hHeld hg2 hK2
              rw [← hm2, ← hW2] at hi2
              rw [← hm2, ← hW2]
              have hn2 : n1 ≤ m2 := by rw [hm2]; exact Nat.le_trans (hle1) hg1.size
              clear hW2
              have hi1_2 := im_grown hi1 hg2 (fun e => by cases e)
              refine drawnZ_take (i := 15) (v := .agg #[.slice none 0 0, .slice (some ⟨m1, 0, none⟩) 128 128, .slice (some ⟨m2, 0, none⟩) 128 128, .slice none 0 0, .bool false]) (some 116) rfl (by kernel_rfl) rfl (by kernel_rfl) (by kernel_rfl) (by kernel_rfl) (fun _ _ _ h => h) (Or.inl ⟨by kernel_rfl, fun wq hw => by go_simp⟩) hHeld ?_
              simp only [Act.put, List.setIfInBounds_toArray, List.set_cons_succ, List.set_cons_zero]
              refine wpAnyZ_ready (rs := [16]) (by kernel_rfl) (by simp) ?_
              refine rdyZ_val (i := 16) rfl rfl (some 117) rfl (.slice (some ⟨W2.heap.size, 0, none⟩) 1 1) (W2.alloc (.cells #[.slice none 0 0, .slice (some ⟨m1, 0, none⟩) 128 128, .slice (some ⟨m2, 0, none⟩) 128 128, .slice none 0 0, .bool false] 57)) (bs1_run (x := .tmp 116) rfl (by kernel_rfl)) (hK2.alloc (Nat.le_trans (Nat.le_trans (hle1) hg1.size) hg2.size) _) (fun hHeld => ?_) rdyZ_nil
              simp only [Act.put, List.setIfInBounds_toArray, List.set_cons_succ, List.set_cons_zero]
              have he3 := heap_alloc_new W2 (.cells #[.slice none 0 0, .slice (some ⟨m1, 0, none⟩) 128 128, .slice (some ⟨m2, 0, none⟩) 128 128, .slice none 0 0, .bool false] 57)
              have hK3 := hK2.alloc (Nat.le_trans (Nat.le_trans (hle1) hg1.size) hg2.size) (.cells #[.slice none 0 0, .slice (some ⟨m1, 0, none⟩) 128 128, .slice (some ⟨m2, 0, none⟩) 128 128, .slice none 0 0, .bool false] 57)
              have hg3 : W2.grownBy (W2.alloc (.cells #[.slice none 0 0, .slice (some ⟨m1, 0, none⟩) 128 128, .slice (some ⟨m2, 0, none⟩) 128 128, .slice none 0 0, .bool false] 57)) none := grown_alloc W2 _
              obtain ⟨b3, hb3⟩ : ∃ b, b = W2.heap.size := ⟨_, rfl⟩
              obtain ⟨W3, hW3⟩ : ∃ W', W' = W2.alloc (.cells #[.slice none 0 0, .slice (some ⟨m1, 0, none⟩) 128 128, .slice (some ⟨m2, 0, none⟩) 128 128, .slice none 0 0, .bool false] 57) := ⟨_, rfl⟩
              rw [← hW3] at hHeld hg3 hK3
              rw [← hb3, ← hW3] at he3
              rw [← hb3, ← hW3]
              clear hW3
              have hi1_2_3 := im_grown hi1_2 hg3 (fun e => by cases e)
              have hi2_3 := im_grown hi2 hg3 (fun e => by cases e)
              refine wpAnyZ_ready (rs := [17]) (by kernel_rfl) (by simp) ?_
              obtain ⟨g24, c24, W4, hr4, ho4, hg4⟩ := appC0 W3 n1 (Nat.le_trans (Nat.le_trans (Nat.le_trans (hle1) hg1.size) hg2.size) hg3.size) b3 (.slice none 0 0) (.slice (some ⟨m1, 0, none⟩) 128 128) (.slice (some ⟨m2, 0, none⟩) 128 128) (.slice none 0 0) (.bool false) rfl rfl rfl rfl rfl he3
              refine rdyZ_val (i := 17) rfl rfl (some 118) rfl (.slice (some ⟨g24, 0, none⟩) 1 c24) W4 (app_run3 (x := .tmp 113) (y := .tmp 117) rfl (by kernel_rfl) (by kernel_rfl) hr4) (hK3.grown hg4 (Nat.le_trans (Nat.le_trans (Nat.le_trans (hle1) hg1.size) hg2.size) hg3.size) (fun b hb => by cases hb)) (fun hHeld => ?_) rdyZ_nil
              simp only [Act.put, List.setIfInBounds_toArray, List.set_cons_succ, List.set_cons_zero]
              have hK4 := hK3.grown hg4 (Nat.le_trans (Nat.le_trans (Nat.le_trans (hle1) hg1.size) hg2.size) hg3.size) (fun b hb => by cases hb)
              clear hr4
              have hi1_2_3_4 := im_grown hi1_2_3 hg4 (fun e => by cases e)
              have hi2_3_4 := im_grown hi2_3 hg4 (fun e => by cases e)
              have he3_4 := (hg4.block b3 (Array.getElem?_eq_some_iff.1 he3).1 (by simp)).trans he3
              refine wpAnyZ_ready (rs := [18]) (by kernel_rfl) (by simp) ?_
              refine rdyZ_val (i := 18) rfl rfl (some 119) rfl (.pointer (some ⟨gB, k * 2, none⟩)) W4 (by go_simp) hK4 (fun hHeld => ?_) rdyZ_nil
              simp only [Act.put, List.setIfInBounds_toArray, List.set_cons_succ, List.set_cons_zero]
              refine wpAnyZ_ready (rs := [19]) (by kernel_rfl) (by simp) ?_
              refine rdyZ_val (i := 19) rfl rfl (some 120) rfl (.pointer (some ⟨gB, k * 2 + 1, none⟩)) W4 (by go_simp) hK4 (fun hHeld => ?_) rdyZ_nil
              simp only [Act.put, List.setIfInBounds_toArray, List.set_cons_succ, List.set_cons_zero]
              refine wpAnyZ_ready (rs := [20]) (by kernel_rfl) (by simp) ?_
              have hcf := (hK4.cell (p := ⟨gB, k * 2 + 1, none⟩) lB1).trans cB6
              have hfz := frozen_of_row _ _ (k * 2 + 1) _ _ ((hK4.block gB lB1).trans hBrow)
              refine rdyZ_last (z := 20) rfl rfl rfl (W4.setCell ⟨gB, k * 2 + 1, none⟩ (.slice (some ⟨g24, 0, none⟩) 1 c24)) (by go_simp) ?_
              simp only [Act.put]
              refine wpAnyZ_done (by kernel_rfl) ?_ _
              refine NoPanic.normal ?_
              exact ⟨rfl, _, ⟨m1, m2, b3, g24, c24, W4, rfl, rfl, hK4, ho4, hi1_2_3_4, hi2_3_4, hn1, hn2⟩, by kernel_rfl⟩
            refine rdyZ_val (i := 14) rfl rfl (some 115) rfl (.slice (some ⟨Wd.heap.size, 0, none⟩) 128 128) (Wd.alloc (.cells (Array.replicate 128 (.int .u8 0)) 5)) (mkm_run rfl) (hK1.alloc (hle1) _) (fun hHeld => ?_) rdyZ_nil
            simp only [Act.put, List.setIfInBounds_toArray, List.set_cons_succ, List.set_cons_zero]
            have hi1 := im_make Wd
            have hK1 := hK1.alloc (hle1) (.cells (Array.replicate 128 (.int .u8 0)) 5)
            have hg1 : Wd.grownBy (Wd.alloc (.cells (Array.replicate 128 (.int .u8 0)) 5)) none := grown_alloc Wd _
            obtain ⟨m1, hm1⟩ : ∃ b, b = Wd.heap.size := ⟨_, rfl⟩
            obtain ⟨W1, hW1⟩ : ∃ W', W' = Wd.alloc (.cells (Array.replicate 128 (.int .u8 0)) 5) := ⟨_, rfl⟩
            rw [← hW1] at hHeld hg1 hK1
            rw [← hm1, ← hW1] at hi1
            rw [← hm1, ← hW1]
            have hn1 : n1 ≤ m1 := by rw [hm1]; exact hle1
            clear hW1
            refine wpAnyZ_ready (rs := [13]) (by kernel_rfl) (by simp) ?_
            refine rdyZ_val (i := 13) rfl rfl (some 114) rfl (.slice (some ⟨W1.heap.size, 0, none⟩) 128 128) (W1.alloc (.cells (Array.replicate 128 (.int .u8 0)) 5)) (mkm_run rfl) (hK1.alloc (Nat.le_trans (hle1) hg1.size) _) (fun hHeld => ?_) rdyZ_nil
            simp only [Act.put, List.setIfInBounds_toArray, List.set_cons_succ, List.set_cons_zero]
            have hi2 := im_make W1
            have hK2 := hK1.alloc (Nat.le_trans (hle1) hg1.size) (.cells (Array.replicate 128 (.int .u8 0)) 5)
            have hg2 : W1.grownBy (W1.alloc (.cells (Array.replicate 128 (.int .u8 0)) 5)) none := grown_alloc W1 _
            obtain ⟨m2, hm2⟩ : ∃ b, b = W1.heap.size := ⟨_, rfl⟩
            obtain ⟨W2, hW2⟩ : ∃ W', W' = W1.alloc (.cells (Array.replicate 128 (.int .u8 0)) 5) := ⟨_, rfl⟩
            rw [← hW2] at hHeld hg2 hK2
            rw [← hm2, ← hW2] at hi2
            rw [← hm2, ← hW2]
            have hn2 : n1 ≤ m2 := by rw [hm2]; exact Nat.le_trans (hle1) hg1.size
            clear hW2
            have hi1_2 := im_grown hi1 hg2 (fun e => by cases e)
            refine drawnZ_take (i := 15) (v := .agg #[.slice none 0 0, .slice (some ⟨m2, 0, none⟩) 128 128, .slice (some ⟨m1, 0, none⟩) 128 128, .slice none 0 0, .bool false]) (some 116) rfl (by kernel_rfl) rfl (by kernel_rfl) (by kernel_rfl) (by kernel_rfl) (fun _ _ _ h => h) (Or.inl ⟨by kernel_rfl, fun wq hw => by go_simp⟩) hHeld ?_
            simp only [Act.put, List.setIfInBounds_toArray, List.set_cons_succ, List.set_cons_zero]
            refine wpAnyZ_ready (rs := [16]) (by kernel_rfl) (by simp) ?_
            refine rdyZ_val (i := 16) rfl rfl (some 117) rfl (.slice (some ⟨W2.heap.size, 0, none⟩) 1 1) (W2.alloc (.cells #[.slice none 0 0, .slice (some ⟨m2, 0, none⟩) 128 128, .slice (some ⟨m1, 0, none⟩) 128 128, .slice none 0 0, .bool false] 57)) (bs1_run (x := .tmp 116) rfl (by kernel_rfl)) (hK2.alloc (Nat.le_trans (Nat.le_trans (hle1) hg1.size) hg2.size) _) (fun hHeld => ?_) rdyZ_nil
            simp only [Act.put, List.setIfInBounds_toArray, List.set_cons_succ, List.set_cons_zero]
            have he3 := heap_alloc_new W2 (.cells #[.slice none 0 0, .slice (some ⟨m2, 0, none⟩) 128 128, .slice (some ⟨m1, 0, none⟩) 128 128, .slice none 0 0, .bool false] 57)
            have hK3 := hK2.alloc (Nat.le_trans (Nat.le_trans (hle1) hg1.size) hg2.size) (.cells #[.slice none 0 0, .slice (some ⟨m2, 0, none⟩) 128 128, .slice (some ⟨m1, 0, none⟩) 128 128, .slice none 0 0, .bool false] 57)
            have hg3 : W2.grownBy (W2.alloc (.cells #[.slice none 0 0, .slice (some ⟨m2, 0, none⟩) 128 128, .slice (some ⟨m1, 0, none⟩) 128 128, .slice none 0 0, .bool false] 57)) none := grown_alloc W2 _
            obtain ⟨b3, hb3⟩ : ∃ b, b = W2.heap.size := ⟨_, rfl⟩
            obtain ⟨W3, hW3⟩ : ∃ W', W' = W2.alloc (.cells #[.slice none 0 0, .slice (some ⟨m2, 0, none⟩) 128 128, .slice (some ⟨m1, 0, none⟩) 128 128, .slice none 0 0, .bool false] 57) := ⟨_, rfl⟩
            rw [← hW3] at hHeld hg3 hK3
            rw [← hb3, ← hW3] at he3
            rw [← hb3, ← hW3]
            clear hW3
            have hi1_2_3 := im_grown hi1_2 hg3 (fun e => by cases e)
            have hi2_3 := im_grown hi2 hg3 (fun e => by cases e)
            refine wpAnyZ_ready (rs := [17]) (by kernel_rfl) (by simp) ?_
            obtain ⟨g24, c24, W4, hr4, ho4, hg4⟩ := appC0 W3 n1 (Nat.le_trans (Nat.le_trans (Nat.le_trans (hle1) hg1.size) hg2.size) hg3.size) b3 (.slice none 0 0) (.slice (some ⟨m2, 0, none⟩) 128 128) (.slice (some ⟨m1, 0, none⟩) 128 128) (.slice none 0 0) (.bool false) rfl rfl rfl rfl rfl he3
            refine rdyZ_val (i := 17) rfl rfl (some 118) rfl (.slice (some ⟨g24, 0, none⟩) 1 c24) W4 (app_run3 (x := .tmp 113) (y := .tmp 117) rfl (by kernel_rfl) (by kernel_rfl) hr4) (hK3.grown hg4 (Nat.le_trans (Nat.le_trans (Nat.le_trans (hle1) hg1.size) hg2.size) hg3.size) (fun b hb => by cases hb)) (fun hHeld => ?_) rdyZ_nil
            simp only [Act.put, List.setIfInBounds_toArray, List.set_cons_succ, List.set_cons_zero]
            have hK4 := hK3.grown hg4 (Nat.le_trans (Nat.le_trans (Nat.le_trans (hle1) hg1.size) hg2.size) hg3.size) (fun b hb => by cases hb)
            clear hr4
            have hi1_2_3_4 := im_grown hi1_2_3 hg4 (fun e => by cases e)
            have hi2_3_4 := im_grown hi2_3 hg4 (fun e => by cases e)
            have he3_4 := (hg4.block b3 (Array.getElem?_eq_some_iff.1 he3).1 (by simp)).trans he3
            refine wpAnyZ_ready (rs := [18]) (by kernel_rfl) (by simp) ?_
            refine rdyZ_val (i := 18) rfl rfl (some 119) rfl (.pointer (some ⟨gB, k * 2, none⟩)) W4 (by go_simp) hK4 (fun hHeld => ?_) rdyZ_nil
            simp only [Act.put, List.setIfInBounds_toArray, List.set_cons_succ, List.set_cons_zero]
            refine wpAnyZ_ready (rs := [19]) (by kernel_rfl) (by simp) ?_
            refine rdyZ_val (i := 19) rfl rfl (some 120) rfl (.pointer (some ⟨gB, k * 2 + 1, none⟩)) W4 (by go_simp) hK4 (fun hHeld => ?_) rdyZ_nil
            simp only [Act.put, List.setIfInBounds_toArray, List.set_cons_succ, List.set_cons_zero]
            refine wpAnyZ_ready (rs := [20]) (by kernel_rfl) (by simp) ?_
            have hcf := (hK4.cell (p := ⟨gB, k * 2 + 1, none⟩) lB1).trans cB6
            have hfz := frozen_of_row _ _ (k * 2 + 1) _ _ ((hK4.block gB lB1).trans hBrow)
            refine rdyZ_last (z := 20) rfl rfl rfl (W4.setCell ⟨gB, k * 2 + 1, none⟩ (.slice (some ⟨g24, 0, none⟩) 1 c24)) (by go_simp) ?_
            simp only [Act.put]
            refine wpAnyZ_done (by kernel_rfl) ?_ _
            refine NoPanic.normal ?_
            exact ⟨rfl, _, ⟨m2, m1, b3, g24, c24, W4, rfl, rfl, hK4, ho4, hi2_3_4, hi1_2_3_4, hn2, hn1⟩, by kernel_rfl⟩
          · rintro l8 w8 ⟨mA, mB, b117, g2, c2', W8, rfl, hw8, hBW8, hrow8, hiA, hiB, hnA, hnB⟩
            obtain ⟨ho6, hy6, hx6, hlA⟩ := HO6.out
            have hle1 : w6.heap.size = n1 := HNE1.out.symm
            have hn01 := HN01.out
            obtain ⟨Wz, hWz⟩ : ∃ Wz, Wz = w8 := ⟨_, rfl⟩
            have lg2 := hrow8.lt g2 rfl
            have hothz : ∀ b, b ≠ gB → Wz.heap[b]? = W8.heap[b]? := fun b hb => by rw [hWz, hw8]; exact Below.heap_setCell W8 ⟨gB, k * 2 + 1, none⟩ _ b hb
            have hsz : Wz.heap.size = W8.heap.size := by rw [hWz, hw8]; simp [World.setCell]
            have hxz : Wz.os = w5.os ∧ Wz.tape = w5.tape ∧ Wz.output = w5.output := by rw [hWz, hw8]; exact ⟨hBW8.os.trans hx6.1, hBW8.tape.trans hx6.2.1, hBW8.output.trans hx6.2.2⟩
            have ho8 := own_other ho6 (w' := W8) (fun b hb => by cases hb; exact hBW8.block gB lB1)
            have hoz := own_putY ho8 (k * 2 + 1) (.slice (some ⟨g2, 0, none⟩) 1 c2')
            rw [← hw8, ← hWz, set_mid hlA] at hoz
            have hs8 := hBW8.size
            have hneB : ∀ {q : Nat × Nat} {z : List Nat}, Im W8 q z → q.1 ≠ gB := fun hq => Ne.symm (own_ne2 ho8 hq (g := gB) rfl rfl tyDF.2.2.2.2.1)
            have lgB := (ho6.lt gB rfl).1
            have hrowz : Wz.ownsRow n0 57 5 (.slice (some ⟨g2, 0, none⟩) 1 c2') 1 (EMPC mA mB) := by
              have h1 := own_other hrow8 (w' := Wz) (fun b hb => by cases hb; exact hothz g2 (by omega))
              rcases h1.2 with h2 | ⟨g', cap, cur, hv, hbase, r⟩
              · exact ⟨h1.1, .inl h2⟩
              · exact ⟨h1.1, .inr ⟨g', cap, cur, hv, Nat.le_trans hn01 hbase, r⟩⟩
            have hNI : NewI w5 y n0 R room (burnt fuse) s k gB cC g2 c2' mA mB Wz := ⟨hxz.1, hxz.2.1, hxz.2.2, by omega, fun b hb hne => (hothz b (by omega)).trans ((hBW8.block b (by omega)).trans (HKept.out b hb hne)), (hothz y (Ne.symm hyB)).trans ((hBW8.block y ly1').trans (by rw [← HNN.out, ← HN9.out]; exact hy6)), by rw [← HNN.out, ← HN9.out]; exact hoz, hrowz, own_other hiA (fun b hb => by cases hb; exact hothz mA (hneB hiA)), own_other hiB (fun b hb => by cases hb; exact hothz mB (hneB hiB)), Nat.le_trans hn01 hnA, Nat.le_trans hn01 hnB⟩
            obtain ⟨p1, X2, p2, X4, hr1', hr2', z1, z2, k0, k3, k4, ⟨cur, hcur⟩, F', c', hFin, hcx, hGr⟩ := new_end2i w5 y F fa fc R room (burnt fuse) H5.out HL5.out k (by rw [← HNN.out]; exact hkN) s HS24.out zs ba boff cap (HBz.out.gr HG5.out) n0 HNE.out gB cC g2 c2' mA mB Wz hNI i n9 HI0.out (by rw [← HNN.out]; exact HN9.out)
            have HR1 := hidn hr1'
            have HR2 := hidn hr2'
            have fz0 := frozen_of_row _ _ (i * 5) _ _ hcur
            have fz3 := frozen_of_row _ _ (i * 5 + 3) _ _ hcur
            have fz4 := frozen_of_row _ _ (i * 5 + 4) _ _ hcur
            have HFin := hidn (And.intro hFin (And.intro hcx hGr))
            have ei1 : (i : Int) < 1 := by rw [HI0.out]; decide
            rw [← hWz]
            clear ho6 hy6 hx6 hlA hle1 hn01 hWz hw8 hBW8 hrow8 hiA hiB hnA hnB lg2 hothz hsz hxz ho8 hoz hs8 hneB lgB hrowz hNI hr1' hr2' hcur hFin hcx hGr c6 cB6
            simp only [putAll, List.foldl, Act.put, List.setIfInBounds_toArray, List.set_cons_succ, List.set_cons_zero]
            go_wp2_with (at_builtin; first | (refine wpList_app_run2 rfl _ _ 29 29 rfl rfl (.slice (some ⟨Wz.heap.size, 0, none⟩) 0 0) _ _ rfl rfl HR1.out ?_) | (refine wpList_app_run2 rfl _ _ 29 29 rfl rfl (.slice (some ⟨X2.heap.size, 0, none⟩) 0 0) _ _ rfl rfl HR2.out ?_))
            go_ret
            exact ⟨rfl, _, _, _, _, HFin.out.1, ⟨k, c', g2, c2', HIns.out, HFin.out.2.1, rfl⟩, HG5.out.trans HFin.out.2.2⟩
end Go.Proofs.Ytocfbokgbpaneaa
