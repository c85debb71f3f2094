/- wal.Append. -/
import Derived.Test.YthhnpajaacfapaaDoorWaA
import Derived.Test.YthhnpajaacfapaaDoorWaB
import Derived.Test.YthhnpajaacfapaaDoorMj
namespace Go.Proofs.YthhnpajaacfapaaDoor
open Go.RowKit Go.Maps
set_option linter.unusedVariables false

/-- A record as it is written. -/
def recB (zs : List Nat) : List Nat := putB zs.length 4 ++ zs

def appD (st : St) (s : ByteArray) (at' g : Nat) (ps : List (List Nat)) : St × Int :=
  if (halfD st (fileA s) at' g ps).2 = 0 then halfD (halfD st (fileA s) at' g ps).1 (fileB s) at' g ps else halfD st (fileA s) at' g ps

def AppPost (w : World) (d : Nat) (F : Nat → Prop) (N E : Nat) (r : St × Int) (e : Ending) (w' : World) : Prop :=
  e = .returned (.tuple #[.int .i64 (if r.2 = 0 then (E : Int) else 0), .int .i64 r.2]) ∧ ∃ F', DiskS w' d F' N r.1 ∧ Gr F F' w w'

theorem recB_length (zs : List Nat) : (recB zs).length = zs.length + 4 := by unfold recB; rw [List.length_append, putB_length]; omega

theorem recB_parts (zs : List Nat) : (partsB (recB zs)).length = (zs.length + 3) / 106 + 1 := by rw [partsB_length, recB_length]; omega

theorem recB_mem {zs : List Nat} (h : ∀ x ∈ zs, x < 256) : ∀ x ∈ recB zs, x < 256 := by
  intro x hx
  unfold recB at hx
  rcases List.mem_append.1 hx with hx | hx
  · exact putB_lt _ _ x hx
  · exact h x hx

theorem StOK.half {st : St} {k : Nat} (h : StOK st k) (s : ByteArray) (at' g : Nat) (ps : List (List Nat)) : StOK (halfD st s at' g ps).1 (k + ps.length) := by
  unfold halfD
  split
  · exact (h.all s at' g ps).sy _
  · exact h.all s at' g ps

set_option maxRecDepth 100000 in
set_option maxHeartbeats 4000000 in
theorem append_any (w : World) (d : Nat) (F : Nat → Prop) (N : Nat) (st : St) (h : DiskS w d F N st) (hS : Sound5 w F) (K : Nat) (hok : StOK st K) (hM0 : st.M [] = []) (sN : ByteArray) (hsz : sN.size ≤ 1000) (hnA : nameB (fileA sN).data.toList = true) (hnB : nameB (fileB sN).data.toList = true)
    (seg : Int) (hs0 : 0 ≤ seg) (hs1 : seg ≤ 4611686018427387904) (hName : ∀ wx, Below w.heap.size w wx → Calls Tryd.prog 19 #[.int .i64 seg] wx fun e w' => e = .returned (.string sN) ∧ Below wx.heap.size wx w')
    (at' g : Nat) (hg : g ≤ 4611686018427387904) (a : Option Addr) (n cap : Nat) (zs : List Nat) (hB : BsF F w a n zs) (h1 : 1 ≤ n) (hn : n ≤ 90000) (hat : at' + (n + 4) ≤ 2147483647) (hK : K + (n + 4) + (n + 4) ≤ 1000000) (hN : N + (n + 4) + (n + 4) < maxLen) (E : Nat) (HE : Hid (E = (n + 3) / 106 + 1)) :
    Calls Tryd.prog 6 #[.pointer (some ⟨d, 0, none⟩), .int .i64 seg, .int .i64 (at' : Int), .int .i64 (g : Int), .slice a n cap] w (AppPost w d F (N + E + E) E (appD st sN at' g (partsB (recB zs)))) := by
  obtain ⟨b, off, rfl, hbw, _⟩ := hB.1.pos (by omega)
  have hnF : ¬ F b := hB.2 _ rfl (by omega)
  have HB := hidn hB
  have hzl := hidn hB.1.1
  have HPE : Hid ((partsB (recB zs)).length = E) := hidn (by rw [recB_parts, HE.out, hzl.out])
  have HRL : Hid ((recB zs).length = n + 4) := hidn (by rw [recB_length, hzl.out])
  have hEb : E ≤ n + 4 := by rw [HE.out]; omega
  have hE1 : 1 ≤ E := by rw [HE.out]; omega
  have hneed : needB ((n : Nat) : Int) = E := by rw [needB_yes n h1 (by omega), HE.out]
  have HND := fun wx => wneed_any wx ((n : Nat) : Int)
  rw [hneed] at HND
  have hE0 : ((E : Int) == 0) = false := beq_eq_false_iff_ne.2 (by omega)
  have ha0 : decide ((at' : Int) < 0) = false := by simp
  have hw1 : IntKind.i64.wrap (2147483647 - (E : Int)) = 2147483647 - (E : Int) := by rw [IntKind.wrap_i64]; omega
  have ha1 : decide (2147483647 - (E : Int) < (at' : Int)) = false := by simp; omega
  have hwu : IntKind.u64.wrap (n : Int) = (n : Int) := by rw [IntKind.wrap_u64]; omega
  have HD := hidn h
  have HMz := hidn hB.1.2.2.1
  clear h hneed hB
  go_enter Tryd.func6, Tryd.ntmps6
  go_wp2_with fail
  refine (walMade _ d F N st.M st.free st.fuse HD.out hM0).mono ?_
  rintro e w1 ⟨rfl, hb1⟩
  go_wp2_with fail
  refine (HND _).mono ?_
  clear HND
  rintro e w1' ⟨rfl, rfl⟩
  go_wp2_with fail
  refine (isNumber_yes _ _ hs0 hs1).mono ?_
  rintro e w1' ⟨rfl, rfl⟩
  go_wp2_with fail
  refine (isNumber_yes _ _ (by omega) (by omega)).mono ?_
  rintro e w1' ⟨rfl, rfl⟩
  go_wp2_with fail
  refine (put_any n 4 4 _ (by omega) (Or.inr (Or.inl ⟨by omega, by omega, rfl⟩))).mono ?_
  rintro e w2 ⟨rfl, hown2, hb2⟩
  have hb12 : Below w.heap.size w w2 := hb1.trans (hb2.mono hb1.size)
  have hB2 : Bs w2 (some ⟨w1'.heap.size, 0, none⟩) 4 (putB n 4) := by
    obtain ⟨a2, c2, e2, hx⟩ := bs_of_own hown2 (putB_lt _ _)
    cases e2
    exact hx
  obtain ⟨w3, hw3⟩ : ∃ w3, w3 = w2.alloc (.cells #[.slice (some ⟨w1'.heap.size, 0, none⟩) 4 4, .slice (some ⟨b, off, none⟩) n cap] 29) := ⟨_, rfl⟩
  have q3 : w3.heap[w2.heap.size]? = some (.cells #[.slice (some ⟨w1'.heap.size, 0, none⟩) 4 4, .slice (some ⟨b, off, none⟩) n cap] 29 (0, 0)) := by rw [hw3]; exact heap_alloc_new _ _
  have b3 : Below w2.heap.size w2 w3 := by rw [hw3]; exact (Below.refl _ _).alloc (Nat.le_refl _) _
  have hb13 : Below w.heap.size w w3 := hb12.trans (b3.mono hb12.size)
  have hcs : CsB w3 w2.heap.size [⟨w1'.heap.size, 0, 4, 4, putB n 4⟩, ⟨b, off, n, cap, zs⟩] := by
    intro k s hs
    match k, hs with
    | 0, hs => cases hs; exact ⟨by rw [cell_of_row _ _ _ _ _ _ q3]; rfl, hB2.below b3⟩
    | 1, hs => cases hs; exact ⟨by rw [cell_of_row _ _ _ _ _ _ q3]; rfl, HB.out.1.below hb13⟩
  have hcat : catB [⟨w1'.heap.size, 0, 4, 4, putB n 4⟩, ⟨b, off, n, cap, zs⟩] = recB zs := by
    unfold catB recB
    rw [hzl.out]
    simp
  have HCC := hidn (concat_bytes w2.heap.size 2 2 _ w3 hcs rfl (by rw [hcat, HRL.out]; omega) (by omega))
  rw [hcat, HRL.out] at HCC
  have HW3 := hidn hw3
  clear hcs hcat hB2 hown2 hb2 q3 b3 hw3
  go_wp2_with fail
  rw [← HW3.out]
  refine HCC.out.mono ?_
  clear HCC HW3
  rintro e w4 ⟨v4, rfl, hown4, hb4⟩
  have hb14 : Below w.heap.size w w4 := hb13.trans (hb4.mono hb13.size)
  obtain ⟨g4, c4, e4, hg4, hc4⟩ : ∃ g4 c4, v4 = .slice (some ⟨g4, 0, none⟩) (n + 4) c4 ∧ w3.heap.size ≤ g4 ∧ n + 4 ≤ c4 := by
    rcases hown4.2 with ⟨_, h0⟩ | ⟨g, cap, cur, hv, hge, _, hle, _⟩
    · omega
    · exact ⟨g, cap, hv, hge, hle⟩
  subst e4
  have hB4 : Bs w4 (some ⟨g4, 0, none⟩) (n + 4) (recB zs) := by
    obtain ⟨a2, c2, e2, hx⟩ := bs_of_own hown4 (recB_mem HMz.out)
    cases e2
    exact hx
  have hBF4 : BsF F w4 (some ⟨g4, 0, none⟩) (n + 4) (recB zs) := ⟨hB4, fun x hx _ hf => by
    cases hx
    have h5 := hS.lt _ hf
    have h6 := hb13.size
    simp only at h5
    omega⟩
  obtain ⟨m4, hm4⟩ : ∃ m4, m4 = n + 4 := ⟨_, rfl⟩
  rw [← hm4] at hBF4 hc4 ⊢
  have HM4 := hidn hm4
  have HBF := hidn hBF4
  have HS4 := hidn (hS.below hb14)
  have HD4 := hidn (HD.out.below hb14)
  clear hown4 hB4 hBF4 hm4 hb4 hb13 hb12 hb1 hg4
  go_wp2_with fail
  refine (hName _ hb14).mono ?_
  rintro e w5 ⟨rfl, hb5⟩
  have hb15 : Below w.heap.size w w5 := hb14.trans (hb5.mono hb14.size)
  go_wp2_with fail
  refine (whalves_any _ sN hsz).mono ?_
  rintro e w6 ⟨rfl, hb6⟩
  have hb16 : Below w.heap.size w w6 := hb15.trans (hb6.mono hb15.size)
  have hb46 : Below w4.heap.size w4 w6 := hb5.trans (hb6.mono hb5.size)
  have HD6 := hidn (HD4.out.below hb46)
  have HS6 := hidn (HS4.out.below hb46)
  have HB6 := hidn (HBF.out.below hb46)
  have HG6 := hidn (Gr.of (Keeps.of_below (F := F) hb16))
  clear hb14 hb5 hb15 hb6 hb46 HD4 HS4 HBF hb16 hName
  obtain ⟨fa, hfa⟩ : ∃ fa, fa = fileA sN := ⟨_, rfl⟩
  obtain ⟨fb, hfb⟩ : ∃ fb, fb = fileB sN := ⟨_, rfl⟩
  rw [← hfa] at hnA ⊢
  rw [← hfb] at hnB ⊢
  have HFA := hidn hfa
  have HFB := hidn hfb
  clear hfa hfb
  have hi0 : ∀ wx : World, (Instr.index 52 (.agg #[.string fa, .string fb]) (.int .i64 0)).run Tryd.prog wx = .ok (.string fa) wx := fun wx => by kernel_rfl
  have hi1 : ∀ wx : World, (Instr.index 52 (.agg #[.string fa, .string fb]) (.int .i64 1)).run Tryd.prog wx = .ok (.string fb) wx := fun wx => by kernel_rfl
  obtain ⟨ps, hps⟩ : ∃ ps, ps = partsB (recB zs) := ⟨_, rfl⟩
  have hokA := hidn (hok.half fa at' g ps)
  have HAp : Hid (appD st sN at' g ps = if (halfD st fa at' g ps).2 = 0 then halfD (halfD st fa at' g ps).1 fb at' g ps else halfD st fa at' g ps) := hidn (by rw [HFA.out, HFB.out]; rfl)
  obtain ⟨rA, hrA⟩ : ∃ rA, rA = halfD st fa at' g ps := ⟨_, rfl⟩
  rw [← hrA] at HAp hokA
  obtain ⟨rB, hrB⟩ : ∃ rB, rB = halfD rA.1 fb at' g ps := ⟨_, rfl⟩
  rw [← hrB] at HAp
  rw [← hps]
  have HPS := hidn hps
  have HPL : Hid (ps.length = E) := hidn (by rw [hps]; exact HPE.out)
  have HRA := hidn hrA
  have HRB := hidn hrB
  have HHA : ∀ (wx : World) (F' : Nat → Prop), DiskS wx d F' N st → Sound5 wx F' → BsF F' wx (some ⟨g4, 0, none⟩) m4 (recB zs) → Calls Tryd.prog 20 #[.pointer (some ⟨d, 0, none⟩), .string fa, .int .i64 (at' : Int), .int .i64 (g : Int), .slice (some ⟨g4, 0, none⟩) m4 c4] wx (WrPost wx d F' (N + E) rA) := fun wx F' h1 h2 h3 => by
    have := writeHalf_any wx d F' N st h1 h2 K hok fa hnA at' g hg g4 0 m4 c4 (recB zs) h3 (by rw [HM4.out]; omega) hc4 (by rw [HM4.out]; omega) (by rw [HM4.out]; omega) (by rw [HM4.out]; omega) (by rw [HM4.out]; omega)
    rw [← HPS.out, HPL.out, ← HRA.out] at this
    exact this
  have HHB : ∀ (wx : World) (F' : Nat → Prop), DiskS wx d F' (N + E) rA.1 → Sound5 wx F' → BsF F' wx (some ⟨g4, 0, none⟩) m4 (recB zs) → Calls Tryd.prog 20 #[.pointer (some ⟨d, 0, none⟩), .string fb, .int .i64 (at' : Int), .int .i64 (g : Int), .slice (some ⟨g4, 0, none⟩) m4 c4] wx (WrPost wx d F' (N + E + E) rB) := fun wx F' h1 h2 h3 => by
    have hk2 := hokA.out
    rw [HPL.out] at hk2
    have := writeHalf_any wx d F' (N + E) rA.1 h1 h2 (K + E) hk2 fb hnB at' g hg g4 0 m4 c4 (recB zs) h3 (by rw [HM4.out]; omega) hc4 (by rw [HM4.out]; omega) (by rw [HM4.out]; omega) (by rw [HM4.out]; omega) (by rw [HM4.out]; omega)
    rw [← HPS.out, HPL.out, ← HRB.out] at this
    exact this
  clear hps hrA hrB
  obtain ⟨stA, eA⟩ := rA
  obtain ⟨stB, eB⟩ := rB
  simp only at HAp HHA HHB
  go_wp2_with fail
  go_loopw [55] (fun iv wr => ∃ (k : Nat) (F' : Nat → Prop), k ≤ 2 ∧ iv = .int .i64 k ∧ Hid (Gr F F' w wr) ∧ Hid (Sound5 wr F' ∧ BsF F' wr (some ⟨g4, 0, none⟩) m4 (recB zs)) ∧ ((k = 0 ∧ Hid (DiskS wr d F' N st)) ∨ (k = 1 ∧ Hid (eA = 0 ∧ DiskS wr d F' (N + E) stA)) ∨
      (k = 2 ∧ Hid (eA = 0 ∧ eB = 0 ∧ DiskS wr d F' (N + E + E) stB)))) (fun iv _ => 2 - (intOf iv).toNat)
  case atStart => exact ⟨0, F, by omega, rfl, HG6, hidn ⟨HS6.out, HB6.out⟩, Or.inl ⟨rfl, HD6⟩⟩
  case round =>
    obtain ⟨k, F', hk, rfl, HGk, HSk, (⟨rfl, HDk⟩ | ⟨rfl, HDk⟩ | ⟨rfl, HDk⟩)⟩ := hrel
    · go_wp2_with fail
      refine (HHA _ F' HDk.out HSk.out.1 HSk.out.2).mono ?_
      rintro e w7 ⟨rfl, F7, hD7, hG7⟩
      by_cases hz : eA = 0
      · have HN7 : Hid (eA = 0 ∧ DiskS w7 d F7 (N + E) stA) := hidn ⟨hz, hD7⟩
        have HG7 := hidn (HGk.out.trans hG7)
        have HS7 : Hid (Sound5 w7 F7 ∧ BsF F7 w7 (some ⟨g4, 0, none⟩) m4 (recB zs)) := hidn ⟨HSk.out.1.gr hG7, HSk.out.2.gr hG7⟩
        have hz1 : (eA != 0) = false := by rw [hz]; rfl
        clear hD7 hG7 HHA HHB hz
        simp only at hz1 ⊢
        go_wp2
        go_roundw
        case rel => exact ⟨1, F7, by omega, by first | rfl | go_num | simp, HG7, HS7, Or.inr (Or.inl ⟨rfl, HN7⟩)⟩
        case measure => simp [intOf]
      · have hz1 : (eA != 0) = true := bne_iff_ne.2 hz
        have HE7 : Hid (AppPost w d F (N + E + E) E (appD st sN at' g ps) (.returned (.tuple #[.int .i64 0, .int .i64 eA])) w7) := hidn (by
          rw [HAp.out]
          simp only [hz, if_false]
          exact ⟨by simp [hz], F7, hD7.mono (by omega), HGk.out.trans hG7⟩)
        clear hD7 hG7 HHA HHB hz
        simp only at hz1 ⊢
        go_wp2
        go_ret2
        rw [← HPS.out]
        exact HE7.out
    · go_wp2_with fail
      refine (HHB _ F' HDk.out.2 HSk.out.1 HSk.out.2).mono ?_
      rintro e w7 ⟨rfl, F7, hD7, hG7⟩
      have hAz := hidn HDk.out.1
      by_cases hz : eB = 0
      · have HN7 : Hid (eA = 0 ∧ eB = 0 ∧ DiskS w7 d F7 (N + E + E) stB) := hidn ⟨hAz.out, hz, hD7⟩
        have HG7 := hidn (HGk.out.trans hG7)
        have HS7 : Hid (Sound5 w7 F7 ∧ BsF F7 w7 (some ⟨g4, 0, none⟩) m4 (recB zs)) := hidn ⟨HSk.out.1.gr hG7, HSk.out.2.gr hG7⟩
        have hz1 : (eB != 0) = false := by rw [hz]; rfl
        clear hD7 hG7 HHA HHB hz HDk
        simp only at hz1 ⊢
        go_wp2
        go_roundw
        case rel => exact ⟨2, F7, by omega, by first | rfl | go_num | simp, HG7, HS7, Or.inr (Or.inr ⟨rfl, HN7⟩)⟩
        case measure => simp [intOf]
      · have hz1 : (eB != 0) = true := bne_iff_ne.2 hz
        have HE7 : Hid (AppPost w d F (N + E + E) E (appD st sN at' g ps) (.returned (.tuple #[.int .i64 0, .int .i64 eB])) w7) := hidn (by
          rw [HAp.out]
          simp only [hAz.out, if_true]
          exact ⟨by simp [hz], F7, hD7, HGk.out.trans hG7⟩)
        clear hD7 hG7 HHA HHB hz HDk
        simp only at hz1 ⊢
        go_wp2
        go_ret2
        rw [← HPS.out]
        exact HE7.out
    · have HE7 : Hid (AppPost w d F (N + E + E) E (appD st sN at' g ps) (.returned (.tuple #[.int .i64 (E : Int), .int .i64 0])) wr) := hidn (by
        obtain ⟨h1, h2, h3⟩ := HDk.out
        rw [HAp.out]
        simp only [h1, if_true]
        exact ⟨by simp [h2], F', h3, HGk.out⟩)
      clear HHA HHB HDk
      go_wp2
      go_ret2
      rw [← HPS.out]
      exact HE7.out
end Go.Proofs.YthhnpajaacfapaaDoor
