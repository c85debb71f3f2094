/- pair.Put over the plain disk: any content, any fuse. -/
import Derived.Test.YtoopdmfijbbfdaaDoorWaD
namespace Go.Proofs.YtoopdmfijbbfdaaDoor
open Go.RowKit Go.Maps
set_option linter.unusedVariables false

theorem WrPost.open {w w' : World} {d N : Nat} {F : Nat → Prop} {st : St} {v : Int} {e : Ending} (h : WrPost w d F N (st, v) e w') : e = .returned (.int .i64 v) ∧ ∃ F', DiskS w' d F' N st ∧ Gr F F' w w' := h

/-- What writing one file of a pair, and its sync, make of a disk. -/
def put1 (st : St) (s : ByteArray) (i g : Nat) (p : List Nat) : St × Int :=
  if (wrD st s.data.toList i (frameB (nums s) i g p)).2 = 0 then syD (wrD st s.data.toList i (frameB (nums s) i g p)).1 s.data.toList else wrD st s.data.toList i (frameB (nums s) i g p)

def putD (st : St) (s : ByteArray) (i g : Nat) (p : List Nat) : St × Int :=
  if (put1 st (fileA s) i g p).2 = 0 then put1 (put1 st (fileA s) i g p).1 (fileB s) i g p else put1 st (fileA s) i g p

theorem put1_w {st s1 : St} {s : ByteArray} {i g : Nat} {p z : List Nat} {v : Int} (hz : z = frameB (nums s) i g p) (h : (s1, v) = wrD st s.data.toList i z) (h0 : v ≠ 0) : put1 st s i g p = (s1, v) := by
  unfold put1
  rw [← hz, ← h, if_neg h0]

theorem put1_s {st s1 s2 : St} {s : ByteArray} {i g : Nat} {p z : List Nat} {v : Int} (hz : z = frameB (nums s) i g p) (h : (s1, 0) = wrD st s.data.toList i z) (h2 : (s2, v) = syD s1 s.data.toList) : put1 st s i g p = (s2, v) := by
  unfold put1
  rw [← hz, ← h, if_pos rfl, h2]

theorem putD_a {st s1 : St} {s : ByteArray} {i g : Nat} {p : List Nat} {v : Int} (h : put1 st (fileA s) i g p = (s1, v)) (h0 : v ≠ 0) : putD st s i g p = (s1, v) := by
  unfold putD
  rw [h, if_neg h0]

theorem putD_b {st s1 s2 : St} {s : ByteArray} {i g : Nat} {p : List Nat} {v : Int} (h : put1 st (fileA s) i g p = (s1, 0)) (h2 : put1 s1 (fileB s) i g p = (s2, v)) : putD st s i g p = (s2, v) := by
  unfold putD
  rw [h, if_pos rfl, h2]

set_option maxHeartbeats 1000000 in
theorem pairWrite_st (w : World) (d : Nat) (F : Nat → Prop) (N : Nat) (st : St) (h : DiskS w d F N st) (hS : Sound5 w F) (K : Nat) (hok : StOK st K) (hK : K ≤ 1000000) (hN : N < maxLen) (s : ByteArray) (hs : nameB s.data.toList = true) (i g : Nat) (hi2 : i ≤ 2147483647)
    (a : Option Addr) (len cap : Nat) (p fz : List Nat) (hB : Bs w a len p) (hl : len ≤ 106) (hg : g ≤ 4611686018427387904) (HF : Hid (fz = frameB (nums s) i g p)) :
    Calls Tryd.prog 56 #[.pointer (some ⟨d, 0, none⟩), .string s, .int .i64 i, .int .i64 g, .slice a len cap] w (WrPost w d F (N + 1) (wrD st s.data.toList i fz)) := by
  have hsm : s.size ≤ maxLen := by have := (name_size hs).2; unfold maxLen; omega
  have HSN := hidn hs
  have HOK := hidn hok
  clear hs
  obtain ⟨r, hr⟩ : ∃ r, r = wrD st s.data.toList i fz := ⟨_, rfl⟩
  rw [← hr]
  have HR := hidn hr
  clear hr
  obtain ⟨st', rv⟩ := r
  go_enter Tryd.func56, Tryd.ntmps56
  go_wp2_with fail
  refine (frame_bs s i g i g rfl rfl a len cap p _ hB hS.tab hsm hi2 hg hl fz HF).mono ?_
  rintro e w1 ⟨b, rfl, hb, _, hB1, hb1⟩
  have HW := hidn (write_st w1 d F N st (h.below hb1) s HSN.out i _ (hidn rfl) b 128 fz (BsF.fresh hB1 hb hS.lt) HOK.out.fuse HOK.out.fuse2 (Nat.le_trans (HOK.out.len _) hK) hN HOK.out.free HOK.out.free2)
  rw [← HR.out] at HW
  go_wp2_with fail
  refine HW.out.mono ?_
  clear HW
  rintro e w2 hw2
  obtain ⟨rfl, F2, hD2, hG2⟩ := WrPost.open hw2
  clear hw2
  go_wp2
  go_ret
  exact ⟨rfl, F2, hD2, (Gr.of (Keeps.of_below hb1)).trans hG2⟩

set_option maxHeartbeats 2000000 in
theorem put_st (w : World) (d : Nat) (F : Nat → Prop) (N : Nat) (st : St) (h : DiskS w d F N st) (hS : Sound5 w F) (K : Nat) (hok : StOK st K) (hK : K + 2 ≤ 1000000) (hN : N + 2 < maxLen) (hM0 : st.M [] = []) (s : ByteArray) (hs : s.size ≤ 1000) (hnA : nameB (fileA s).data.toList = true) (hnB : nameB (fileB s).data.toList = true)
    (i g : Nat) (hi : i ≤ 2147483647) (hg : g ≤ 4611686018427387904) (a : Option Addr) (len cap : Nat) (p : List Nat) (hBz : BsF F w a len p) (hlen : len ≤ 106) :
    Calls Tryd.prog 38 #[.pointer (some ⟨d, 0, none⟩), .string s, .int .i64 i, .int .i64 g, .slice a len cap] w (WrPost w d F (N + 2) (putD st s i g p)) := by
  have HD := hidn h
  have HS := hidn hS
  have HOK := hidn hok
  have HnA := hidn hnA
  have HnB := hidn hnB
  have HBz := hidn hBz
  have hHv := fun wx => halves_any wx s hs
  clear hnA hnB hBz h hS hok
  go_enter Tryd.func38, Tryd.ntmps38
  go_wp2_with fail
  refine (pairMade _ d F N st.M st.free st.fuse HD.out hM0).mono ?_
  rintro e w1 ⟨rfl, hb1⟩
  go_wp2_with fail
  refine (hHv _).mono ?_
  rintro e w4 ⟨rfl, hb4⟩
  have hb14 : Below w.heap.size w w4 := hb1.trans (hb4.mono hb1.size)
  have HD4 := hidn (HD.out.below hb14)
  have HG4 := hidn (Gr.of (Keeps.of_below (F := F) hb14))
  clear hb1 hb4 hb14 hHv HD
  obtain ⟨fa, hfa⟩ : ∃ fa, fa = fileA s := ⟨_, rfl⟩
  obtain ⟨fb, hfb⟩ : ∃ fb, fb = fileB s := ⟨_, rfl⟩
  rw [← hfa] at HnA
  rw [← hfb] at HnB
  rw [← hfa, ← hfb]
  have HFA := hidn hfa
  have HFB := hidn hfb
  obtain ⟨za, hza⟩ : ∃ za, za = frameB (nums fa) i g p := ⟨_, rfl⟩
  obtain ⟨zb, hzb⟩ : ∃ zb, zb = frameB (nums fb) i g p := ⟨_, rfl⟩
  have HZA := hidn hza
  have HZB := hidn hzb
  clear hfa hfb hza hzb
  have hsA : fa.size ≤ maxLen := by have := (name_size HnA.out).2; unfold maxLen; omega
  have hsB : fb.size ≤ maxLen := by have := (name_size HnB.out).2; unfold maxLen; omega
  have hi0 : ∀ wx : World, (Instr.index 91 (.agg #[.string fa, .string fb]) (.int .i64 0)).run Tryd.prog wx = .ok (.string fa) wx := fun wx => by kernel_rfl
  have hi1 : ∀ wx : World, (Instr.index 91 (.agg #[.string fa, .string fb]) (.int .i64 1)).run Tryd.prog wx = .ok (.string fb) wx := fun wx => by kernel_rfl
  go_wp2_with fail
  go_loopw [20] (fun iv wr => ∃ (k : Nat) (F' : Nat → Prop) (stk : St), k ≤ 2 ∧ iv = .int .i64 k ∧ Hid (Gr F F' w wr) ∧ Hid (DiskS wr d F' (N + k) stk) ∧ Hid (StOK stk (K + k)) ∧ ((k = 0 ∧ Hid (stk = st)) ∨ (k = 1 ∧ Hid (put1 st fa i g p = (stk, 0))) ∨ (k = 2 ∧ Hid (putD st s i g p = (stk, 0))))) (fun iv _ => 2 - (intOf iv).toNat)
  case atStart => exact ⟨0, F, st, by omega, rfl, HG4, HD4, HOK, Or.inl ⟨rfl, hidn rfl⟩⟩
  case round =>
    clear HD4 HG4 HOK
    obtain ⟨k, F', stk, hk, rfl, HGk, HDk, HOk, (⟨rfl, HK⟩ | ⟨rfl, HK⟩ | ⟨rfl, HK⟩)⟩ := hrel
    · obtain rfl := HK.out
      obtain ⟨q, hq⟩ : ∃ q, q = wrD stk fa.data.toList i za := ⟨_, rfl⟩
      have HW := hidn (pairWrite_st wr d F' (N + 0) stk HDk.out (HS.out.gr HGk.out) (K + 0) HOk.out (by omega) (by omega) fa HnA.out i g hi a len cap p za (HBz.out.gr HGk.out).1 hlen hg HZA)
      have hok1 := HOk.out.wr fa.data.toList i za
      rw [← hq] at HW hok1
      have HQ := hidn hq
      clear hq
      obtain ⟨s1, v1⟩ := q
      have HO1 := hidn hok1
      clear hok1
      go_wp2_with fail
      refine HW.out.mono ?_
      clear HW
      rintro e w6 hw6
      obtain ⟨rfl, F6, hD6, hG6⟩ := WrPost.open hw6
      have HD6 := hidn hD6
      have HG6 := hidn (HGk.out.trans hG6)
      clear hD6 hG6 hw6
      by_cases h0 : v1 = 0
      · subst h0
        obtain ⟨q2, hq2⟩ : ∃ q, q = syD s1 fa.data.toList := ⟨_, rfl⟩
        have HSY := hidn (sync_st w6 d F6 (N + 0 + 1) s1 HD6.out fa hsA HO1.out.fuse HO1.out.fuse2)
        have hok2 := HO1.out.sy fa.data.toList
        rw [← hq2] at HSY hok2
        have HQ2 := hidn hq2
        clear hq2
        obtain ⟨s2, v2⟩ := q2
        have HO7 : Hid (StOK s2 (K + 1)) := hidn hok2
        clear hok2
        go_wp2_with fail
        refine HSY.out.mono ?_
        clear HSY
        rintro e w7 hw7
        obtain ⟨rfl, F7, hD7, hG7⟩ := WrPost.open hw7
        have HD7 : Hid (DiskS w7 d F7 (N + 1) s2) := hidn hD7
        have HG7 := hidn (HG6.out.trans hG7)
        clear hD7 hG7 hw7
        by_cases h2 : v2 = 0
        · subst h2
          have HP : Hid (put1 stk fa i g p = (s2, 0)) := hidn ((put1_s (z := za) HZA.out HQ.out HQ2.out))
          go_wp2
          go_roundw
          case rel => exact ⟨1, F7, s2, by omega, by first | rfl | go_num | simp, HG7, HD7, HO7, Or.inr (Or.inl ⟨rfl, HP⟩)⟩
          case measure => simp [intOf]
        · have h2' : (v2 != 0) = true := bne_iff_ne.2 h2
          have HP := hidn (putD_a (HFA.out ▸ (put1_s (z := za) HZA.out HQ.out HQ2.out)) h2)
          go_wp2
          go_ret
          rw [HP.out]
          exact ⟨rfl, F7, HD7.out.mono (by omega), HG7.out⟩
      · have h0' : (v1 != 0) = true := bne_iff_ne.2 h0
        have HP := hidn (putD_a (HFA.out ▸ (put1_w (z := za) HZA.out HQ.out h0)) h0)
        go_wp2
        go_ret
        rw [HP.out]
        exact ⟨rfl, F6, HD6.out.mono (by omega), HG6.out⟩
    · skip
      obtain ⟨q, hq⟩ : ∃ q, q = wrD stk fb.data.toList i zb := ⟨_, rfl⟩
      have HW := hidn (pairWrite_st wr d F' (N + 1) stk HDk.out (HS.out.gr HGk.out) (K + 1) HOk.out (by omega) (by omega) fb HnB.out i g hi a len cap p zb (HBz.out.gr HGk.out).1 hlen hg HZB)
      have hok1 := HOk.out.wr fb.data.toList i zb
      rw [← hq] at HW hok1
      have HQ := hidn hq
      clear hq
      obtain ⟨s1, v1⟩ := q
      have HO1 := hidn hok1
      clear hok1
      go_wp2_with fail
      refine HW.out.mono ?_
      clear HW
      rintro e w6 hw6
      obtain ⟨rfl, F6, hD6, hG6⟩ := WrPost.open hw6
      have HD6 := hidn hD6
      have HG6 := hidn (HGk.out.trans hG6)
      clear hD6 hG6 hw6
      by_cases h0 : v1 = 0
      · subst h0
        obtain ⟨q2, hq2⟩ : ∃ q, q = syD s1 fb.data.toList := ⟨_, rfl⟩
        have HSY := hidn (sync_st w6 d F6 (N + 1 + 1) s1 HD6.out fb hsB HO1.out.fuse HO1.out.fuse2)
        have hok2 := HO1.out.sy fb.data.toList
        rw [← hq2] at HSY hok2
        have HQ2 := hidn hq2
        clear hq2
        obtain ⟨s2, v2⟩ := q2
        have HO7 : Hid (StOK s2 (K + 2)) := hidn hok2
        clear hok2
        go_wp2_with fail
        refine HSY.out.mono ?_
        clear HSY
        rintro e w7 hw7
        obtain ⟨rfl, F7, hD7, hG7⟩ := WrPost.open hw7
        have HD7 : Hid (DiskS w7 d F7 (N + 2) s2) := hidn hD7
        have HG7 := hidn (HG6.out.trans hG7)
        clear hD7 hG7 hw7
        by_cases h2 : v2 = 0
        · subst h2
          have HP : Hid (putD st s i g p = (s2, 0)) := hidn (putD_b (HFA.out ▸ HK.out) (HFB.out ▸ (put1_s (z := zb) HZB.out HQ.out HQ2.out)))
          go_wp2
          go_roundw
          case rel => exact ⟨2, F7, s2, by omega, by first | rfl | go_num | simp, HG7, HD7, HO7, Or.inr (Or.inr ⟨rfl, HP⟩)⟩
          case measure => simp [intOf]
        · have h2' : (v2 != 0) = true := bne_iff_ne.2 h2
          have HP := hidn (putD_b (HFA.out ▸ HK.out) (HFB.out ▸ (put1_s (z := zb) HZB.out HQ.out HQ2.out)))
          go_wp2
          go_ret
          rw [HP.out]
          exact ⟨rfl, F7, HD7.out.mono (by omega), HG7.out⟩
      · have h0' : (v1 != 0) = true := bne_iff_ne.2 h0
        have HP := hidn (putD_b (HFA.out ▸ HK.out) (HFB.out ▸ (put1_w (z := zb) HZB.out HQ.out h0)))
        go_wp2
        go_ret
        rw [HP.out]
        exact ⟨rfl, F6, HD6.out.mono (by omega), HG6.out⟩
    · go_wp2
      go_ret
      rw [HK.out]
      exact ⟨rfl, F', HDk.out, HGk.out⟩
end Go.Proofs.YtoopdmfijbbfdaaDoor
