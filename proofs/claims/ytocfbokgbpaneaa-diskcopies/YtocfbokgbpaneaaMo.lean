/- Same: two disks that hold the same plain state are the same. -/
import Derived.Test.YtocfbokgbpaneaaMn
import Derived.Test.YtocfbokgbpaneaaTwE
namespace Go.Proofs.Ytocfbokgbpaneaa
open Go.RowKit Go.Maps
set_option linter.unusedVariables false

theorem names_ss {R : List Yf} {room : Int} {st : St} (hV : RelV (viewY R) room st) {ts : List (List UInt8)} (hn : Names st.M ts) : ts.length = R.length ∧ ts.map encStr = (R.map Yf.name).map Value.string := by
  have h := names_view hV hn
  unfold viewY at h
  rw [List.map_map] at h
  subst h
  refine ⟨by simp, ?_⟩
  rw [List.map_map, List.map_map]
  refine List.map_congr_left fun f _ => ?_
  show Value.string ⟨f.name.data.toList.toArray⟩ = Value.string f.name
  rw [Array.toArray_toList]

theorem namesV_ss (R : List Yf) : namesV R = (R.map Yf.name).map Value.string := by
  unfold namesV
  rw [List.map_map]
  rfl

theorem spots_same {R : List Yf} {room : Int} {st : St} (hV : RelV (viewY R) room st) {ts : List (List UInt8)} (hn : Names st.M ts) : spotsOf st.M ts = spotsY R := by
  rw [names_view hV hn, spots_view hV, spotsY_view]

theorem place_rise {R : List Yf} {room : Int} {st : St} (hV : RelV (viewY R) room st) {k : Nat} {f : Yf} (hf : R[k]? = some f) : placeY R f.name = some k := by
  refine place_yes hf rfl fun j hj f' hf' e => ?_
  have hk := (List.getElem?_eq_some_iff.1 (view_at hf)).1
  have hj2 := (List.getElem?_eq_some_iff.1 (view_at hf')).1
  have h := List.pairwise_iff_getElem.1 hV.rise j k hj2 hk hj
  rw [(List.getElem?_eq_some_iff.1 (view_at hf')).2, (List.getElem?_eq_some_iff.1 (view_at hf)).2] at h
  unfold ltB at h
  rw [show ((f'.name, f'.l.map Yc.x) : ByteArray × List Ext).1 = f.name from e] at h
  exact List.lt_irrefl _ h

set_option maxHeartbeats 16000000 in
set_option maxRecDepth 100000 in
theorem same_any (W0 w : World) (d N y : Nat) (room : Int) (st : St) (h : Two W0 w d N y room st) (hN : N ≤ 1000000) :
    Calls Try.prog 8 #[.pointer (some ⟨d, 0, none⟩), .pointer (some ⟨y, 0, none⟩)] w fun e w' => e = .returned (.bool true) ∧ Below w.heap.size w w' := by
  obtain ⟨_, Fd, Fy, hD, ⟨fa, fc, R, hY, hV⟩, hFd, hFy, _⟩ := h
  obtain ⟨M, free, fuse⟩ := st
  have hD' : DiskOf w d Fd N M free fuse := hD
  obtain ⟨hRl, hsm⟩ := hV.short
  have hfr : free = room - (sumL R : Int) := by have := hV.free; rw [sum_view] at this; exact this
  have hr0 := hV.room0
  have hr1 := hV.room1
  have HD := hidn hD'
  have HY := hidn hY
  have HV := hidn hV
  have HT := hidn hV.total
  have HF := hidn (show ∀ k, Fy k → k < w.heap.size from fun k hk => (hFy k hk).2)
  have HFR := hidn hfr
  have HRL := hidn hRl
  have HSM := hidn hsm
  obtain ⟨n, hn⟩ : ∃ n, n = R.length := ⟨_, rfl⟩
  have hn6 : n ≤ 1000000 := by omega
  have HNn := hidn hn
  clear hD hD' hY hV hFd hFy hfr hRl hsm hn
  go_enter Try.func8, Try.ntmps8
  go_wp2_with fail
  refine (listY_any _ y Fy fa fc R room fuse HY.out HF.out HRL.out).mono ?_
  rintro e w1 ⟨v, rfl, hrow, hb1⟩
  rw [← HNn.out, namesV_ss] at hrow
  obtain ⟨la, lc, rfl⟩ := own_slY hrow
  have HR := hidn hrow
  have HD1 := hidn (HD.out.below hb1)
  have HY1 := hidn (HY.out.below HF.out hb1)
  have HF1 := hidn (show ∀ k, Fy k → k < w1.heap.size from fun k hk => Nat.lt_of_lt_of_le (HF.out k hk) hb1.size)
  have HB1 := hidn hb1
  clear hrow hb1
  go_wp2_with fail
  refine (list_disk _ d Fd N M free fuse HD1.out hN).mono ?_
  rintro e w2 ⟨v2, ts, rfl, hnm, hrow2, hb2⟩
  obtain ⟨hl2, hs2⟩ := names_ss HV.out hnm
  rw [hl2, ← HNn.out, hs2] at hrow2
  obtain ⟨la2, lc2, rfl⟩ := own_slY hrow2
  have HEQ := hidn (strsEq_same w2 la2 la n lc2 lc _ _ _ hrow2 (own_below HR.out hb2) hn6)
  have HB2 := hidn hb2
  clear hl2 hs2 hrow2 hb2 hnm
  go_wp2_with fail
  refine HEQ.out.mono ?_
  rintro e w3 ⟨rfl, hb3⟩
  have HB3 := hidn (HB2.out.trans (hb3.mono HB2.out.size))
  clear hb3 HEQ HB2
  go_wp2_with fail
  refine (freeP_any _ d Fd N M free fuse (HD1.out.below HB3.out)).mono ?_
  rintro e w4 ⟨rfl, rfl⟩
  go_wp2_with fail
  refine (freeY_any _ y Fy fa fc R room fuse (HY1.out.below HF1.out HB3.out) (fun k hk => Nat.lt_of_lt_of_le (HF1.out k hk) HB3.out.size) HRL.out hr0 hr1 HSM.out).mono ?_
  rintro e w5 ⟨he, hb5⟩
  rw [← HFR.out] at he
  subst he
  have HB5 := hidn (HB3.out.trans (hb5.mono HB3.out.size))
  clear hb5 HB3
  go_wp2_with fail
  refine (damaged_disk _ d Fd N M free fuse (HD1.out.below HB5.out) hN HT.out).mono ?_
  rintro e w6 ⟨v6, rfl, ⟨ts6, hnm6, hrow6⟩, hb6⟩
  rw [spots_same HV.out hnm6] at hrow6
  have hsl : (spotsY R).length ≤ 1000000 := by have := spotsY_length R; have := HSM.out; omega
  obtain ⟨m, hm⟩ : ∃ m, m = (spotsY R).length := ⟨_, rfl⟩
  have HM := hidn hm.symm
  rw [← hm] at hrow6 hsl
  obtain ⟨la6, lc6, rfl⟩ := own_slY hrow6
  have HR6 := hidn hrow6
  have HB6 := hidn (HB5.out.trans (hb6.mono HB5.out.size))
  clear hm hrow6 hb6 hnm6 HB5
  go_wp2_with fail
  refine (damagedY_any _ y Fy fa fc R room fuse (HY1.out.below HF1.out HB6.out) (fun k hk => Nat.lt_of_lt_of_le (HF1.out k hk) HB6.out.size) HRL.out HSM.out).mono ?_
  rintro e w7 ⟨v7, rfl, hrow7, hb7⟩
  rw [HM.out] at hrow7
  obtain ⟨la7, lc7, rfl⟩ := own_slY hrow7
  have HEQ := hidn (spotsEq_same w7 la6 la7 m lc6 lc7 _ _ _ (own_below HR6.out hb7) hrow7 HM.out hsl)
  have HB7 := hidn (HB6.out.trans (hb7.mono HB6.out.size))
  clear hrow7 hb7 HR6 HB6
  go_wp2_with fail
  refine HEQ.out.mono ?_
  rintro e w8 ⟨rfl, hb8⟩
  have HB8 := hidn (HB7.out.trans (hb8.mono HB7.out.size))
  clear hb8 HEQ HB7 hsl
  go_wp2_with fail
  go_loopw [37] (fun iv wr => ∃ k : Nat, k ≤ n ∧ iv = .int .i64 (k : Int) ∧ Hid (Below w1.heap.size w1 wr)) (fun iv _ => n - (intOf iv).toNat)
  case atStart => exact ⟨0, Nat.zero_le _, rfl, HB8⟩
  case round =>
    obtain ⟨k, hk, rfl, HBr⟩ := hrel
    obtain ⟨wo, hwo⟩ : ∃ wo, wo = wr := ⟨_, rfl⟩
    subst hwo
    by_cases hlt : k < n
    · have hlt2 : (k : Int) < (n : Int) := by omega
      obtain ⟨f, hf⟩ : ∃ f, R[k]? = some f := ⟨_, List.getElem?_eq_getElem (by rw [← HNn.out]; exact hlt)⟩
      obtain ⟨ga, rfl, hga, hca⟩ := own_at HR.out (by omega)
      have c0 : wo.cell? ⟨ga, k, none⟩ = some (.string f.name) := (HBr.out.cell (p := ⟨ga, k, none⟩) hga).trans (hca k _ (by rw [List.getElem?_map, List.getElem?_map, hf]; rfl))
      have hp := place_rise HV.out hf
      obtain ⟨_, hM⟩ := place_view HV.out hp hf
      have hlen : f.l.length ≤ 100000 := sumL_at hf HSM.out
      have hns : f.name.size ≤ 24 := (HY1.out.ok f (List.mem_of_getElem? hf)).1
      obtain ⟨nm, hnm⟩ : ∃ nm, nm = f.name := ⟨_, rfl⟩
      obtain ⟨z, hz⟩ : ∃ z, z = f.l.length := ⟨_, rfl⟩
      rw [← hnm] at c0 hp hM hns
      have hzM : Hid (z = (M nm.data.toList).length) := hidn (by rw [hz]; show f.l.length = ((⟨M, free, fuse⟩ : St).M nm.data.toList).length; rw [hM, List.length_map])
      have hzY : Hid (z = (extY R nm).length) := hidn (by rw [hz, extY_at hp hf])
      have hnz : nm.size ≤ maxLen := by unfold maxLen; omega
      have HPF := hidn (show placeY R nm = some k ∧ R[k]? = some f ∧ M nm.data.toList = f.l.map Yc.x ∧ z = f.l.length from ⟨hp, hf, hM, hz⟩)
      have hz6 : z ≤ 100000 := by omega
      clear hca hf hp hM hlen hns hnm hz
      go_wp2_with fail
      refine (extents_disk _ d Fd N M free fuse (HD1.out.below HBr.out) nm hnz z hzM).mono ?_
      rintro e w9 ⟨rfl, rfl⟩
      clear c0
      go_wp2_with fail
      refine (extentsY_any _ y Fy fa fc R room fuse (HY1.out.below HF1.out HBr.out) (fun k hk => Nat.lt_of_lt_of_le (HF1.out k hk) HBr.out.size) nm HRL.out z hzY).mono ?_
      rintro e w10 ⟨rfl, hb10⟩
      have HB10 := hidn (HBr.out.trans (hb10.mono HBr.out.size))
      clear hb10
      go_wp2_with fail
      refine (extentsY_any _ y Fy fa fc R room fuse (HY1.out.below HF1.out HB10.out) (fun k hk => Nat.lt_of_lt_of_le (HF1.out k hk) HB10.out.size) nm HRL.out z hzY).mono ?_
      rintro e w11 ⟨rfl, hb11⟩
      have HB11 := hidn (HB10.out.trans (hb11.mono HB10.out.size))
      clear hb11 HB10
      go_wp2_with fail
      go_loopw [51] (fun iv wr => ∃ i : Nat, i ≤ z ∧ iv = .int .i64 (i : Int) ∧ Hid (Below w1.heap.size w1 wr)) (fun iv _ => z - (intOf iv).toNat)
      case atStart => exact ⟨0, Nat.zero_le _, rfl, HB11⟩
      case round =>
        obtain ⟨i, hi, rfl, HBi⟩ := hrel
        by_cases hit : i < z
        · have hit2 : (i : Int) < (z : Int) := by omega
          obtain ⟨c, hc⟩ : ∃ c, f.l[i]? = some c := ⟨_, List.getElem?_eq_getElem (by rw [← HPF.out.2.2.2]; exact hit)⟩
          have hx : Hid ((M nm.data.toList)[i]? = some c.x) := hidn (by rw [HPF.out.2.2.1, getE_map hc])
          have hok : c.x.ok := ((HY1.out.ok f (List.mem_of_getElem? HPF.out.2.1)).2.2) c (List.mem_of_getElem? hc)
          have HC := hidn hc
          have HOK := hidn hok
          obtain ⟨ii, hii⟩ : ∃ ii, ii = c.x.rd := ⟨_, rfl⟩
          have HII := hidn hii
          clear hc hok hii
          go_wp2_with fail
          refine (diskRead_some _ d Fd N M free fuse (HD1.out.below HBi.out) nm hnz i z (i * 385) hzM hit rfl ii c.x hx HII).mono ?_
          rintro e w12 ⟨b12, rfl, hbb, hbs12, hb12⟩
          have HB12 := hidn (HBi.out.trans (hb12.mono HBi.out.size))
          have HS12 := hidn hbs12
          clear hbb hbs12 hb12
          go_wp2_with fail
          refine (readY_yes _ y Fy fa fc R room fuse (HY1.out.below HF1.out HB12.out) (fun k hk => Nat.lt_of_lt_of_le (HF1.out k hk) HB12.out.size) nm HRL.out i k f c HPF.out.1 HPF.out.2.1 HC.out (by rw [← HPF.out.2.2.2]; omega)).mono ?_
          rintro e w13 ⟨q, rfl, him, hq, hb13⟩
          have hrdl : c.x.rd.length = 128 ∧ ∀ x ∈ c.x.rd, x < 256 := by
            obtain ⟨o1, o2, o3⟩ := HOK.out
            unfold Ext.rd
            split
            · exact o3
            · exact o1
          have HEQ := hidn (bytesEqual_same w13 (some ⟨b12, 0, none⟩) (some ⟨q.1, 0, none⟩) 128 128 q.2 ii (HS12.out.below hb13) (by rw [HII.out]; exact him.bs hrdl.1 hrdl.2))
          have HB13 := hidn (HB12.out.trans (hb13.mono HB12.out.size))
          obtain ⟨q1, q2⟩ := q
          clear him hq hb13 hrdl HS12 HB12
          go_wp2_with fail
          refine HEQ.out.mono ?_
          rintro e w14 ⟨rfl, hb14⟩
          have HB14 := hidn (HB13.out.trans (hb14.mono HB13.out.size))
          clear hb14 HEQ HB13
          go_wp2
          go_roundw
          case rel => exact ⟨i + 1, hit, by simp, HB14⟩
          case measure => simp [intOf]; omega
        · have hit2 : ¬ (i : Int) < (z : Int) := by omega
          go_wp2
          go_roundw
          case rel => exact ⟨k + 1, hlt, by simp, HBi⟩
          case measure => simp [intOf]; omega
    · have hlt2 : ¬ (k : Int) < (n : Int) := by omega
      go_wp2
      go_ret
      exact ⟨rfl, HB1.out.trans (HBr.out.mono HB1.out.size)⟩
end Go.Proofs.Ytocfbokgbpaneaa

namespace Go.Proofs.Ytocfbokgbpaneaa
open Go.RowKit Go.Maps
set_option linter.unusedVariables false

/-- The program's disk holds one plain state, the document's another one; both lie in U. -/
def TwX (W0 w : World) (d N y : Nat) (room : Int) (sd sy : St) (U : Nat → Prop) : Prop :=
  Below W0.heap.size W0 w ∧ ∃ Fd Fy : Nat → Prop, DiskS w d Fd N sd ∧ DiskY w y Fy room sy ∧ (∀ k, Fd k → W0.heap.size ≤ k ∧ k < w.heap.size) ∧ (∀ k, Fy k → W0.heap.size ≤ k ∧ k < w.heap.size) ∧ (∀ k, Fd k → ¬ Fy k) ∧ (∀ k, Fd k → U k) ∧ ∀ k, Fy k → U k

theorem Two.x {W0 w : World} {d N y : Nat} {room : Int} {st : St} (h : Two W0 w d N y room st) : TwX W0 w d N y room st st (fun k => W0.heap.size ≤ k ∧ k < w.heap.size) := by
  obtain ⟨h0, Fd, Fy, h1, h2, h3, h4, h5⟩ := h
  exact ⟨h0, Fd, Fy, h1, h2, h3, h4, h5, h3, h4⟩

theorem TwX.two {W0 w : World} {d N y : Nat} {room : Int} {st : St} {U : Nat → Prop} (h : TwX W0 w d N y room st st U) : Two W0 w d N y room st := by
  obtain ⟨h0, Fd, Fy, h1, h2, h3, h4, h5, _, _⟩ := h
  exact ⟨h0, Fd, Fy, h1, h2, h3, h4, h5⟩

theorem TwX.below {W0 w w' : World} {d N y : Nat} {room : Int} {sd sy : St} {U : Nat → Prop} (h : TwX W0 w d N y room sd sy U) (hb : Below w.heap.size w w') : TwX W0 w' d N y room sd sy U := by
  obtain ⟨h0, Fd, Fy, h1, h2, h3, h4, h5, h6, h7⟩ := h
  have hs := hb.size
  refine ⟨h0.trans (hb.mono h0.size), Fd, Fy, h1.below hb, h2.below (fun k hk => (h4 k hk).2) hb, fun k hk => ⟨(h3 k hk).1, ?_⟩, fun k hk => ⟨(h4 k hk).1, ?_⟩, h5, h6, h7⟩
  · have := (h3 k hk).2; omega
  · have := (h4 k hk).2; omega

theorem TwX.mono {W0 w : World} {d N N' y : Nat} {room : Int} {sd sy : St} {U : Nat → Prop} (h : TwX W0 w d N y room sd sy U) (hn : N ≤ N') : TwX W0 w d N' y room sd sy U := by
  obtain ⟨h0, Fd, Fy, h1, h2, h3⟩ := h
  exact ⟨h0, Fd, Fy, h1.mono hn, h2, h3⟩

theorem TwX.rel {W0 w : World} {d N y : Nat} {room : Int} {sd sy : St} {U : Nat → Prop} (h : TwX W0 w d N y room sd sy U) : ∃ V, RelV V room sy := by
  obtain ⟨_, Fd, Fy, _, ⟨fa, fc, R, _, hV⟩, _⟩ := h
  exact ⟨_, hV⟩

/-- What U grows by. -/
def upU (U : Nat → Prop) (w w' : World) : Nat → Prop := fun k => U k ∨ (w.heap.size ≤ k ∧ k < w'.heap.size)

theorem gr_up {U F F' : Nat → Prop} {w w' : World} (h : Gr F F' w w') (hU : ∀ k, F k → U k) : Gr U (upU U w w') w w' ∧ ∀ k, F' k → upU U w w' k := by
  refine ⟨⟨⟨h.1.os, h.1.tape, h.1.output, h.1.size, fun k hk hn => h.1.block k hk (fun hf => hn (hU k hf))⟩, fun k hk => hk⟩, fun k hk => ?_⟩
  rcases h.2 k hk with h1 | h1
  · exact .inl (hU k h1)
  · exact .inr h1

theorem TwX.prog {W0 w w' : World} {d N N' y : Nat} {room : Int} {sy sd' : St} {U Fd Fy Fd' : Nat → Prop} (h0 : Below W0.heap.size W0 w) (h3 : ∀ k, Fd k → W0.heap.size ≤ k ∧ k < w.heap.size) (h4 : ∀ k, Fy k → W0.heap.size ≤ k ∧ k < w.heap.size) (h5 : ∀ k, Fd k → ¬ Fy k) (h6 : ∀ k, Fd k → U k) (h7 : ∀ k, Fy k → U k)
    (hy : DiskY w y Fy room sy) (hD : DiskS w' d Fd' N' sd') (hG : Gr Fd Fd' w w') : TwX W0 w' d N' y room sd' sy (upU U w w') ∧ Gr U (upU U w w') w w' := by
  obtain ⟨a1, a2, a3, a4, a5⟩ := Two.prog (d := d) (N := N') (N' := N') (st' := sy) h0 h3 h4 h5 hy hG
  obtain ⟨b1, b2⟩ := gr_up hG h6
  exact ⟨⟨a1, Fd', Fy, hD, a2, a3, a4, a5, b2, fun k hk => .inl (h7 k hk)⟩, b1⟩

theorem TwX.doc {W0 w w' : World} {d N y : Nat} {room : Int} {sd sy' : St} {U Fd Fy Fy' : Nat → Prop} (h0 : Below W0.heap.size W0 w) (h3 : ∀ k, Fd k → W0.heap.size ≤ k ∧ k < w.heap.size) (h4 : ∀ k, Fy k → W0.heap.size ≤ k ∧ k < w.heap.size) (h5 : ∀ k, Fd k → ¬ Fy k) (h6 : ∀ k, Fd k → U k) (h7 : ∀ k, Fy k → U k)
    (hd : DiskS w d Fd N sd) (hY : DiskY w' y Fy' room sy') (hG : Gr Fy Fy' w w') : TwX W0 w' d N y room sd sy' (upU U w w') ∧ Gr U (upU U w w') w w' := by
  obtain ⟨a1, a2, a3, a4, a5⟩ := Two.doc (y := y) (room := room) h0 h3 h4 h5 hd hG
  obtain ⟨b1, b2⟩ := gr_up hG h7
  exact ⟨⟨a1, Fd, Fy', a2, hY, a3, a4, a5, fun k hk => .inl (h6 k hk), b2⟩, b1⟩

/-- A block outside of U is another one. -/
theorem TwX.other {W0 w w' : World} {d N y : Nat} {room : Int} {sd sy : St} {U : Nat → Prop} (h : TwX W0 w d N y room sd sy U) (hW : Below W0.heap.size W0 w') (hs : w.heap.size ≤ w'.heap.size) (hk : ∀ k, U k → w'.heap[k]? = w.heap[k]?) : TwX W0 w' d N y room sd sy U := by
  obtain ⟨h0, Fd, Fy, h1, h2, h3, h4, h5, h6, h7⟩ := h
  refine ⟨hW, Fd, Fy, h1.other (fun k hk' => hk k (h6 k hk')), h2.other (fun k hk' => hk k (h7 k hk')), fun k hk => ⟨(h3 k hk).1, ?_⟩, fun k hk => ⟨(h4 k hk).1, ?_⟩, h5, h6, h7⟩
  · have := (h3 k hk).2; omega
  · have := (h4 k hk).2; omega

/-- Two changes, one of each disk, behind what is new. -/
theorem gr_two {U Fd Fd' Fy Fy' : Nat → Prop} {w wd w8 w9 : World} (hb : Below w.heap.size w wd) (h2 : Gr Fd Fd' wd w8) (h3 : Gr Fy Fy' w8 w9) (hd : ∀ k, Fd k → U k) (hy : ∀ k, Fy k → U k) : Gr U (upU U w w9) w w9 ∧ (∀ k, Fd' k → upU U w w9 k) ∧ ∀ k, Fy' k → upU U w w9 k := by
  have s1 := hb.size
  have s2 := h2.1.size
  have s3 := h3.1.size
  refine ⟨⟨⟨h3.1.os.trans (h2.1.os.trans hb.os), h3.1.tape.trans (h2.1.tape.trans hb.tape), h3.1.output.trans (h2.1.output.trans hb.output), by omega, fun k hk hn => ?_⟩, fun k hk => hk⟩, fun k hk => ?_, fun k hk => ?_⟩
  · exact (h3.1.block k (by omega) (fun hf => hn (hy k hf))).trans ((h2.1.block k (by omega) (fun hf => hn (hd k hf))).trans (hb.block k hk))
  · rcases h2.2 k hk with h | ⟨h, h'⟩
    · exact .inl (hd k h)
    · exact .inr ⟨by omega, by omega⟩
  · rcases h3.2 k hk with h | ⟨h, h'⟩
    · exact .inl (hy k h)
    · exact .inr ⟨by omega, by omega⟩
end Go.Proofs.Ytocfbokgbpaneaa
