/- dryrotref12.Encode. -/
import Derived.Test.YtcjhkpcnhnnjbaaDoorMf
import Derived.Test.YtcjhkpcnhnnjbaaDoorChL
import Derived.Test.YtcjhkpcnhnnjbaaDoorLabRefEnc
namespace Go.Proofs.YtcjhkpcnhnnjbaaDoor
open Go.RowKit Go.Joins
open Cd (Sam Sm canS encS samD SamOK IsPack BitsTab DbTab)
set_option linter.unusedVariables false
/-- What is asked of the document's bytes of samples (Cd.renc_yes of CodRefG). -/
def RefEncOK : Prop := ∀ (a : Option Addr) (len cap : Nat) (l : List Sam) (w : World), Sm w a len l → canS l = true →
  Calls Tryd.prog 32 #[.slice a len cap] w fun e w' => ∃ (v : Value) (zs : List Nat), e = .returned (.tuple #[v, .int .i64 0]) ∧ IsPack zs (encS l) ∧ w'.ownsRow w.heap.size 5 1 v zs.length (vb zs) ∧ Below w.heap.size w w'
theorem ownF_skip {w w' : World} {base e size n : Nat} {v : Value} {xs : List Value} (h : w.ownsRowF base e size v n xs) (hb : Below w.heap.size w w') : w'.ownsRowF base e size v n xs := by
  refine ⟨h.1, ?_⟩
  rcases h.2 with hn | ⟨g, cap, cur, fz, rfl, hbb, hgg, rest⟩
  · exact .inl hn
  · exact .inr ⟨g, cap, cur, fz, rfl, hbb, by rw [hb.block g (Array.getElem?_eq_some_iff.1 hgg).1]; exact hgg, rest⟩
/-- A row of bytes is not the box of a series. -/
theorem own_not {w : World} {base n bx : Nat} {v : Value} {xs : List Value} {c : Array Value} {fz : Nat × Nat} (h : w.ownsRow base 5 1 v n xs) (hx : w.heap[bx]? = some (.cells c 55 fz)) : some bx ≠ v.ownBlock := fun e => by
  rcases h.2 with ⟨rfl, _⟩ | ⟨g, cap, cur, rfl, hbb, hgg, rest⟩
  · cases e
  · simp [Value.ownBlock] at e
    subst e
    rw [hgg] at hx
    cases hx
theorem out_len {N n he pl : Nat} (h : n ≤ 2000000 * N) (hN : N ≤ 400000) (h1 : he ≤ 600) (h2 : pl ≤ 1900000) : n + 4 + (he + pl) ≤ 100000000000000 := by omega
set_option maxHeartbeats 4000000 in
set_option maxRecDepth 100000 in
theorem rchEncode_yes (HX : RefEncOK) (a : Option Addr) (len cap : Nat) (l : List Ser) (w : World) (h : Srs w a len l) (hc : canSr (l.map Ser.pl) = true) (hN : (allParts l).length ≤ 400000) :
    Calls Tryd.prog 11 #[.slice a len cap] w (EncS w l) := by
  obtain ⟨i0, hi, hz0, hz1, hz2⟩ := info_parts Tryd.info5
  have hlen := hidn h.1
  have hlm := h.2.1
  unfold maxLen at hlm
  have HC := hidn (rcanSr_any a len cap l w h)
  have hall := canSr_all hc
  have HCC := hidn hc
  have HXX := hidn HX
  clear hc HX
  go_enter Tryd.func11, Tryd.ntmps11
  go_wp2_with fail
  refine HC.out.mono ?_
  rintro e w0 ⟨rfl, b0⟩
  rw [HCC.out]
  clear HC
  go_wp2_with fail
  go_loopw [4, 17] (fun ov iv wr => ∃ (j : Nat) (v : Value) (zs : List Nat), j ≤ len ∧ iv = .int .i64 (j : Int) ∧ ov = v ∧ Hid (IsStream ((allParts (l.take j)).map Ser.pl) zs) ∧ Hid (zs.length ≤ 2000000 * (allParts (l.take j)).length) ∧ wr.ownsRow w.heap.size 5 1 v zs.length (vb zs) ∧ Below w.heap.size w wr)
    (fun _ iv _ => len - (intOf iv).toNat)
  case atStart => exact ⟨0, _, [], Nat.zero_le _, rfl, rfl, hidn rfl, hidn (Nat.zero_le _), World.ownsRow_nil _ _ _ _, b0⟩
  case round =>
    obtain ⟨j, v0, zs0, hj, rfl, rfl, hst0, hzl0, own0, hb⟩ := hrel
    by_cases hlt : j < len
    · have hlt2 : (j : Int) < (len : Int) := by omega
      obtain ⟨s, hs⟩ : ∃ s, l[j]? = some s := ⟨_, List.getElem?_eq_getElem (by rw [hlen.out]; exact hlt)⟩
      obtain ⟨b, off, rfl, hbk, c0, c1, hok⟩ := (h.below hb).at hs
      have hokw := h.2.2.2.1 s (List.mem_of_getElem? hs)
      have hcn := hall s (List.mem_of_getElem? hs)
      have HT : Hid (l.take (j + 1) = l.take j ++ [s]) := hidn (by rw [List.take_add_one, hs]; rfl)
      have HPL : Hid ((allParts (l.take j)).length + (s.sl + 19) / 20 ≤ 400000) := hidn (by
        have e2 : allParts l = allParts (l.take j) ++ (partsOf s ++ allParts (l.drop (j + 1))) := by
          rw [← List.append_assoc, ← allParts_snoc, ← HT.out]
          unfold allParts
          rw [← List.flatMap_append, List.take_append_drop]
        have e3 : (partsOf s).length = (s.sl + 19) / 20 := by simp [partsOf]
        rw [e2, List.length_append, List.length_append, e3] at hN
        omega)
      obtain ⟨wA, hwA⟩ : ∃ wA, wA = wr.alloc (.cells #[.slice s.la s.ll s.lc, .slice s.sa s.sl s.sc] 55) := ⟨_, rfl⟩
      have bA : Below wr.heap.size wr wA := by rw [hwA]; exact (Below.refl _ wr).alloc (Nat.le_refl _) _
      have qA : wA.heap[wr.heap.size]? = some (.cells #[.slice s.la s.ll s.lc, .slice s.sa s.sl s.sc] 55 (0, 0)) := by rw [hwA]; exact heap_alloc_new wr _
      have BA := hb.trans (bA.mono hb.size)
      have ownA := own_skip own0 bA
      have HWA := hidn hwA
      have hsl : s.sl ≤ 65535 := by
        have := ((Cd.canS_iff s.sm).1 hcn.2).1
        rw [hokw.2.2.1.1] at this
        exact this
      obtain ⟨bx, hbx⟩ : ∃ bx, bx = wr.heap.size := ⟨_, rfl⟩
      rw [← hbx] at qA
      have HBX := hidn hbx
      clear hwA hbx own0
      go_wp2_with fail
      rw [← HWA.out, ← HBX.out]
      go_loopw [4, 7] (fun ov fv W1 => ∃ (k fr : Nat) (v : Value) (zs : List Nat), Hid (fr = 20 * k) ∧ fr < s.sl + 20 ∧ fv = .int .i64 (fr : Int) ∧ ov = v ∧ Hid (IsStream ((allParts (l.take j) ++ (List.range k).map (partAt s)).map Ser.pl) zs) ∧ Hid (zs.length ≤ 2000000 * ((allParts (l.take j)).length + k)) ∧ W1.ownsRow w.heap.size 5 1 v zs.length (vb zs) ∧ W1.heap[bx]? = some (.cells #[.slice s.la s.ll s.lc, .slice s.sa s.sl s.sc] 55 (0, 0)) ∧ Below w.heap.size w W1)
        (fun _ fv _ => s.sl + 20 - (intOf fv).toNat)
      case atStart => exact ⟨0, 0, _, zs0, hidn rfl, by omega, rfl, rfl, hidn (by simpa using hst0.out), hidn (by simpa using hzl0.out), ownA, qA, BA⟩
      case round =>
        obtain ⟨k, fr, v, zs, hfr, hfl, rfl, rfl, hst, hzl, own, qx, hB⟩ := hrel
        have d0 : wr.cell? ⟨bx, 0, none⟩ = some (.slice s.la s.ll s.lc) := cell_of_row _ _ _ _ _ _ qx
        have d1 : wr.cell? ⟨bx, 1, none⟩ = some (.slice s.sa s.sl s.sc) := cell_of_row _ _ _ _ _ _ qx
        by_cases hl2 : fr < s.sl
        · have hl3 : (fr : Int) < (s.sl : Int) := by omega
          have hk20 : 20 * k < s.sl := by have := hfr.out; omega
          have hpok := partAt_ok hokw k hk20
          have hpcs : canS (partAt s k).sm = true := canS_part hcn.2
          obtain ⟨sb, so, hsa, _, _⟩ := hokw.2.2.1.pos (by omega)
          have HQ0 := hidn qx
          rw [hsa] at d1 qx
          obtain ⟨te, hte⟩ : ∃ te : Nat, te = min (fr + 20) s.sl := ⟨_, rfl⟩
          have hsc := hokw.2.2.2.1
          have t1 : (fr : Int) ≤ (te : Int) := by omega
          have t2 : (te : Int) ≤ (s.sc : Int) := by omega
          have t3 : fr ≤ te := by omega
          have t4 : te ≤ s.sc := by omega
          have t5 : ¬ s.sc = fr := by omega
          have t6 : ¬ (s.sc - fr = 0) := by omega
          have hpa : (partAt s k).sa = some ⟨sb, so + fr * 2, none⟩ := by
            show s.sa.map _ = _
            rw [hsa, Option.map_some, ladd_none, ← hfr.out]
          have hpl : (partAt s k).sl = te - fr := by
            show min 20 (s.sl - 20 * k) = _
            rw [← hfr.out]; omega
          have hSmP : ∀ W, Below w.heap.size w W → Sm W (some ⟨sb, so + fr * 2, none⟩) (te - fr) (partAt s k).sm := fun W hW => by
            have := hpok.2.2.1.below hW
            rw [hpa, hpl] at this
            exact this
          have HSMP := hidn hSmP
          obtain ⟨pm, hpm⟩ : ∃ pm, pm = (partAt s k).sm := ⟨_, rfl⟩
          rw [← hpm] at hpcs HSMP
          have HPM := hidn hpm
          have h8 : (encN s.ls).length ≤ 600 := by
            have h1 := encTo_len s.ls hcn.1 s.ls.length (Nat.le_refl _)
            have h2 := ((canOK_iff s.ls).1 hcn.1).2.1
            have h3 : (encN s.ls).length ≤ 1 + 66 * s.ls.length := h1
            omega
          have HE := hidn (renc_yes s.la s.ll s.lc s.ls wr (hokw.1.below hB) hokw.2.1 hcn.1)
          obtain ⟨he, hhe⟩ : ∃ he, he = (encN s.ls).length := ⟨_, rfl⟩
          rw [← hhe] at h8 HE
          have HHE := hidn hhe
          have HTE := hidn hte
          obtain ⟨m1, m2⟩ := min_te fr s.sl te HTE.out (by omega)
          have HM1 := hidn m1
          have HM2 := hidn m2
          clear hhe hte hpm hsa hSmP hpa hpl hpok m1 m2
          go_wp2_with fail
          refine HE.out.mono ?_
          rintro e w1 ⟨g1, c1, rfl, hg1, hc1, hcm1, hB1, ownB, b1⟩
          have hbxl : bx < wr.heap.size := (Array.getElem?_eq_some_iff.1 qx).1
          have qx1 := (b1.block _ hbxl).trans qx
          have e1 : w1.cell? ⟨bx, 1, none⟩ = some (.slice (some ⟨sb, so, none⟩) s.sl s.sc) := cell_of_row _ _ _ _ _ _ qx1
          have B1 := hB.trans (b1.mono hB.size)
          have HB1 := hidn hB1
          have HOB := hidn ownB
          have HXE := hidn (HXX.out (some ⟨sb, so + fr * 2, none⟩) (te - fr) (s.sc - fr) pm w1 (HSMP.out w1 B1) hpcs)
          have m1 := HM1.out
          have m2 := HM2.out
          clear hB1 ownB d0 d1
          go_wp2_with fail
          refine HXE.out.mono ?_
          rintro e w2 ⟨v2, p, rfl, hp, own2, b2⟩
          have hpl := pack_len hp ((Cd.canS_iff pm).1 hpcs).1
          obtain ⟨pl, hpe⟩ : ∃ pl, pl = p.length := ⟨_, rfl⟩
          rw [← hpe] at own2 hpl
          have HPE := hidn hpe
          have HPP := hidn hp
          obtain ⟨g2, c2, rfl, hg2⟩ : ∃ g c, v2 = .slice (some ⟨g, 0, none⟩) pl c ∧ w1.heap.size ≤ g := by
            rcases own2.2 with ⟨_, h0⟩ | ⟨g, c, _, h1, h2, _⟩
            · omega
            · exact ⟨g, c, h1, h2⟩
          have hs1 : wr.heap.size ≤ w1.heap.size := b1.size
          have hs2 : w1.heap.size ≤ w2.heap.size := b2.size
          have hpc := own2.cells (g := g2) rfl
          obtain ⟨M, hM⟩ : ∃ M, M = he + pl := ⟨_, rfl⟩
          have hww : IntKind.u64.wrap (M : Int) = (M : Int) := by rw [IntKind.wrap_u64]; omega
          obtain ⟨v3, w3, hr3, own3, gr3, _⟩ := run_append_ownF (P := Tryd.prog) w2 wr.heap.size 24 24 5 i0 (.int .u8 0) 1 1 Tryd.underlying24 hi hz0 hz1 hz2 rfl (by decide) (.slice (some ⟨g1, 0, none⟩) he c1) he (vb (encN s.ls)) (ownF_skip (by rw [HHE.out]; rw [HHE.out] at HOB; exact HOB.out) b2) ⟨g2, 0, none⟩ pl c2 (vb p) (by rw [HPE.out]; simp [vb]) hpc (vb_cell p) (by unfold maxLen; omega) (by omega) (by omega)
          rw [← hM] at own3
          obtain ⟨g3, c3, rfl, hg3, hg3l⟩ : ∃ g c, v3 = .slice (some ⟨g, 0, none⟩) M c ∧ wr.heap.size ≤ g ∧ g < w3.heap.size := by
            rcases own3.2 with ⟨_, h0⟩ | ⟨g, c, _, _, h1, h2, h3, _⟩
            · omega
            · exact ⟨g, c, h1, h2, (Array.getElem?_eq_some_iff.1 h3).1⟩
          have b3 : Below wr.heap.size w2 w3 := (Below.refl _ w2).grown gr3 (by omega) (fun k hk => by simp [Value.ownBlock] at hk; omega)
          have HR3 := hidn hr3
          have BB3 : Below wr.heap.size wr w3 := (b1.trans (b2.mono hs1)).trans b3
          have HO3 := hidn own3
          have HPUT := hidn (refPut_any M 4 4 w3 (by omega) (.inr (.inl ⟨by decide, by decide, rfl⟩)))
          have HQX := hidn qx
          have HM := hidn hM
          clear hpe hp own2 hr3 own3 gr3 hpc b2 b1 b3 e1 qx1 qx m1 m2 hM HXE HE HM1 HM2 HOB HB1
          go_wp2_with (at_builtin; refine wpList_app_run2 rfl _ _ 24 24 rfl rfl (.slice (some ⟨g1, 0, none⟩) he c1) _ _ rfl rfl HR3.out ?_; clear HR3)
          refine HPUT.out.mono ?_
          rintro e w4 ⟨rfl, own4, b4⟩
          have BB4 : Below wr.heap.size wr w4 := BB3.trans (b4.mono BB3.size)
          have hBw : w.heap.size ≤ w4.heap.size := Nat.le_trans hB.size BB4.size
          have hrw : ∀ k, u4.ownBlock = some k → k < wr.heap.size := fun k hk => (own.lt k hk).2
          have oo := own_skip own BB4
          have qx4 := (BB4.block _ hbxl).trans HQ0.out
          have hbne := own_not oo qx4
          obtain ⟨n, hn⟩ : ∃ n, n = zs.length := ⟨_, rfl⟩
          have HNZ := hidn hn
          have hnn : n + 4 + (he + pl) ≤ 100000000000000 := out_len (N := (allParts (l.take j)).length + k) (by rw [hn]; exact hzl.out) (by have := HPL.out; omega) h8 (by omega)
          obtain ⟨g5, c5, w5, hr5, s5, z5, k5, f5⟩ := (Bld.start oo).app hBw (putB M 4) ⟨w3.heap.size, 0, none⟩ 4 (by rw [putB_length]; decide) (by rw [putB_length]; omega) (own4.cells (g := w3.heap.size) rfl)
          rw [putB_length, ← hn] at hr5 s5
          have hs3 : w3.heap.size ≤ w4.heap.size := b4.size
          have hEP : (encN s.ls ++ p).length = M := by rw [List.length_append, ← HHE.out, ← HPE.out, HM.out]
          have hC5 : ∀ jj u, (vb (encN s.ls ++ p))[jj]? = some u → w5.cell? ((⟨g3, 0, none⟩ : Addr).add jj) = some u := fun jj u hj => by
            have h1 := (ownF_skip HO3.out b4).cells (g := g3) rfl jj u (by rw [← vb_app]; exact hj)
            rw [← h1, ladd_none]
            exact World.cell?_of_block (k5 g3 (by omega) (fun e => by have := hrw g3 e.symm; omega))
          obtain ⟨g6, c6, w6, hr6, s6, z6, k6, f6⟩ := s5.app hBw (encN s.ls ++ p) ⟨g3, 0, none⟩ c3 (by rw [hEP, HM.out]; omega) (by rw [hEP, List.length_append, putB_length, ← hn, HM.out]; omega) hC5
          rw [hEP, List.length_append, putB_length, ← hn] at hr6 s6
          have HR5 := hidn hr5
          have HR6 := hidn hr6
          have HZ : Hid (zs ++ putB M 4 ++ (encN s.ls ++ p) = zs ++ chunkB s.ls p) := hidn (by
            unfold chunkB
            rw [← HHE.out, ← HPE.out, ← HM.out]
            simp only [List.append_assoc])
          have HO6 : Hid (w6.ownsRow w.heap.size 5 1 (.slice (some ⟨g6, 0, none⟩) (n + 4 + M) c6) (zs ++ chunkB s.ls p).length (vb (zs ++ chunkB s.ls p))) := hidn (by
            have := s6.own
            rw [HZ.out] at this
            exact this)
          have HQ6 := hidn ((s6.kep bx (Nat.lt_of_lt_of_le hbxl BB4.size) hbne).trans qx4)
          have HB6 := hidn (hB.trans ((BB4.mono hB.size).trans s6.bel))
          have hST : Hid (IsStream ((allParts (l.take j) ++ (List.range (k + 1)).map (partAt s)).map Ser.pl) (zs ++ chunkB s.ls p)) := hidn (by
            rw [parts_step, ← List.append_assoc, List.map_append, show [partAt s k].map Ser.pl = [(s.ls, pm)] from by rw [HPM.out]; rfl]
            exact IsStream.snoc HPP.out hst.out)
          have hZL : Hid ((zs ++ chunkB s.ls p).length ≤ 2000000 * ((allParts (l.take j)).length + (k + 1))) := hidn (by
            have h1 := chunkB_len hcn.1 hpcs HPP.out
            have h2 := hzl.out
            rw [List.length_append]
            omega)
          clear hr5 hr6 s5 s6 k5 k6 f5 f6 z5 z6 hrw oo hC5 own4 b4 hn HPUT HZ hbne qx4 own
          go_wp2_with (at_builtin; first | (refine wpList_app_run2 rfl _ _ 24 24 rfl rfl u4 _ _ rfl rfl HR5.out ?_; clear HR5) | (refine wpList_app_run2 rfl _ _ 24 24 rfl rfl (.slice (some ⟨g5, 0, none⟩) (n + 4) c5) _ _ rfl rfl HR6.out ?_; clear HR6))
          go_roundw
          case rel => exact ⟨k + 1, fr + 20, _, zs ++ chunkB s.ls p, hidn (by rw [hfr.out]; omega), by omega, by simp, rfl, hST, hZL, HO6.out, HQ6.out, HB6.out⟩
          case measure => simp [intOf]; omega
        · have hl3 : ¬ (fr : Int) < (s.sl : Int) := by omega
          have hkk : k = (s.sl + 19) / 20 := by have := hfr.out; omega
          have hP : Hid (allParts (l.take j) ++ (List.range k).map (partAt s) = allParts (l.take (j + 1))) := hidn (by
            rw [HT.out, allParts_snoc, hkk]; rfl)
          have hPl : Hid ((allParts (l.take j)).length + k = (allParts (l.take (j + 1))).length) := hidn (by
            rw [← hP.out, List.length_append, List.length_map, List.length_range])
          go_wp2_with fail
          go_roundw
          case rel => exact ⟨j + 1, _, zs, by omega, by simp, rfl, hidn (by rw [← hP.out]; exact hst.out), hidn (by rw [← hPl.out]; exact hzl.out), own, hB⟩
          case measure => simp [intOf]; omega
    · have hlt2 : ¬ (j : Int) < (len : Int) := by omega
      have hjl : l.take j = l := List.take_of_length_le (by rw [hlen.out]; omega)
      rw [hjl] at hst0 hzl0
      have HF : Hid (EncS w l (.returned (.tuple #[u4, .int .i64 0])) wr) := hidn ⟨_, zs0, rfl, hst0.out, own0, hzl0.out, hb⟩
      go_wp2_with fail
      exact bodyPost_ret (v := .tuple #[u4, .int .i64 0]) (by simp [results, Tryd.results11, go_sem]) rfl HF.out
end Go.Proofs.YtcjhkpcnhnnjbaaDoor
