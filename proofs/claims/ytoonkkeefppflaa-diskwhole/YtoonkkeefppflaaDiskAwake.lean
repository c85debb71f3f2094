/- dryrotlaw03.awake is true. -/
import Derived.Test.YtoonkkeefppflaaRepA
import Derived.Test.YtoonkkeefppflaaDiskWriteN
import Derived.Test.YtoonkkeefppflaaDiskCrashD
import Derived.Test.YtoonkkeefppflaaDiskRead
namespace Go.Proofs.Ytoonkkeefppflaa
open Go.RowKit Go.Maps
set_option linter.unusedVariables false
set_option maxHeartbeats 1000000 in
theorem bytesEqual_same (w : World) (a b : Option Addr) (n ca cb : Nat) (zs : List Nat) (ha : Bs w a n zs) (hb : Bs w b n zs) :
    Calls Try.prog 33 #[.slice a n ca, .slice b n cb] w fun e w' => e = .returned (.bool true) ∧ Below w.heap.size w w' := by
  have h1 := ha.str (cap := ca)
  have h2 := hb.str (cap := cb)
  have HA := hidy ha
  have HB := hidy hb
  clear ha hb
  generalize strB zs = st at *
  go_enter Try.func33, Try.ntmps33
  go_wp2
  go_ret
  exact ⟨rfl, Below.refl _ _⟩
def nmA : ByteArray := ⟨#[97]⟩
set_option maxHeartbeats 2000000 in
set_option maxRecDepth 100000 in
theorem awake3_any (w : World) :
    Calls Try.prog 15 #[] w fun e w' => e = .returned (.bool true) ∧ Below w.heap.size w w' := by
  have hpn := fun (wx : World) (p : Option Addr) => run_eql_pointer_nil (P := Try.prog) wx 24 p (by kernel_rfl)
  obtain ⟨zs, hzs⟩ : ∃ zs, zs = List.replicate 128 7 := ⟨_, rfl⟩
  have HZ := hidy hzs
  clear hzs
  go_enter Try.func15, Try.ntmps15
  go_wp2_with fail
  refine (new_any _ 3 (by omega)).mono ?_
  rintro e w1 ⟨rfl, hD1, hb1, hs1⟩
  have HD1 := hidy hD1
  have HS1 := hidy hs1
  have HB1 := hidy hb1
  clear hD1 hs1 hb1
  go_wp2_with fail
  have hb1' : Below w1.heap.size w1 (w1.alloc (.cells #[.int .u8 7] 5)) := (Below.refl _ _).alloc (Nat.le_refl _) _
  have HB1' := hidy hb1'
  have HBA := hidy (HB1.out.trans (hb1'.mono HB1.out.size))
  clear hb1'
  refine (repeat7 zs HZ _ w1.heap.size (heap_alloc_new _ _)).mono ?_
  rintro e w2 ⟨b, rfl, hbge, hblt, hBs, hb2⟩
  obtain ⟨F0, hF0⟩ : ∃ F0 : Nat → Prop, F0 = fun k => w.heap.size ≤ k ∧ k < w.heap.size + 2 := ⟨_, rfl⟩
  rw [← hF0] at HD1
  have HD2 := hidy ((HD1.out.below HB1'.out).below hb2)
  have hge0 : ∀ k, F0 k → w.heap.size ≤ k := by intro k hk; rw [hF0] at hk; exact hk.1
  have hlt0 : ∀ k, F0 k → k < w2.heap.size := by
    intro k hk; rw [hF0] at hk
    have := hb2.size
    rw [World.size_alloc] at this
    have := HS1.out
    have := hk.2
    omega
  have hBF : BsF F0 w2 (some ⟨b, 0, none⟩) 128 zs := ⟨hBs, fun x hx _ hF => by
    cases hx
    rw [hF0] at hF
    rw [World.size_alloc] at hbge
    have := HS1.out
    have h2 : b < w.heap.size + 2 := hF.2
    omega⟩
  have HBF := hidy hBF
  have HGE := hidy hge0
  have HLT := hidy hlt0
  have HB2 := hidy (HBA.out.trans (hb2.mono HBA.out.size))
  clear hbge hblt hBs hb2 hF0 hge0 hlt0 hBF HS1 HBA HB1' HD1 HB1
  go_wp2_with fail
  refine (write_new _ _ F0 0 (fun _ => []) 3 (-1) HD2.out nmA (by decide) 0 0 (hidy rfl) rfl b 0 128 zs HBF.out (by omega) (by omega) (by omega) (by omega) (by decide) (by omega) (by omega)).mono ?_
  rintro e w3 ⟨rfl, F3, hD3, hG3⟩
  obtain ⟨M3, hM3⟩ : ∃ M3, M3 = upd (fun _ => []) nmA.data.toList ([] ++ [zeroE.wrote zs]) := ⟨_, rfl⟩
  have HD3 : Hid (DiskOf w3 _ F3 1 M3 2 (-1)) := hidy (by rw [hM3]; exact hD3)
  have HM3 : Hid (M3 nmA.data.toList = [zeroE.wrote zs]) := hidy (by rw [hM3, upd_same]; rfl)
  have HBF3 := hidy (HBF.out.gr hG3)
  have HLT3 := hidy (hG3.lt HLT.out)
  have HGE3 := hidy (hG3.ge HB2.out.size HGE.out)
  have HB3 := hidy (HB2.out.trans (hG3.1.below HB2.out.size HGE.out))
  clear hD3 hG3 hM3 HD2 HBF HGE HLT HB2
  go_wp2_with fail
  refine (sync_disk _ _ F3 1 M3 2 (-1) HD3.out nmA (by decide) (by rw [HM3.out]; simp) (by omega) (by omega) (by omega)).mono ?_
  rintro e w4 ⟨rfl, hD4, hG4⟩
  obtain ⟨M4, hM4⟩ : ∃ M4, M4 = upd M3 nmA.data.toList ((M3 nmA.data.toList).map Ext.synced) := ⟨_, rfl⟩
  have HD4 : Hid (DiskOf w4 _ F3 1 M4 2 (-1)) := hidy (by rw [hM4]; exact hD4)
  have HM4 : Hid (M4 nmA.data.toList = [(zeroE.wrote zs).synced]) := hidy (by rw [hM4, upd_same, HM3.out]; rfl)
  have HBF4 := hidy (HBF3.out.gr hG4)
  have HLT4 := hidy (hG4.lt HLT3.out)
  have HB4 := hidy (HB3.out.trans (hG4.1.below HB3.out.size HGE3.out))
  clear hD4 hG4 hM4 HD3 HM3 HBF3 HLT3 HB3
  go_wp2_with fail
  refine (crash_disk _ _ F3 1 M4 2 (-1) HD4.out HLT4.out none 0 0 (fun _ _ => 0) (firstKept_none _ none 0)).mono ?_
  rintro e w5 ⟨rfl, hD5, hG5⟩
  obtain ⟨M5, hM5⟩ : ∃ M5 : List UInt8 → List Ext, M5 = fun s => fellL (fun _ => 0) (M4 s) := ⟨_, rfl⟩
  have HD5 : Hid (DiskOf w5 _ F3 1 M5 2 (-1)) := hidy (by rw [hM5]; exact hD5)
  have HM5 : Hid (M5 nmA.data.toList = [(zeroE.wrote zs).synced]) := hidy (by rw [hM5]; show fellL (fun _ => 0) (M4 nmA.data.toList) = _; rw [HM4.out]; rfl)
  have HBF5 := hidy (HBF4.out.gr hG5)
  have HB5 := hidy (HB4.out.trans (hG5.1.below HB4.out.size HGE3.out))
  clear hD5 hG5 hM5 HD4 HM4 HBF4 HLT4 HB4
  go_wp2_with fail
  refine (diskRead_some _ _ F3 1 M5 2 (-1) HD5.out nmA (by decide) 0 1 0 (hidy (by rw [HM5.out]; rfl)) (by omega) rfl zs (zeroE.wrote zs).synced (hidy (by rw [HM5.out]; rfl)) (hidy (by simp [Ext.synced, Ext.wrote, Ext.rd]))).mono ?_
  rintro e w6 ⟨b6, rfl, _, hB6, hb6⟩
  have HB6 := hidy hB6
  have HBb := hidy (HBF5.out.1.below hb6)
  have HBE := hidy (HB5.out.trans (hb6.mono HB5.out.size))
  clear hB6 hb6
  go_wp2_with fail
  refine (bytesEqual_same _ _ _ 128 128 128 zs HB6.out HBb.out).mono ?_
  rintro e w7 ⟨rfl, b7⟩
  have HF := hidy (HBE.out.trans (b7.mono HBE.out.size))
  clear b7
  go_wp2
  go_ret
  exact ⟨rfl, HF.out⟩
end Go.Proofs.Ytoonkkeefppflaa
