/- Stripes: Store on a disk that has none of the four files. -/
import Derived.Test.YtmoeoffjlicdjacDoorStrStore
namespace Go.Proofs.YtmoeoffjlicdjacDoor
open Go.RowKit Go.Maps
set_option linter.unusedVariables false

/-- The disk's files once a text is stored, the first k of the stripe's four. -/
def storedS (M : List UInt8 → List Ext) (f0 f1 f2 f3 : ByteArray) (g : Nat) (zs : List Nat) (E : Nat) : Nat → List UInt8 → List Ext
  | 0 => M
  | k + 1 => upd (storedS M f0 f1 f2 f3 g zs E k) (nameF f0 f1 f2 f3 k).data.toList ((fileS (nameF f0 f1 f2 f3 k) g zs k E).map Ext.synced)

set_option maxHeartbeats 2000000 in
theorem sstoreAll_new (w : World) (d : Nat) (F : Nat → Prop) (N : Nat) (M : List UInt8 → List Ext) (free : Int) (g : Nat) (zs : List Nat) (E : Nat) (h : DiskOf w d F N M free (-1)) (hS : Sound5 w F) (hM0 : M [] = []) (s f0 f1 f2 f3 : ByteArray) (hs : s.size ≤ 1000) (e0 : Hid (f0 = sf0 s)) (e1 : Hid (f1 = sf1 s)) (e2 : Hid (f2 = sf2 s)) (e3 : Hid (f3 = sf3 s))
    (HNM : Hid (∀ k, k < 4 → nameB (nameF f0 f1 f2 f3 k).data.toList = true)) (HMN : Hid (∀ k, k < 4 → M (nameF f0 f1 f2 f3 k).data.toList = [])) (HSM : Hid (∀ k, k < 4 → storedS M f0 f1 f2 f3 g zs E k (nameF f0 f1 f2 f3 k).data.toList = []))
    (hg : g ≤ 4611686018427387904) (a : Option Addr) (len cap : Nat) (hBz : BsF F w a len zs) (hcap : len ≤ cap) (hlen : len ≤ 100000) (HE : Hid (E = grpB len)) (hN : N + 4 * E < maxLen) (hfr : (4 * E : Int) ≤ free) (hfr2 : free ≤ 1000000) :
    Calls Tryd.prog 18 #[.pointer (some ⟨d, 0, none⟩), .string s, .int .i64 g, .slice a len cap] w fun e w' => e = .returned (.int .i64 0) ∧ ∃ F', DiskOf w' d F' (N + 4 * E) (storedS M f0 f1 f2 f3 g zs E 4) (free - 4 * E) (-1) ∧ Gr F F' w w' := by
  have HD := hidn h
  have HS := hidn hS
  have HBz := hidn hBz
  have hHv := fun wx => files_any wx s hs
  rw [← e0.out, ← e1.out, ← e2.out, ← e3.out] at hHv
  have hsz : ∀ k, k < 4 → (nameF f0 f1 f2 f3 k).size ≤ maxLen := fun k hk => by have := (name_size (HNM.out k hk)).2; unfold maxLen; omega
  have HDR : Hid (∀ wx, DiskOf wx d F N M free (-1) → _) := hidn (fun (wx : World) (hx : DiskOf wx d F N M free (-1)) => sdrop_none wx d F N M free (-1) hx hM0 s f0 f1 f2 f3 hs e0 e1 e2 e3 (hidn (HMN.out 0 (by omega))) (hidn (HMN.out 1 (by omega))) (hidn (HMN.out 2 (by omega))) (hidn (HMN.out 3 (by omega))) (hsz 0 (by omega)) (hsz 1 (by omega)) (hsz 2 (by omega)) (hsz 3 (by omega)))
  have hg1 : decide ((g : Int) < 0) = false := decide_eq_false (by omega)
  have hg2 : decide ((4611686018427387904 : Int) < (g : Int)) = false := decide_eq_false (by omega)
  have hg3 : decide (4611686018427387904 < g) = false := decide_eq_false (by omega)
  clear hBz hsz
  go_enter Tryd.func18, Tryd.ntmps18
  go_wp2_with fail
  refine (stripeMade _ d F N M free (-1) HD.out hM0).mono ?_
  rintro e w1 ⟨rfl, hb1⟩
  go_wp2_with fail
  refine (HDR.out _ (HD.out.below hb1)).mono ?_
  rintro e w3 ⟨rfl, hb3⟩
  have hb13 : Below w.heap.size w w3 := hb1.trans (hb3.mono hb1.size)
  clear hb1 hb3
  go_wp2_with fail
  refine (hHv _).mono ?_
  rintro e w4 ⟨rfl, hb4⟩
  have hb14 : Below w.heap.size w w4 := hb13.trans (hb4.mono hb13.size)
  have HB14 := hidn hb14
  have HLT : Hid (∀ k, F k → k < w.heap.size) := hidn hS.lt
  clear hb13 hb4 hb14 hHv h hS HDR
  go_wp2_with fail
  obtain ⟨sb, hsb⟩ : ∃ sb, sb = w4.heap.size := ⟨_, rfl⟩
  obtain ⟨w5, hw5⟩ : ∃ w5, w5 = w4.alloc (.cells #[.pointer (some ⟨d, 0, none⟩), .string f0, .string f1, .string f2, .string f3, .int .i64 (g : Int)] 83) := ⟨_, rfl⟩
  have hb5 : Below w.heap.size w w5 := by rw [hw5]; exact HB14.out.trans ((Below.refl _ _).alloc HB14.out.size _)
  have HA5 : Hid (StripeAt w5 sb d f0 f1 f2 f3 g) := hidn (by rw [hw5, hsb]; exact heap_alloc_new _ _)
  have HNS : Hid (¬ F sb) := hidn (fun hF => by have := HLT.out _ hF; have := HB14.out.size; omega)
  have HD5 := hidn (HD.out.below hb5)
  have HS5 := hidn (HS.out.below hb5)
  have HBz5 := hidn (HBz.out.below hb5)
  have HG5 := hidn (Gr.of (Keeps.of_below (F := F) hb5))
  have HLT5 := hidn HA5.out.lt
  rw [← hw5, ← hsb]
  clear hw5 hsb hb5 HB14
  go_loopw [33] (fun iv wr => ∃ (k : Nat) (F' : Nat → Prop), k ≤ 4 ∧ iv = .int .i64 k ∧ Hid (Gr F F' w5 wr) ∧ Hid (DiskOf wr d F' (N + k * E) (storedS M f0 f1 f2 f3 g zs E k) (free - (k * E : Nat)) (-1))) (fun iv _ => 4 - (intOf iv).toNat)
  case atStart => exact ⟨0, F, by omega, rfl, hidn (Gr.refl _ _), by rw [Nat.zero_mul, Nat.add_zero, show free - ((0 : Nat) : Int) = free by omega]; exact HD5⟩
  case round =>
    obtain ⟨k, F', hk, rfl, HGk, HDk⟩ := hrel
    by_cases hlt : k < 4
    · have hlt' : decide (k < 4) = true := by simpa using hlt
      have hlt2 : decide ((k : Int) < 4) = true := by simpa using (by omega : (k : Int) < 4)
      have HKL := hidn hlt
      have HU : Hid (k * E ≤ 3 * E ∧ (k + 1) * E = k * E + E) := hidn ⟨Nat.mul_le_mul_right _ (by omega), Nat.succ_mul _ _⟩
      clear hlt
      go_wp2_with fail
      obtain ⟨u, hu⟩ : ∃ u, u = k * E := ⟨_, rfl⟩
      have hU := HU.out
      have hDk := HDk.out
      rw [← hu] at hU hDk
      refine (sstore_new _ d g F' (N + u) _ (free - u) hDk (HS5.out.gr HGk.out) sb k f0 f1 f2 f3 (nameF f0 f1 f2 f3 k) (HA5.out.gr HGk.out HNS.out) (HGk.out.not HLT5.out HNS.out) HKL.out (hidn rfl) (HNM.out k HKL.out) (HSM.out k HKL.out) hg a len cap zs (HBz5.out.gr HGk.out) hcap hlen E HE (by omega) (by omega) (by omega)).mono ?_
      rintro e w6 ⟨rfl, F6, hD6, hG6⟩
      have HG6 := hidn (HGk.out.trans hG6)
      have HD6 : Hid (DiskOf w6 d F6 (N + (k + 1) * E) (storedS M f0 f1 f2 f3 g zs E (k + 1)) (free - ((k + 1) * E : Nat)) (-1)) := hidn (by
        rw [hU.2, ← Nat.add_assoc, show free - ((u + E : Nat) : Int) = free - u - E by omega]
        exact hD6)
      clear hD6 hG6 hDk hu hU
      go_wp2
      go_roundw
      case rel => exact ⟨k + 1, F6, HKL.out, by go_num, HG6, HD6⟩
      case measure => simp [intOf]; have := HKL.out; omega
    · obtain rfl : k = 4 := by omega
      go_wp2
      go_ret
      have h1 := HDk.out
      rw [show free - ((4 * E : Nat) : Int) = free - 4 * (E : Int) by omega] at h1
      exact ⟨rfl, F', h1, HG5.out.trans HGk.out⟩
end Go.Proofs.YtmoeoffjlicdjacDoor
