/- dryrotlaw04.awake; wrappers of Frame and Open for the laws' walks. -/
import Derived.Test.YtnpnldibhcncaacDoorOpenAny
import Derived.Lib.SlBytesConst
namespace Go.Proofs.YtnpnldibhcncaacDoor
open Go.RowKit
set_option linter.unusedVariables false

theorem bs_new (w : World) (zs : List Nat) (fr : Nat × Nat) (hz : ∀ x ∈ zs, x < 256) (hm : zs.length ≤ maxLen) : Bs (w.alloc (.cells (vb zs).toArray 5 fr)) (some ⟨w.heap.size, 0, none⟩) zs.length zs := by
  refine ⟨rfl, hm, hz, (fun h => by simp at h), fun x hx j hj => ?_⟩
  cases hx
  rw [add_none, World.cell?_alloc_mark, Nat.zero_add]
  simpa using vb_getD zs j hj

/-- Frame of what may be: its bytes, in new memory. -/
theorem frame_bs (s : ByteArray) (I G : Int) (i g : Nat) (hI : I = i) (hG : G = g) (a : Option Addr) (len cap : Nat) (p : List Nat) (w : World) (hB : Bs w a len p) (hT : CrcTab w) (hsm : s.size ≤ maxLen) (hi : i ≤ 2147483647) (hg : g ≤ 4611686018427387904) (hl : len ≤ 106) (fz : List Nat) (HF : Hid (fz = frameB (nums s) i g p)) :
    Calls Tryd.prog 6 #[.string s, .int .i64 I, .int .i64 G, .slice a len cap] w fun e w' => ∃ b, e = .returned (.tuple #[.slice (some ⟨b, 0, none⟩) 128 128, .int .i64 0]) ∧ w.heap.size ≤ b ∧
      w'.heap[b]? = some (.cells (vb fz).toArray 36 (0, 0)) ∧ Bs w' (some ⟨b, 0, none⟩) 128 fz ∧ Below w.heap.size w w' := by
  subst hI; subst hG
  have hp : p.length ≤ 106 := by rw [hB.1]; exact hl
  refine (frame_yes s i g a len cap p w hB hT hsm (decide_eq_true ⟨by omega, by omega, by omega, by omega, hl⟩)).mono ?_
  rintro e w' ⟨b, he, hb, hblk, hbel⟩
  rw [← HF.out] at hblk
  have hl : fz.length = 128 := by rw [HF.out]; exact frameB_length _ _ _ _ hp
  have hz : ∀ x ∈ fz, x < 256 := by rw [HF.out]; exact frameB_lt _ _ _ _ hp hB.2.2.1
  have h := bs_of_block hblk (by rw [hl]; decide) hz
  rw [hl] at h
  exact ⟨b, he, hb, hblk, h, hbel⟩
theorem open_yes (s : ByteArray) (I : Int) (b off cap : Nat) (zs : List Nat) (w : World) (hB : Bs w (some ⟨b, off, none⟩) 128 zs) (hcap : 128 ≤ cap) (hT : CrcTab w) (hsm : s.size ≤ maxLen) (p : List Nat) (n len : Nat) (hl : p.length = len) (hz : ∀ x ∈ p, x < 256)
    (HO : Hid (openB zs (nums s) I = some (p, n))) :
    Calls Tryd.prog 4 #[.slice (some ⟨b, off, none⟩) 128 cap, .string s, .int .i64 I] w fun e w' => ∃ a c, e = .returned (.tuple #[.slice a len c, .int .i64 (n : Int), .int .i64 0]) ∧ Bs w' a len p ∧ Below w.heap.size w w' := by
  refine (open_any s I (some ⟨b, off, none⟩) 128 cap zs w hB hcap hT hsm).mono ?_
  rw [HO.out]
  rintro e w' ⟨hb, v, he, hown⟩
  rw [hl] at hown
  obtain ⟨a, c, rfl, hB'⟩ := bs_of_own hown hz
  exact ⟨a, c, he, hB', hb⟩
theorem open_no (s : ByteArray) (I : Int) (b off cap : Nat) (zs : List Nat) (w : World) (hB : Bs w (some ⟨b, off, none⟩) 128 zs) (hcap : 128 ≤ cap) (hT : CrcTab w) (hsm : s.size ≤ maxLen)
    (HO : Hid (openB zs (nums s) I = none)) :
    Calls Tryd.prog 4 #[.slice (some ⟨b, off, none⟩) 128 cap, .string s, .int .i64 I] w fun e w' => e = .returned (.tuple #[.slice none 0 0, .int .i64 0, .int .i64 40]) ∧ Below w.heap.size w w' := by
  refine (open_any s I (some ⟨b, off, none⟩) 128 cap zs w hB hcap hT hsm).mono ?_
  rw [HO.out]
  rintro e w' ⟨hb, he⟩
  exact ⟨he, hb⟩

set_option maxHeartbeats 1000000 in
theorem awake4_any (w : World) (hT : CrcTab w) :
    Calls Tryd.prog 5 #[] w fun e w' => e = .returned (.bool true) ∧ Below w.heap.size w w' := by
  have kc := fun (w : World) (C : Array Value) (n c : Nat) => Lib.run_convert_bytes_const (P := Tryd.prog) w 22 5 C n c Tryd.underlying22 Tryd.underlying5
  go_enter Tryd.func5, Tryd.ntmps5
  go_wp2_with fail
  obtain ⟨fz, hfz⟩ : ∃ fz, fz = frameB (nums ⟨#[120]⟩) 1 2 [97, 98] := ⟨_, rfl⟩
  have HF : Hid (fz = frameB (nums ⟨#[120]⟩) 1 2 [97, 98]) := hfz
  clear hfz
  have hb1 : Below w.heap.size w (w.alloc (.cells #[.int .u8 97, .int .u8 98] 5 (2, 3))) := (Below.refl _ _).alloc (Nat.le_refl _) _
  have hB1 : Bs (w.alloc (.cells #[.int .u8 97, .int .u8 98] 5 (2, 3))) (some ⟨w.heap.size, 0, none⟩) 2 [97, 98] := bs_new w [97, 98] (2, 3) (by decide) (by decide)
  have hT1 := hT.below hb1
  have hsm : (⟨#[120]⟩ : ByteArray).size ≤ maxLen := by decide
  generalize w.alloc (.cells #[.int .u8 97, .int .u8 98] 5 (2, 3)) = w1 at *
  refine (frame_bs ⟨#[120]⟩ 1 2 1 2 rfl rfl _ 2 2 [97, 98] _ hB1 hT1 hsm (by omega) (by omega) (by omega) fz HF).mono ?_
  rintro e w2 ⟨b, rfl, hb, _, hB2, hb2⟩
  have hT2 := hT1.below hb2
  have HO : Hid (openB fz (nums ⟨#[120]⟩) 1 = some ([97, 98], 2)) := by
    rw [HF.out]; exact openB_frame _ 1 2 [97, 98] (by omega) (by omega) (by decide)
  clear kc
  go_wp2_with fail
  refine (open_yes ⟨#[120]⟩ 1 b 0 128 fz _ hB2 (Nat.le_refl _) hT2 hsm [97, 98] 2 2 rfl (by decide) HO).mono ?_
  rintro e w3 ⟨a3, c3, rfl, hB3, hb3⟩
  have hs3 := hB3.str (cap := c3)
  have hq : (strB [97, 98]).toList = [97, 98] := by decide +kernel
  generalize strB [97, 98] = st at *
  go_wp2
  go_ret
  exact ⟨rfl, hb1.trans ((hb2.mono hb1.size).trans (hb3.mono (Nat.le_trans hb1.size hb2.size)))⟩
end Go.Proofs.YtnpnldibhcncaacDoor
