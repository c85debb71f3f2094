/- dryrotlaw04.awake; wrappers of Frame and Open for the laws' walks. -/
import Derived.Test.YtoopdmfijbbfdaaDoorOpenAny
import Derived.Lib.SlBytesConst
namespace Go.Proofs.YtoopdmfijbbfdaaDoor
open Go.RowKit
set_option linter.unusedVariables false

theorem bs_new (w : World) (zs : List Nat) (fr : Nat × Nat) (hz : ∀ x ∈ zs, x < 256) (hm : zs.length ≤ maxLen) : Bs (w.alloc (.cells (vb zs).toArray 5 fr)) (some ⟨w.heap.size, 0, none⟩) zs.length zs := by
  refine ⟨rfl, hm, hz, (fun h => by simp at h), fun x hx j hj => ?_⟩
  cases hx
  rw [add_none, World.cell?_alloc_mark, Nat.zero_add]
  simpa using vb_getD zs j hj

/-- Frame of what may be: its bytes, in new memory. -/
theorem open_yes (s : ByteArray) (I : Int) (b off cap : Nat) (zs : List Nat) (w : World) (hB : Bs w (some ⟨b, off, none⟩) 128 zs) (hcap : 128 ≤ cap) (hT : CrcTab w) (hsm : s.size ≤ maxLen) (p : List Nat) (n len : Nat) (hl : p.length = len) (hz : ∀ x ∈ p, x < 256)
    (HO : Hid (openB zs (nums s) I = some (p, n))) :
    Calls Tryd.prog 63 #[.slice (some ⟨b, off, none⟩) 128 cap, .string s, .int .i64 I] w fun e w' => ∃ a c, e = .returned (.tuple #[.slice a len c, .int .i64 (n : Int), .int .i64 0]) ∧ Bs w' a len p ∧ Below w.heap.size w w' := by
  refine (open_any s I (some ⟨b, off, none⟩) 128 cap zs w hB hcap hT hsm).mono ?_
  rw [HO.out]
  rintro e w' ⟨hb, v, he, hown⟩
  rw [hl] at hown
  obtain ⟨a, c, rfl, hB'⟩ := bs_of_own hown hz
  exact ⟨a, c, he, hB', hb⟩
theorem open_no (s : ByteArray) (I : Int) (b off cap : Nat) (zs : List Nat) (w : World) (hB : Bs w (some ⟨b, off, none⟩) 128 zs) (hcap : 128 ≤ cap) (hT : CrcTab w) (hsm : s.size ≤ maxLen)
    (HO : Hid (openB zs (nums s) I = none)) :
    Calls Tryd.prog 63 #[.slice (some ⟨b, off, none⟩) 128 cap, .string s, .int .i64 I] w fun e w' => e = .returned (.tuple #[.slice none 0 0, .int .i64 0, .int .i64 40]) ∧ Below w.heap.size w w' := by
  refine (open_any s I (some ⟨b, off, none⟩) 128 cap zs w hB hcap hT hsm).mono ?_
  rw [HO.out]
  rintro e w' ⟨hb, he⟩
  exact ⟨he, hb⟩

end Go.Proofs.YtoopdmfijbbfdaaDoor
