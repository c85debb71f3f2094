/- The disk: a writing of 128 bytes at any name and place, on a disk without a fuse. -/
import Derived.Test.YtoonkkeefppflaaDiskWrite
import Derived.Test.YtoonkkeefppflaaDiskWriteN
import Derived.Test.YtoonkkeefppflaaDiskWriteE
namespace Go.Proofs.Ytoonkkeefppflaa
open Go.RowKit Go.Maps
set_option linter.unusedVariables false
/-- What a writing leaves: nothing new, an extent that waits, or a new one that does. -/
def WrAny (w : World) (d : Nat) (F : Nat → Prop) (N : Nat) (M : List UInt8 → List Ext) (free : Int) (s : List UInt8) (zs : List Nat) (w' : World) : Prop :=
  ∃ F' N' M' free', DiskOf w' d F' N' M' free' (-1) ∧ Gr F F' w w' ∧ N' ≤ N + 1 ∧ 0 ≤ free' ∧ free' ≤ free ∧
    (M' = M ∨ (∃ i x, (M s)[i]? = some x ∧ M' = upd M s ((M s).set i (x.wrote zs))) ∨ M' = upd M s (M s ++ [zeroE.wrote zs]))
theorem write_any (w : World) (d : Nat) (F : Nat → Prop) (N : Nat) (M : List UInt8 → List Ext) (free : Int) (h : DiskOf w d F N M free (-1)) (s : ByteArray) (hsm : s.size ≤ maxLen) (i : Int) (b cap : Nat) (zs : List Nat) (hb : BsF F w (some ⟨b, 0, none⟩) 128 zs)
    (hn : (M s.data.toList).length ≤ 1000000) (hN : N ≤ 1000000) (hf0 : 0 ≤ free) (hf1 : free ≤ 1000000) :
    Calls Try.prog 9 #[.pointer (some ⟨d, 0, none⟩), .string s, .int .i64 i, .slice (some ⟨b, 0, none⟩) 128 cap] w fun e w' => ∃ r : Int, e = .returned (.int .i64 r) ∧ WrAny w d F N M free s.data.toList zs w' := by
  obtain ⟨n, hnn⟩ : ∃ n, n = (M s.data.toList).length := ⟨_, rfl⟩
  by_cases hbad : nameB s.data.toList = false ∨ i < 0 ∨ (n : Int) < i
  · refine (write_arg w d F N M free (-1) h s hsm i n (hidn hnn) _ 128 cap (by rcases hbad with h | h | h; exact .inl h; exact .inr (.inr (.inl h)); exact .inr (.inr (.inr h)))).mono ?_
    rintro e w' ⟨rfl, rfl⟩
    exact ⟨1, rfl, F, N, M, free, h, Gr.refl _ _, by omega, hf0, Int.le_refl _, .inl rfl⟩
  · have hnb : nameB s.data.toList = true := by
      cases hc : nameB s.data.toList with
      | true => rfl
      | false => exact absurd (.inl hc) hbad
    have hi0 : 0 ≤ i := by
      by_cases h0 : i < 0
      · exact absurd (.inr (.inl h0)) hbad
      · omega
    have hin : i ≤ (n : Int) := by
      by_cases h0 : (n : Int) < i
      · exact absurd (.inr (.inr h0)) hbad
      · omega
    obtain ⟨k, rfl⟩ : ∃ k : Nat, i = (k : Int) := ⟨i.toNat, by omega⟩
    have hburn : burnt (-1) = -1 := by decide
    by_cases hk : k < n
    · obtain ⟨x, hx⟩ : ∃ x, (M s.data.toList)[k]? = some x := ⟨_, List.getElem?_eq_getElem (by rw [← hnn]; exact hk)⟩
      refine (write_old w d F N M free (-1) h s hnb k n (k * 385) (hidn hnn) hk rfl b 0 cap zs hb (by omega) (by omega) (by omega) x (hidn hx)).mono ?_
      rintro e w' ⟨rfl, hD, hG⟩
      rw [hburn] at hD
      exact ⟨0, rfl, F, N, _, free, hD, hG, by omega, hf0, Int.le_refl _, .inr (.inl ⟨k, x, hx, rfl⟩)⟩
    · obtain rfl : k = n := by omega
      by_cases hf : free = 0
      · subst hf
        refine (write_full w d F N M (-1) h s hnb k (hidn hnn) _ cap (by omega) (by omega) (by omega)).mono ?_
        rintro e w' ⟨rfl, hD, hG⟩
        rw [hburn] at hD
        exact ⟨4, rfl, F, N, M, 0, hD, hG, by omega, by omega, Int.le_refl _, .inl rfl⟩
      · refine (write_new w d F N M free (-1) h s hnb k (k * 385) (hidn hnn) rfl b 0 cap zs hb (by omega) (by omega) (by omega) (by omega) (by unfold maxLen; omega) (by omega) (by omega)).mono ?_
        rintro e w' ⟨rfl, F', hD, hG⟩
        rw [hburn] at hD
        exact ⟨0, rfl, F', N + 1, _, free - 1, hD, hG, by omega, by omega, by omega, .inr (.inr rfl)⟩
end Go.Proofs.Ytoonkkeefppflaa
