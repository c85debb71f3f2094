/- The document's Int and Big, of any bytes. -/
import Derived.Test.YteammmhlpinhfaaGreatDoorFkA
import Derived.Test.YteammmhlpinhfaaGreatDoorPutWalk
import Derived.Test.YteammmhlpinhfaaGreatDoorGetWalk
import Derived.Test.YteammmhlpinhfaaGreatDoorAppA
namespace Go.Proofs.YteammmhlpinhfaaGreatDoor
open Go.RowKit
set_option linter.unusedVariables false

theorem Bs.lt {w : World} {a : Option Addr} {len : Nat} {zs : List Nat} (h : Bs w a len zs) : ∀ x ∈ zs, x < 256 := h.2.2.1

theorem Bs.from {w : World} {b off len : Nat} {zs : List Nat} (h : Bs w (some ⟨b, off, none⟩) len zs) (k : Nat) (hk : k ≤ len) : Bs w (some ⟨b, off + k, none⟩) (len - k) (zs.drop k) := by
  obtain ⟨h1, h2, h3, h4, h5⟩ := h
  refine ⟨by rw [List.length_drop, h1], by omega, fun x hx => h3 x (List.mem_of_mem_drop hx), (fun e => by cases e), fun x hx j hj => ?_⟩
  cases hx
  have := h5 _ rfl (k + j) (by omega)
  rw [add_none] at this ⊢
  rw [Nat.add_assoc, this]
  simp [List.getD_eq_getElem?_getD]

theorem Bs.end {w : World} {b o : Nat} {zs : List Nat} {k len : Nat} (h : Bs w (some ⟨b, o, none⟩) len zs) (hk : k = len) : Bs w (some ⟨b, o, none⟩) (len - k) (zs.drop k) := by
  obtain ⟨h1, h2, h3, h4, h5⟩ := h
  subst hk
  refine ⟨by rw [List.length_drop, h1], by omega, fun x hx => h3 x (List.mem_of_mem_drop hx), (fun e => by cases e), fun x hx j hj => by omega⟩

theorem take_lt {zs : List Nat} (h : ∀ x ∈ zs, x < 256) (k : Nat) : ∀ x ∈ zs.take k, x < 256 := fun x hx => h x (List.mem_of_mem_take hx)

theorem take_cells {w : World} {b off len k : Nat} {zs : List Nat} (hl : zs.length = len) (hk : k ≤ len) (hc : ∀ j, j < len → w.cell? ⟨b, off + j, none⟩ = some (.int .u8 ((zs.getD j 0 : Nat) : Int))) : ∀ j, j < k → w.cell? ⟨b, off + j, none⟩ = some (.int .u8 (((zs.take k).getD j 0 : Nat) : Int)) := by
  intro j hj
  rw [hc j (by omega)]
  simp [List.getD_eq_getElem?_getD, hj]

end Go.Proofs.YteammmhlpinhfaaGreatDoor
