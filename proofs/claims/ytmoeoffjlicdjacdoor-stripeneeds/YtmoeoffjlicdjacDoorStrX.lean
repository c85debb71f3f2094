/- Stripes: a text stored as x on a new disk. -/
import Derived.Test.YtmoeoffjlicdjacDoorStrAll
import Derived.Test.YtmoeoffjlicdjacDoorDiskRot
namespace Go.Proofs.YtmoeoffjlicdjacDoor
open Go.RowKit Go.Maps
set_option linter.unusedVariables false

/-- The name x, and its four files. -/
def nmX6 : ByteArray := ⟨#[120]⟩
def x0 : ByteArray := ⟨#[120, 46, 48]⟩
def x1 : ByteArray := ⟨#[120, 46, 49]⟩
def x2 : ByteArray := ⟨#[120, 46, 50]⟩
def x3 : ByteArray := ⟨#[120, 46, 112]⟩
def nameX (k : Nat) : ByteArray := nameF x0 x1 x2 x3 k
theorem nameX_ok (k : Nat) (hk : k < 4) : nameB (nameX k).data.toList = true := by
  match k, hk with
  | 0, _ => decide +kernel
  | 1, _ => decide +kernel
  | 2, _ => decide +kernel
  | 3, _ => decide +kernel
theorem nameX_ne : ∀ j, j < 4 → ∀ k, k < 4 → j ≠ k → (nameX j).data.toList ≠ (nameX k).data.toList := by decide +kernel
def diskX (g : Nat) (zs : List Nat) (E : Nat) (k : Nat) : List UInt8 → List Ext := storedS (fun _ => []) x0 x1 x2 x3 g zs E k
theorem diskX_succ (g : Nat) (zs : List Nat) (E k : Nat) : diskX g zs E (k + 1) = upd (diskX g zs E k) (nameX k).data.toList ((fileS (nameX k) g zs k E).map Ext.synced) := rfl
theorem diskX_other (g : Nat) (zs : List Nat) (E : Nat) : ∀ k j, k ≤ j → j < 4 → diskX g zs E k (nameX j).data.toList = []
  | 0, _, _, _ => rfl
  | k + 1, j, h, h4 => by
    rw [diskX_succ, upd_other _ _ _ _ (nameX_ne j h4 k (by omega) (by omega))]
    exact diskX_other g zs E k j (by omega) h4
theorem diskX_at (g : Nat) (zs : List Nat) (E : Nat) : ∀ k j, j < k → k ≤ 4 → diskX g zs E k (nameX j).data.toList = (fileS (nameX j) g zs j E).map Ext.synced
  | 0, _, h, _ => absurd h (by omega)
  | k + 1, j, h, h4 => by
    rw [diskX_succ]
    by_cases hj : j = k
    · subst hj; rw [upd_same]
    · rw [upd_other _ _ _ _ (nameX_ne j (by omega) k (by omega) hj)]
      exact diskX_at g zs E k j (by omega) (by omega)
theorem diskX_nil (g : Nat) (zs : List Nat) (E : Nat) : ∀ k, k ≤ 4 → diskX g zs E k [] = []
  | 0, _ => rfl
  | k + 1, h4 => by
    have : ∀ k, k < 4 → ([] : List UInt8) ≠ (nameX k).data.toList := by decide +kernel
    rw [diskX_succ, upd_other _ _ _ _ (this k (by omega))]
    exact diskX_nil g zs E k (by omega)
theorem bs_cut6 {w : World} {a : Option Addr} {len : Nat} {zs : List Nat} (h : Bs w a len zs) (m : Nat) (hm : m ≤ len) : Bs w a m (zs.take m) := by
  refine ⟨by rw [List.length_take, h.1]; omega, Nat.le_trans hm h.2.1, fun x hx => h.2.2.1 x (List.mem_of_mem_take hx), fun ha => by have := h.2.2.2.1 ha; omega, fun x hx j hj => ?_⟩
  have e : (zs.take m).getD j 0 = zs.getD j 0 := by rw [List.getD_eq_getElem?_getD, List.getD_eq_getElem?_getD, List.getElem?_take, if_pos hj]
  rw [h.2.2.2.2 x hx j (by omega), e]

/-- New and Store of x: what is known then. -/
theorem storeX (w w1 : World) (hb1 : Below w.heap.size w w1) (hs1 : w1.heap.size = w.heap.size + 2) (d : Nat) (hD1 : DiskOf w1 d (fun k => w.heap.size ≤ k ∧ k < w.heap.size + 2) 0 (fun _ => []) 40 (-1)) (hT : CrcTab w) (g : Nat) (hg : g ≤ 4611686018427387904) (a : Option Addr) (m cap : Nat) (pp : List Nat) (hB : Bs w a m pp) (hcap : m ≤ cap) (hm : m ≤ 1500) (E : Nat) (HE : Hid (E = grpB m)) :
    Calls Tryd.prog 18 #[.pointer (some ⟨d, 0, none⟩), .string ⟨#[120]⟩, .int .i64 g, .slice a m cap] w1 fun e w' => e = .returned (.int .i64 0) ∧ ∃ F', DiskOf w' d F' (4 * E) (diskX g pp E 4) (40 - 4 * E) (-1) ∧ Sound5 w' F' ∧ (∀ k, F' k → w.heap.size ≤ k) ∧ Below w.heap.size w w' := by
  have hE6 : E ≤ 5 := by rw [HE.out]; unfold grpB; split <;> omega
  have hB1 : BsF (fun k => w.heap.size ≤ k ∧ k < w.heap.size + 2) w1 a m pp := by
    refine ⟨hB.below hb1, fun x hx hl hF => ?_⟩
    have e : (x.add 0).block = x.block := by unfold Addr.add; split <;> rfl
    have := block_lt_of_cell (hB.2.2.2.2 x hx 0 hl)
    omega
  have hS1 : Sound5 w1 (fun k => w.heap.size ≤ k ∧ k < w.heap.size + 2) := ⟨hT.below hb1, fun hF => by have := hT.lt; omega, fun k hk => by rw [hs1]; exact hk.2⟩
  refine (sstoreAll_new w1 d _ 0 _ 40 g pp E hD1 hS1 rfl ⟨#[120]⟩ x0 x1 x2 x3 (by decide) (hidn (by decide +kernel)) (hidn (by decide +kernel)) (hidn (by decide +kernel)) (hidn (by decide +kernel)) (hidn nameX_ok) (hidn (fun _ _ => rfl)) (hidn (fun k hk => diskX_other g pp E k k (Nat.le_refl _) hk)) hg a m cap hB1 hcap (by omega) HE (by unfold maxLen; omega) (by omega) (by omega)).mono ?_
  rintro e w' ⟨rfl, F', hD, hG⟩
  rw [Nat.zero_add] at hD
  exact ⟨rfl, F', hD, hS1.gr hG, hG.ge (by omega) (fun k hk => hk.1), hb1.trans (hG.1.below hb1.size (fun k hk => hk.1))⟩

end Go.Proofs.YtmoeoffjlicdjacDoor
