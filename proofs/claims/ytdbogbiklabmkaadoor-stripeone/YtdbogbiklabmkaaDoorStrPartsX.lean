/- Stripes: the parts of a text that was stored as x. -/
import Derived.Test.YtdbogbiklabmkaaDoorStrC
namespace Go.Proofs.YtdbogbiklabmkaaDoor
open Go.RowKit Go.Maps
set_option linter.unusedVariables false

theorem partS_eq (zs : List Nat) (f i e : Nat) (he : i * 3 + f = e) : partS zs f i = partT zs e := by
  unfold partS partT
  rw [he, Nat.mul_comm e 105]
  by_cases h : 105 * e ≤ zs.length
  · rw [Nat.min_eq_left h]
    rw [List.take_eq_take_iff, List.length_drop]
    omega
  · have e1 : min (105 * e) zs.length = zs.length := Nat.min_eq_right (by omega)
    rw [e1, List.drop_of_length_le (Nat.le_refl _), List.drop_of_length_le (by omega)]
    simp
theorem fileS_get (fn : ByteArray) (g : Nat) (zs : List Nat) (f E i : Nat) (hi : i < E) : ((fileS fn g zs f E).map Ext.synced)[i]? = some ((zeroE.wrote (frameB (nums fn) i g (payS zs f i))).synced) := by
  simp [fileS, List.getElem?_map, List.getElem?_range hi]
theorem rd_stored (z : List Nat) : ((zeroE.wrote z).synced).rd = z := rfl
theorem countF : countS (fun _ => false) 4 = 4 := by decide

/-- Every part of it is read, up to its end; what is behind its last group is lost. -/
theorem partsX (w : World) (d : Nat) (F : Nat → Prop) (N : Nat) (free fuse : Int) (g : Nat) (pp : List Nat) (E m : Nat) (h : DiskOf w d F N (diskX g pp E 4) free fuse) (hT : CrcTab w) (hm : pp.length = m) (hm1 : m ≤ 1500) (HE : Hid (E = grpB m)) (hpb : ∀ x ∈ pp, x < 256) (hg : g ≤ 4611686018427387904) :
    ∀ w5 sb, StripeAt w5 sb d x0 x1 x2 x3 g → Below w.heap.size w w5 → ∀ e, 105 * e ≤ m → PartGood w5 sb pp e ∨ (PartNone w5 sb e ∧ (105 * e < m → False)) := by
  intro w5 sb hA hb e he
  obtain ⟨f, hf⟩ : ∃ f, f = e % 3 := ⟨_, rfl⟩
  obtain ⟨i, hi⟩ : ∃ i, i = e / 3 := ⟨_, rfl⟩
  have hE : 1 ≤ E ∧ m ≤ 315 * E ∧ E ≤ 5 := by
    rw [HE.out]; unfold grpB
    split <;> omega
  have hsz : ∀ k, k < 4 → (nameX k).size ≤ maxLen := fun k hk => by have := (name_size (nameX_ok k hk)).2; unfold maxLen; omega
  have hlen : ∀ k, k < 4 → E = (diskX g pp E 4 (nameX k).data.toList).length := fun k hk => by rw [diskX_at g pp E 4 k hk (Nat.le_refl _), List.length_map, fileS_length]
  by_cases hiE : i < E
  · left
    intro wx hbx
    have hbw : Below w.heap.size w wx := hb.trans (hbx.mono hb.size)
    have e1 : partS pp f i = partT pp e := partS_eq pp f i e (by omega)
    have e2 : payS pp f i = partT pp e := by unfold payS; rw [if_pos (by omega), e1]
    have l1 : (partT pp e).length ≤ 105 := by unfold partT; rw [List.length_take]; omega
    have b1 : ∀ x ∈ partT pp e, x < 256 := fun x hx => hpb x (List.mem_of_mem_drop (List.mem_of_mem_take hx))
    refine spart_ok wx sb e f i (by omega) hf.symm hi.symm (slotB (partT pp e)) (partT pp e) _ rfl l1 b1 (hidn rfl) (hidn ?_)
    intro wy hby
    have hbwy : Below w.heap.size w wy := hbw.trans (hby.mono hbw.size)
    refine sread_part wy d g F N _ free fuse (h.below hbwy) (hT.below hbwy) sb f i x0 x1 x2 x3 (nameX f) (hA.below (hbx.trans (hby.mono hbx.size))) (by omega) (hidn rfl) (hsz f (by omega)) (by omega) E (hidn (hlen f (by omega))) hiE (frameB (nums (nameX f)) i g (partT pp e)) ((zeroE.wrote (frameB (nums (nameX f)) i g (partT pp e))).synced) (hidn ?_) (hidn (rd_stored _).symm) (partT pp e) _ rfl l1 b1 (hidn (openB_frame _ i g _ (by omega) hg (by omega))) _ (hidn rfl)
    rw [diskX_at g pp E 4 f (by omega) (Nat.le_refl _), fileS_get _ _ _ _ _ _ hiE, e2]
  · right
    refine ⟨fun wx hbx => ?_, fun hh => by omega⟩
    have hbw : Below w.heap.size w wx := hb.trans (hbx.mono hb.size)
    have hrd : ∀ k : Nat, k < 4 → ∀ wy, Below wx.heap.size wx wy → Calls Tryd.prog 31 #[.pointer (some ⟨sb, 0, none⟩), .int .i64 (k : Int), .int .i64 (i : Int)] wy fun e w' => e = .returned (.tuple #[.agg (vb (List.replicate 106 0)).toArray, .bool false]) ∧ Below wy.heap.size wy w' := fun k hk wy hby => by
      have hbwy : Below w.heap.size w wy := hbw.trans (hby.mono hbw.size)
      exact sread_none wy d g F N _ free fuse (h.below hbwy) (hT.below hbwy) sb k i x0 x1 x2 x3 (nameX k) (hA.below (hbx.trans (hby.mono hbx.size))) hk (hidn rfl) (hsz k hk) E (hidn (hlen k hk)) (by omega) (List.replicate 106 0) (hidn rfl)
    refine spart_lost wx sb e f i (by omega) hf.symm hi.symm (List.replicate 106 0) (restS (fun _ => List.replicate 106 0) (fun _ => false) 4) rfl rfl (wrongS (fun _ => false) 4) (countS (fun _ => false) 4) (by rw [countF]; omega) (hidn (hrd f (by omega))) (hidn ?_)
    intro wy hby
    exact look_any wy sb i (fun _ => List.replicate 106 0) (fun _ => false) (hidn (fun _ _ => ⟨rfl, fun x hx => by rw [List.eq_of_mem_replicate hx]; omega⟩)) (hidn (fun k hk wz hbz => hrd k hk wz (hby.trans (hbz.mono hby.size)))) _ (hidn rfl) _ _ (hidn rfl) (hidn rfl)
end Go.Proofs.YtdbogbiklabmkaaDoor
