/- Pairs: the small ones, and a file's write of a new extent. -/
import Derived.Test.YtoopdmfijbbfdaaDoorMg
import Derived.Test.YtoopdmfijbbfdaaDoorMe
import Derived.Test.YtoopdmfijbbfdaaDoorMf
namespace Go.Proofs.YtoopdmfijbbfdaaDoor
open Go.RowKit Go.Maps
set_option linter.unusedVariables false

theorem CrcTab.kept {F : Nat → Prop} {w w' : World} (h : CrcTab w) (hk : Keeps F w w') (hn : ¬ F 3) : CrcTab w' := by
  obtain ⟨h0, h1, h2, h3⟩ := h
  have e := hk.block 3 (by simpa using block_lt_of_cell h0) hn
  exact ⟨(World.cell?_of_block (w := w) e).trans h0, (World.cell?_of_block (w := w) e).trans h1, (World.cell?_of_block (w := w) e).trans h2, (World.cell?_of_block (w := w) e).trans h3⟩
theorem CrcTab.lt {w : World} (h : CrcTab w) : 3 < w.heap.size := by simpa using block_lt_of_cell h.1

/-- A part of a slice. -/
theorem slice_part {w : World} {a : Option Addr} {len cap : Nat} {zs : List Nat} (hB : Bs w a len zs) (hcap : len ≤ cap) (lo hi : Nat) (h1 : lo ≤ hi) (h2 : hi ≤ len) :
    ∃ a', (∀ wx, (Instr.slice 24 (.slice a len cap) (some (.int .i64 (lo : Int))) (some (.int .i64 (hi : Int))) none).run Tryd.prog wx = .ok (.slice a' (hi - lo) (cap - lo)) wx) ∧ Bs w a' (hi - lo) ((zs.drop lo).take (hi - lo)) ∧
      ∀ x', a' = some x' → ∃ x, a = some x ∧ x'.block = x.block := by
  refine ⟨if cap = lo then a else a.map (·.add (lo * 1)), fun wx => ?_, ?_, ?_⟩
  · rw [run_slice_lh (P := Tryd.prog) wx 24 a len cap (by kernel_rfl) .i64 .i64 lo hi (by omega) (by omega) (by omega)]
    have hsz : (sizeOf (Tryd.prog.elem 24)).run Tryd.prog wx = .ok 1 wx := by kernel_rfl
    rw [hsz]
    simp [Result.andThen, sliced]
  · obtain ⟨hl, hm, hz, hn, hc⟩ := hB
    refine ⟨by simp; omega, by omega, fun x hx => hz x (List.mem_of_mem_drop (List.mem_of_mem_take hx)), fun h => ?_, fun x hx j hj => ?_⟩
    · have : a = none := by
        split at h
        · exact h
        · simpa using h
      have := hn this
      omega
    · obtain ⟨b, off, rfl, _, hc'⟩ := (show Bs w a len zs from ⟨hl, hm, hz, hn, hc⟩).pos (by omega)
      rw [if_neg (by omega)] at hx
      simp only [Option.map_some, Option.some.injEq] at hx
      subst hx
      rw [Nat.mul_one, add_none, add_none, Nat.add_assoc, hc' (lo + j) (by omega)]
      simp [List.getD_eq_getElem?_getD, List.getElem?_drop, hj]
  · intro x' hx'
    split at hx'
    · exact ⟨x', hx', rfl⟩
    · obtain ⟨y, hy, rfl⟩ := Option.map_eq_some_iff.1 hx'
      exact ⟨y, hy, by unfold Addr.add; split <;> rfl⟩

set_option maxHeartbeats 1000000 in
theorem pairMade (w : World) (d : Nat) (F : Nat → Prop) (N : Nat) (M : List UInt8 → List Ext) (free fuse : Int) (h : DiskOf w d F N M free fuse) (hM0 : M [] = []) :
    Calls Tryd.prog 54 #[.pointer (some ⟨d, 0, none⟩)] w fun e w' => e = .returned (.bool true) ∧ Below w.heap.size w w' := by
  have hn : Hid ((0 : Nat) = (M (ByteArray.mk #[]).data.toList).length) := hidn (by show 0 = (M []).length; rw [hM0]; rfl)
  clear hM0
  go_enter Tryd.func54, Tryd.ntmps54
  go_wp2_with fail
  refine (diskRead_none _ d F N M free fuse h ⟨#[]⟩ (by decide) 0 0 hn (Or.inr (by omega))).mono ?_
  rintro e w1 ⟨rfl, hb⟩
  go_wp2
  go_ret
  exact ⟨rfl, hb⟩

/-- A pair's files. -/
def fileA (s : ByteArray) : ByteArray := s ++ ⟨#[46, 97]⟩
def fileB (s : ByteArray) : ByteArray := s ++ ⟨#[46, 98]⟩

set_option maxHeartbeats 1000000 in
theorem halves_any (w : World) (s : ByteArray) (hs : s.size ≤ 1000) :
    Calls Tryd.prog 55 #[.string s] w fun e w' => e = .returned (.agg #[.string (fileA s), .string (fileB s)]) ∧ Below w.heap.size w w' := by
  have ha : s ++ ⟨#[46, 97]⟩ = fileA s := rfl
  have hb : s ++ ⟨#[46, 98]⟩ = fileB s := rfl
  have h1 : s.size + 2 ≤ 1002 := by omega
  go_enter Tryd.func55, Tryd.ntmps55
  go_wp2
  exact bodyPost_ret (v := .agg #[.string (fileA s), .string (fileB s)]) (results_cell_row rfl _ _ w.heap.size 91 _ (0, 0) _ rfl (heap_alloc_new _ _) Tryd.underlying91 rfl (by kernel_rfl)) rfl ⟨rfl, (Below.refl _ _).alloc (Nat.le_refl _) _⟩
end Go.Proofs.YtoopdmfijbbfdaaDoor
