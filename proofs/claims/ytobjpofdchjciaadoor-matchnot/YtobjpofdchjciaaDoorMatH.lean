/- dryrotlaw09.awake. -/
import Derived.Test.YtobjpofdchjciaaDoorMatG
namespace Go.Proofs.YtobjpofdchjciaaDoor
open Go.RowKit Go.Joins
set_option linter.unusedVariables false
def awLs : List Lab := [(⟨#[97]⟩, ⟨#[120]⟩)]
theorem awLs_all : allM awM awLs = true := by decide +kernel
theorem awLs_ls (w : World) (t : TypeId) : Ls (w.alloc (.cells #[.string ⟨#[97]⟩, .string ⟨#[120]⟩] t)) (some ⟨w.heap.size, 0, none⟩) 1 awLs := by
  refine ⟨rfl, by decide, ?_, (fun h => by cases h), ?_⟩
  · intro i
    match i with
    | 0 => exact ⟨by decide, by decide⟩
    | i + 1 => exact ⟨by show (ByteArray.empty).size ≤ _; decide, by show (ByteArray.empty).size ≤ _; decide⟩
  · intro x hx j hj
    cases hx
    obtain rfl : j = 0 := by omega
    rw [ladd_none, ladd_none]
    refine ⟨?_, ?_⟩
    · rw [cell_of_row _ _ _ _ _ _ (heap_alloc_new w _)]; rfl
    · rw [cell_of_row _ _ _ _ _ _ (heap_alloc_new w _)]; rfl
set_option maxHeartbeats 2000000 in
set_option maxRecDepth 100000 in
theorem awake9 (w : World) (ht : SignTab w) :
    Calls Tryd.prog 8 #[] w fun e w' => e = .returned (.bool true) ∧ Below w.heap.size w w' := by
  go_enter Tryd.func8, Tryd.ntmps8
  go_wp2_with fail
  refine (parse_aw _ ht).mono ?_
  rintro e w1 ⟨a, c, rfl, hms, b1⟩
  obtain ⟨b, off, rfl, c0, c1, c2, _, _⟩ := hms.at (j := 1) (m := ⟨4, ⟨#[98]⟩, ⟨#[121, 46, 42]⟩⟩) rfl
  have hLs := awLs_ls w1 32
  have b2 : Below w1.heap.size w1 (w1.alloc (.cells #[.string ⟨#[97]⟩, .string ⟨#[120]⟩] 32)) := (Below.refl _ w1).alloc (Nat.le_refl _) _
  have hms2 := hms.below b2
  have HALL := hidn (all_any _ 2 c awM _ 1 1 awLs _ hms2 hLs (fun m hm w2 hl => by
    simp only [awM, List.mem_cons, List.not_mem_nil, or_false] at hm
    rcases hm with rfl | rfl
    · exact one_is _ _ 1 1 awLs w2 hl (by decide) rfl
    · exact one_notlike _ _ 1 1 awLs w2 hl (by decide) rfl (by decide +kernel) (by decide)))
  simp only at c0
  go_wp2_with fail
  refine HALL.out.mono ?_
  rintro e w3 ⟨rfl, b3⟩
  rw [awLs_all]
  have B3 := b1.trans ((b2.trans (b3.mono b2.size)).mono b1.size)
  go_wp2_with fail
  exact bodyPost_ret (v := .bool true) (by simp [results, Tryd.results8, go_sem]) rfl ⟨rfl, B3⟩
end Go.Proofs.YtobjpofdchjciaaDoor
