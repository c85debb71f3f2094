/- merge.Sample: plain; the document's rises and Times. -/
import Derived.Test.YthmknpdhgfmogabMsA
import Derived.Test.YthmknpdhgfmogabMgI
namespace Go.Proofs.Ythmknpdhgfmogab
open Go.RowKit Go.Joins
set_option linter.unusedVariables false

noncomputable def cntN (l : List Sam) (t : Int) : Nat := Classical.epsilon (AtN l t)
theorem AtN.cnt {l : List Sam} {t : Int} {n : Nat} (h : AtN l t n) : cntN l t = n := (Classical.epsilon_spec ⟨n, h⟩ : AtN l t (cntN l t)).eq h

/-- What a step tells. -/
noncomputable def oneS (l : List Sam) (back t : Int) : List Sam := if 0 < cntN l t ∧ t - (samD l (cntN l t - 1)).t < back then [⟨t, (samD l (cntN l t - 1)).v⟩] else []
/-- What the steps tell. -/
noncomputable def smp (l : List Sam) (frm step back : Int) : Nat → List Sam
  | 0 => []
  | k + 1 => smp l frm step back k ++ oneS l back (frm + k * step)

theorem oneS_len (l : List Sam) (back t : Int) : (oneS l back t).length ≤ 1 := by unfold oneS; split <;> simp
theorem smp_len (l : List Sam) (frm step back : Int) (k : Nat) : (smp l frm step back k).length ≤ k := by
  induction k with
  | zero => simp [smp]
  | succ k ih =>
    have := oneS_len l back (frm + k * step)
    simp only [smp, List.length_append]; omega

/-- Whether the numbers may not be. -/
def badS (l : List Sam) (frm to step back : Int) : Bool := !riseB l || decide (step < 1) || decide (to < frm) || decide (back < 0)

theorem mem_ok {l : List Sam} (h : ∀ s ∈ l, SamOK s) (i : Nat) : SamOK (samD l i) := by
  unfold samD
  rw [List.getD_eq_getElem?_getD]
  rcases Nat.lt_or_ge i l.length with h1 | h1
  · rw [List.getElem?_eq_getElem h1]; exact h _ (List.getElem_mem h1)
  · rw [List.getElem?_eq_none h1]; exact samOK_zero

theorem smp_ok (l : List Sam) (hz : ∀ i, SamOK (samD l i)) (frm to step back : Int) (hf : -9223372036854775808 ≤ frm) (ht : to ≤ 9223372036854775807) (hs : 1 ≤ step) (k : Nat) (hk : ∀ j : Nat, j < k → frm + j * step ≤ to) : ∀ s ∈ smp l frm step back k, SamOK s := by
  induction k with
  | zero => intro s hs; simp [smp] at hs
  | succ k ih =>
    intro s h
    simp only [smp, List.mem_append] at h
    rcases h with h | h
    · exact ih (fun j hj => hk j (by omega)) s h
    · unfold oneS at h
      split at h
      · simp only [List.mem_cons, List.not_mem_nil, or_false] at h
        subst h
        have h0 : (0 : Int) ≤ (k : Int) * step := Int.mul_nonneg (by omega) (by omega)
        have h1 := hk k (by omega)
        refine ⟨?_, ?_, (hz _).2.2⟩
        · show -9223372036854775808 ≤ frm + (k : Int) * step
          omega
        · show frm + (k : Int) * step ≤ 9223372036854775807
          omega
      · simp at h

set_option maxHeartbeats 4000000 in
set_option maxRecDepth 100000 in
theorem refRises_any (a : Option Addr) (len cap : Nat) (l : List Sam) (w : World) (h : Sm w a len l) :
    Calls Try.prog 36 #[.slice a len cap] w fun e w' => e = .returned (.bool (riseB l)) ∧ Below w.heap.size w w' := by
  have HL := hidn h.1
  have H := hidn h
  have hlm := h.2.1
  unfold maxLen at hlm
  clear h
  go_enter Try.func36, Try.ntmps36
  go_wp2_with fail
  go_loopw [6] (fun iv wr => ∃ k : Nat, k ≤ len ∧ iv = .int .i64 (k : Int) ∧ Hid (Below w.heap.size w wr) ∧ Hid (∀ i, i + 1 < k → (samD l i).t < (samD l (i + 1)).t)) (fun iv _ => len - (intOf iv).toNat)
  case atStart => exact ⟨0, Nat.zero_le _, rfl, hidn (Below.refl _ _), hidn (fun i hi => by omega)⟩
  case round =>
    obtain ⟨k, hk, rfl, HB, HK⟩ := hrel
    by_cases hlt : k < len
    · have hlt2 : (k : Int) < (len : Int) := by omega
      obtain ⟨b, off, rfl, hb, hcl⟩ := H.out.pos (by omega)
      have c0 : wr.cell? ⟨b, off + k * 2, none⟩ = some (.int .i64 (samD l k).t) := (HB.out.cell (p := ⟨b, off + k * 2, none⟩) hb).trans (hcl k hlt).1
      obtain ⟨tk, htk⟩ : ∃ tk, tk = (samD l k).t := ⟨_, rfl⟩
      rw [← htk] at c0
      have HTK := hidn htk
      cases k with
      | zero =>
        have HK1 : Hid (∀ i, i + 1 < 1 → (samD l i).t < (samD l (i + 1)).t) := hidn (fun i hi => by omega)
        have c0' : wr.cell? ⟨b, off, none⟩ = some (.int .i64 tk) := by simpa using c0
        clear htk hcl c0
        go_wp2_with fail
        go_region
        go_wp2_with fail
        go_roundw
        case rel => exact ⟨1, by omega, by first | rfl | simp, hidn (HB.out.trans ⟨rfl, rfl, rfl, Nat.le_refl _, fun _ _ => rfl⟩), HK1⟩
        case measure => simp [intOf]; omega
      | succ j =>
        have hjl : j < len := by omega
        have hjl2 : (j : Int) < (len : Int) := by omega
        have hj0 : (0 : Int) < (j : Int) + 1 := by omega
        have hjn : ¬ (j : Int) < 0 := by omega
        have hj1 : (j : Int) + 1 - 1 = (j : Int) := by omega
        have d0 : wr.cell? ⟨b, off + j * 2, none⟩ = some (.int .i64 (samD l j).t) := (HB.out.cell (p := ⟨b, off + j * 2, none⟩) hb).trans (hcl j hjl).1
        obtain ⟨tj, htj⟩ : ∃ tj, tj = (samD l j).t := ⟨_, rfl⟩
        rw [← htj] at d0
        have HTJ := hidn htj
        by_cases hge : tk ≤ tj
        · have HC : Hid (riseB l = false) := hidn (riseB_no j (by rw [HL.out]; exact hlt) (by rw [← HTJ.out, ← HTK.out]; exact hge))
          clear htk hcl htj
          go_wp2_with fail
          go_region
          go_wp2_with fail
          go_ret
          exact ⟨by rw [HC.out]; rfl, HB.out.trans ⟨rfl, rfl, rfl, Nat.le_refl _, fun _ _ => rfl⟩⟩
        · have HK1 : Hid (∀ i, i + 1 < j + 1 + 1 → (samD l i).t < (samD l (i + 1)).t) := hidn (fun i hi => by
            by_cases hij : i = j
            · subst hij
              rw [← HTJ.out, ← HTK.out]; omega
            · exact HK.out i (by omega))
          clear htk hcl htj
          go_wp2_with fail
          go_region
          go_wp2_with fail
          go_roundw
          case rel => exact ⟨j + 1 + 1, by omega, by first | rfl | simp, hidn (HB.out.trans ⟨rfl, rfl, rfl, Nat.le_refl _, fun _ _ => rfl⟩), HK1⟩
          case measure => simp [intOf]; omega
    · have hlt2 : ¬ (k : Int) < (len : Int) := by omega
      have HC : Hid (riseB l = true) := hidn (riseB_yes (fun i hi => HK.out i (by rw [HL.out] at hi; omega)))
      go_wp2_with fail
      go_ret
      exact ⟨by rw [HC.out]; rfl, HB.out⟩
end Go.Proofs.Ythmknpdhgfmogab
