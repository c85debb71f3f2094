/- fsck: Manifest and Read of both sides as one plain function each; awake. -/
import Derived.Test.YteammmhlpinhfaaGreatDoorFkG
import Derived.Test.YteammmhlpinhfaaGreatDoorLabBs
import Derived.Test.YteammmhlpinhfaaGreatDoorPlY
namespace Go.Proofs.YteammmhlpinhfaaGreatDoor
open Go.RowKit
set_option linter.unusedVariables false

def manX (l : List Fo) : List Nat := if pcL l = true then manB l else []
def manE (l : List Fo) : Int := if pcL l = true then 0 else 1
def readX (zs : List Nat) : List Fo := if (manOk zs && pcL (readL zs)) = true then readL zs else []
def readE (zs : List Nat) : Int := if (manOk zs && pcL (readL zs)) = true then 0 else 5

theorem readX_ils (zs : List Nat) (w : World) : ∀ d ∈ readX zs, Ils w d.pa d.pl d.ps ∧ d.pl ≤ d.pc := by
  unfold readX
  split
  · exact fosB_ils _ _ w
  · intro d hd; cases hd

theorem manX_len (l : List Fo) (h : l.length ≤ 1000) : (manX l).length ≤ 60000 := by
  unfold manX
  split
  · rw [manB_length]; omega
  · simp

theorem readX_len (zs : List Nat) : (readX zs).length ≤ 1000 := by
  unfold readX
  split
  · rename_i h
    simp only [Bool.and_eq_true] at h
    have h1 := h.1
    unfold manOk at h1
    simp only [Bool.and_eq_true, decide_eq_true_eq] at h1
    unfold readL
    rw [fosB_length]
    exact h1.1.2
  · simp

def ManQ (w : World) (l : List Fo) (e : Ending) (w' : World) : Prop := ∃ xa xc, e = .returned (.tuple #[.slice xa (manX l).length xc, .int .i64 (manE l)]) ∧ Bs w' xa (manX l).length (manX l) ∧ (manX l).length ≤ xc ∧ Below w.heap.size w w'
def ReadQ (w : World) (zs : List Nat) (e : Ending) (w' : World) : Prop := ∃ xa xc, e = .returned (.tuple #[.slice xa (readX zs).length xc, .int .i64 (readE zs)]) ∧ Fls w' xa (readX zs).length (readX zs) ∧ Below w.heap.size w w'

theorem bs_cap {w : World} {base n : Nat} {v : Value} {zs : List Nat} (h : w.ownsRow base 5 1 v n (vb zs)) (hz : ∀ x ∈ zs, x < 256) :
    ∃ a cap, v = .slice a n cap ∧ Bs w a n zs ∧ n ≤ cap := by
  obtain ⟨a, cap, rfl, hb⟩ := bs_of_own h hz
  refine ⟨a, cap, rfl, hb, ?_⟩
  rcases h.2 with ⟨h1, h2⟩ | ⟨g, cp, cur, hv, hg, hh, hnc, r⟩
  · omega
  · cases hv; exact hnc

theorem man_fin (a : Option Addr) (len cap : Nat) (l : List Fo) (w : World) (h : Fls w a len l) (hm : len ≤ 1000) (hc : len ≤ cap) : Calls Tryz.prog 16 #[.slice a len cap] w (ManQ w l) := by
  cases hp : pcL l with
  | true =>
    refine (man_yes a len cap l w h hm hc hp).mono ?_
    rintro e w1 ⟨v, rfl, ho, hb⟩
    have e1 : manX l = manB l := by unfold manX; rw [if_pos hp]
    have e2 : manE l = 0 := by unfold manE; rw [if_pos hp]
    rw [← h.1, ← manB_length] at ho
    obtain ⟨xa, xc, rfl, hB, hcx⟩ := bs_cap ho (manB_lt l)
    exact ⟨xa, xc, by rw [e1, e2], by rw [e1]; exact hB, by rw [e1]; exact hcx, hb⟩
  | false =>
    refine (man_no a len cap l w h hm hc hp).mono ?_
    rintro e w1 ⟨rfl, hb⟩
    have e1 : manX l = [] := by unfold manX; rw [if_neg (by rw [hp]; decide)]
    have e2 : manE l = 1 := by unfold manE; rw [if_neg (by rw [hp]; decide)]
    exact ⟨none, 0, by rw [e1, e2]; rfl, by rw [e1]; exact Bs.nil _, by rw [e1]; exact Nat.le_refl _, hb⟩

theorem readQ_of {w w' : World} {zs : List Nat} {e : Ending} (h : ReadP w zs e w') : ReadQ w zs e w' := by
  obtain ⟨hb, ⟨h1, h2, v, rfl, ho⟩ | ⟨h1, rfl⟩⟩ := h
  · have h3 : (manOk zs && pcL (readL zs)) = true := by rw [h1, h2]; rfl
    have e1 : readX zs = readL zs := by unfold readX; rw [if_pos h3]
    have e2 : readE zs = 0 := by unfold readE; rw [if_pos h3]
    have e3 : (readL zs).length = manN zs := by unfold readL; rw [fosB_length]
    rw [← e3] at ho
    obtain ⟨xa, xc, rfl, hF, hcx⟩ := fls_of_own ho (fosB_ils _ _ w')
    exact ⟨xa, xc, by rw [e1, e2], by rw [e1]; exact hF, hb⟩
  · have e1 : readX zs = [] := by unfold readX; rw [if_neg (by rw [h1]; decide)]
    have e2 : readE zs = 5 := by unfold readE; rw [if_neg (by rw [h1]; decide)]
    exact ⟨none, 0, by rw [e1, e2]; rfl, by rw [e1]; exact Fls.nil _, hb⟩

theorem read_fin (a : Option Addr) (len cap : Nat) (zs : List Nat) (w : World) (h : Bs w a len zs) (hc : len ≤ cap) : Calls Tryz.prog 17 #[.slice a len cap] w (ReadQ w zs) :=
  (read_any a len cap zs w h hc).mono fun _ _ h => readQ_of h

theorem fk_take {w : World} {a : Option Addr} {len : Nat} {zs : List Nat} (h : Bs w a len zs) (k : Nat) (hk : k ≤ len) : Bs w a k (zs.take k) := by
  obtain ⟨h1, h2, h3, h4, h5⟩ := h
  refine ⟨by rw [List.length_take, h1]; omega, by omega, take_lt h3 k, fun e => by have := h4 e; omega, fun x hx j hj => ?_⟩
  rw [h5 x hx j (by omega)]
  simp [List.getD_eq_getElem?_getD, hj]

def fo1 : Fo := ⟨1, 1, 1, 1, 0, 0, 0, none, 0, 0, []⟩

theorem fo1_pc : pcL [fo1] = true := by decide
theorem fo1_X : manX [fo1] = manB [fo1] := by unfold manX; rw [if_pos fo1_pc]
theorem fo1_E : manE [fo1] = 0 := by unfold manE; rw [if_pos fo1_pc]
theorem fo1_wf : ∀ f ∈ [fo1], wfF f := by
  intro f hf x hx
  simp at hf
  subst hf
  simp [Fo.seven, fo1] at hx
  rcases hx with rfl | rfl <;> omega
theorem fo1_ok : (manOk (manB [fo1]) && pcL (readL (manB [fo1]))) = true := by
  rw [manOk_man _ (by decide), readL_man _ (by decide) fo1_wf, pc_bare, fo1_pc]
  rfl
theorem fo1_R : readX (manB [fo1]) = [fo1.bare] := by
  unfold readX
  rw [if_pos fo1_ok, readL_man _ (by decide) fo1_wf]
  rfl
theorem fo1_RE : readE (manB [fo1]) = 0 := by unfold readE; rw [if_pos fo1_ok]

set_option maxHeartbeats 1000000 in
theorem awake21 (w : World) : Calls Tryz.prog 6 #[] w fun e w' => e = .returned (.bool true) ∧ Below w.heap.size w w' := by
  obtain ⟨wA, hwA⟩ : ∃ wA, wA = w.alloc (.cells #[.int .i64 1, .int .i64 1, .int .i64 1, .int .i64 1, .int .i64 0, .int .i64 0, .int .i64 0, .slice none 0 0] 40) := ⟨_, rfl⟩
  have bA : Below w.heap.size w wA := by rw [hwA]; exact (Below.refl _ w).alloc (Nat.le_refl _) _
  have qA : wA.heap[w.heap.size]? = some (.cells #[.int .i64 1, .int .i64 1, .int .i64 1, .int .i64 1, .int .i64 0, .int .i64 0, .int .i64 0, .slice none 0 0] 40 (0, 0)) := by rw [hwA]; exact heap_alloc_new w _
  have hF : Fls wA (some ⟨w.heap.size, 0, none⟩) 1 [fo1] := by
    refine ⟨rfl, by unfold maxLen; omega, (fun e => by cases e), ?_, ?_⟩
    · intro d hd
      simp at hd
      subst hd
      exact ⟨⟨rfl, Nat.zero_le _, fun _ => rfl, fun x hx => by cases hx⟩, Nat.le_refl _⟩
    · intro x hx j d hd k v hk
      cases hx
      have hj : j = 0 := by have := (List.getElem?_eq_some_iff.1 hd).1; simp at this; exact this
      subst hj
      simp at hd
      subst hd
      rw [add_none, Nat.zero_add, Nat.zero_mul, Nat.zero_add, cell_of_row _ _ _ _ _ _ qA]
      simpa [Fo.cells, fo1] using hk
  have HM := hidn (man_fin _ 1 1 [fo1] wA hF (by omega) (by omega))
  have HWA := hidn hwA
  have HBA := hidn bA
  clear hwA bA qA hF
  go_enter Tryz.func6, Tryz.ntmps6
  go_wp2_with fail
  rw [← HWA.out]
  refine HM.out.mono ?_
  rintro e w1 ⟨xa, xc, rfl, hB, hcx, b1⟩
  rw [fo1_X] at hB hcx
  rw [fo1_X, fo1_E]
  have hl60 : (manB [fo1]).length = 60 := by rw [manB_length]; rfl
  rw [hl60] at hB hcx ⊢
  have HR := hidn (read_fin xa 60 xc (manB [fo1]) w1 hB hcx)
  have HB1 := hidn (HBA.out.trans (b1.mono HBA.out.size))
  clear hB hcx hl60 b1
  go_wp2_with fail
  refine HR.out.mono ?_
  rintro e w2 ⟨ya, yc, rfl, hF2, b2⟩
  rw [fo1_R, fo1_RE]
  have HB2 := hidn (HB1.out.trans (b2.mono HB1.out.size))
  clear hF2 b2
  go_wp2_with fail
  exact bodyPost_ret (v := .bool true) (by simp [results, Tryz.results6, go_sem]) rfl ⟨rfl, HB2.out⟩

end Go.Proofs.YteammmhlpinhfaaGreatDoor
