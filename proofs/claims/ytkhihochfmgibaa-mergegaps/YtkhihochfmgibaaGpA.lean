/- merge: gaps in memory; Touches of program and document. -/
import Derived.Test.YtkhihochfmgibaaMgA
import Derived.BigRegion
namespace Go.Proofs.Ytkhihochfmgibaa
open Go.RowKit Go.Joins
set_option linter.unusedVariables false

structure Gp where
  f : Int
  t : Int
def gpD (l : List Gp) (k : Nat) : Gp := l.getD k ⟨0, 0⟩
/-- Gaps in memory. -/
def Gps (w : World) (a : Option Addr) (len : Nat) (l : List Gp) : Prop :=
  l.length = len ∧ len ≤ maxLen ∧ (a = none → len = 0) ∧
    ∀ x, a = some x → ∀ j, j < len → w.cell? (x.add (j * 2)) = some (.int .i64 (gpD l j).f) ∧ w.cell? (x.add (j * 2 + 1)) = some (.int .i64 (gpD l j).t)
theorem Gps.below {w w' : World} {a : Option Addr} {len : Nat} {l : List Gp} (h : Gps w a len l) (hb : Below w.heap.size w w') : Gps w' a len l := by
  obtain ⟨h1, h2, h3, h4⟩ := h
  refine ⟨h1, h2, h3, fun x hx j hj => ?_⟩
  obtain ⟨c0, c1⟩ := h4 x hx j hj
  exact ⟨(hb.cell (block_lt_of_cell c0)).trans c0, (hb.cell (block_lt_of_cell c1)).trans c1⟩
theorem Gps.pos {w : World} {a : Option Addr} {len : Nat} {l : List Gp} (h : Gps w a len l) (h0 : 0 < len) :
    ∃ b off, a = some ⟨b, off, none⟩ ∧ b < w.heap.size ∧ ∀ j, j < len → w.cell? ⟨b, off + j * 2, none⟩ = some (.int .i64 (gpD l j).f) ∧ w.cell? ⟨b, off + j * 2 + 1, none⟩ = some (.int .i64 (gpD l j).t) := by
  obtain ⟨hl, hm, hn, hc⟩ := h
  cases a with
  | none => have := hn rfl; omega
  | some x =>
    obtain ⟨b, off, spot⟩ := x
    have hc0 := (hc _ rfl 0 h0).1
    have hspot : spot = none := by simpa [Addr.add] using World.cell?_spot hc0
    subst hspot
    have hb := block_lt_of_cell hc0
    refine ⟨b, off, rfl, by simpa [Addr.add] using hb, fun j hj => ?_⟩
    have := hc _ rfl j hj
    rw [add_none, add_none] at this
    exact this

/-- Whether a range of times meets a gap. -/
def hitB (g : Gp) (frm to : Int) : Bool := decide (max g.f frm ≤ min g.t to)
def touchB (l : List Gp) (frm to : Int) : Bool := l.any fun g => hitB g frm to
theorem touch_yes {l : List Gp} {frm to : Int} (k : Nat) (hk : k < l.length) (h : hitB (gpD l k) frm to = true) : touchB l frm to = true := by
  unfold touchB
  rw [List.any_eq_true]
  refine ⟨l[k], List.getElem_mem hk, ?_⟩
  unfold gpD at h
  rw [List.getD_eq_getElem?_getD, List.getElem?_eq_getElem hk] at h
  exact h
theorem touch_no {l : List Gp} {frm to : Int} (h : ∀ k, k < l.length → hitB (gpD l k) frm to = false) : touchB l frm to = false := by
  unfold touchB
  rw [List.any_eq_false]
  intro g hg
  obtain ⟨k, hk, rfl⟩ := List.getElem_of_mem hg
  have h1 := h k hk
  unfold gpD at h1
  rw [List.getD_eq_getElem?_getD, List.getElem?_eq_getElem hk] at h1
  simpa using h1

set_option maxHeartbeats 1000000 in
set_option maxRecDepth 100000 in
theorem hasTime_any (f t : Int) (w : World) : Calls Try.prog 10 #[.agg #[.int .i64 f, .int .i64 t]] w fun e w' => e = .returned (.bool (decide (f ≤ t))) ∧ Below w.heap.size w w' := by
  go_enter Try.func10, Try.ntmps10
  go_wp2_with fail
  go_ret
  exact ⟨rfl, (Below.refl _ _).alloc (Nat.le_refl _) _⟩

set_option maxHeartbeats 4000000 in
set_option maxRecDepth 100000 in
theorem refTouches_any (a : Option Addr) (len cap : Nat) (l : List Gp) (frm to : Int) (w : World) (h : Gps w a len l) :
    Calls Try.prog 8 #[.slice a len cap, .int .i64 frm, .int .i64 to] w fun e w' => e = .returned (.bool (touchB l frm to)) ∧ Below w.heap.size w w' := by
  have HL := hidn h.1
  have H := hidn h
  have hlm := h.2.1
  unfold maxLen at hlm
  clear h
  go_enter Try.func8, Try.ntmps8
  go_wp2_with fail
  go_loopw [11] (fun iv wr => ∃ k : Nat, k ≤ len ∧ iv = .int .i64 (k : Int) ∧ Hid (Below w.heap.size w wr) ∧ Hid (∀ i, i < k → hitB (gpD l i) frm to = false)) (fun iv _ => len - (intOf iv).toNat)
  case atStart => exact ⟨0, Nat.zero_le _, rfl, hidn (Below.refl _ _), hidn (fun i hi => by omega)⟩
  case round =>
    obtain ⟨k, hk, rfl, HB, HK⟩ := hrel
    obtain ⟨wo, hwo⟩ : ∃ wo, wo = wr := ⟨_, rfl⟩
    subst hwo
    by_cases hlt : k < len
    · have hlt2 : (k : Int) < (len : Int) := by omega
      obtain ⟨b, off, rfl, hb, hcl⟩ := H.out.pos (by omega)
      have c0 : wo.cell? ⟨b, off + k * 2, none⟩ = some (.int .i64 (gpD l k).f) := (HB.out.cell (p := ⟨b, off + k * 2, none⟩) hb).trans (hcl k hlt).1
      have c1 : wo.cell? ⟨b, off + k * 2 + 1, none⟩ = some (.int .i64 (gpD l k).t) := (HB.out.cell (p := ⟨b, off + k * 2 + 1, none⟩) hb).trans (hcl k hlt).2
      obtain ⟨gf, hgf⟩ : ∃ x, x = (gpD l k).f := ⟨_, rfl⟩
      obtain ⟨gt, hgt⟩ : ∃ x, x = (gpD l k).t := ⟨_, rfl⟩
      rw [← hgf] at c0
      rw [← hgt] at c1
      have HG : Hid (hitB (gpD l k) frm to = decide (max gf frm ≤ min gt to)) := hidn (by rw [hgf, hgt]; rfl)
      have HB1 : Hid (Below w.heap.size w (wo.alloc (.cells #[.int .i64 gf, .int .i64 gt] 25))) := hidn (HB.out.alloc HB.out.size _)
      clear hcl hgf hgt
      by_cases hit : gf ≤ gt ∧ frm ≤ to ∧ gf ≤ to ∧ frm ≤ gt
      · obtain ⟨h1, h2, h3, h4⟩ := hit
        have HC : Hid (touchB l frm to = true) := hidn (touch_yes k (by rw [HL.out]; exact hlt) (by rw [HG.out]; exact decide_eq_true (by omega)))
        go_wp2_with fail
        go_ret
        exact ⟨by rw [HC.out]; rfl, HB1.out⟩
      · have HK1 : Hid (∀ i, i < k + 1 → hitB (gpD l i) frm to = false) := hidn (fun i hi => by
          by_cases hik : i = k
          · subst hik
            rw [HG.out]; exact decide_eq_false (by omega)
          · exact HK.out i (by omega))
        by_cases h1 : gf ≤ gt
        · by_cases h2 : frm ≤ to
          · by_cases h3 : gf ≤ to
            · have h4 : ¬ frm ≤ gt := fun h => hit ⟨h1, h2, h3, h⟩
              clear hit
              go_wp2_with fail
              go_roundw
              case rel => exact ⟨k + 1, by omega, by first | rfl | simp, HB1, HK1⟩
              case measure => simp [intOf]; omega
            · clear hit
              go_wp2_with fail
              go_roundw
              case rel => exact ⟨k + 1, by omega, by first | rfl | simp, HB1, HK1⟩
              case measure => simp [intOf]; omega
          · clear hit
            go_wp2_with fail
            go_roundw
            case rel => exact ⟨k + 1, by omega, by first | rfl | simp, HB1, HK1⟩
            case measure => simp [intOf]; omega
        · clear hit
          go_wp2_with fail
          go_roundw
          case rel => exact ⟨k + 1, by omega, by first | rfl | simp, HB1, HK1⟩
          case measure => simp [intOf]; omega
    · have hlt2 : ¬ (k : Int) < (len : Int) := by omega
      have HC : Hid (touchB l frm to = false) := hidn (touch_no (fun i hi => HK.out i (by rw [HL.out] at hi; omega)))
      go_wp2_with fail
      go_ret
      exact ⟨by rw [HC.out]; rfl, HB.out⟩
end Go.Proofs.Ytkhihochfmgibaa
