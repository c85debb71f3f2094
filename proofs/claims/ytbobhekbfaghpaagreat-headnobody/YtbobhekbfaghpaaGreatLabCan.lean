/- labels.Can: a contract at every list of labels. -/
import Derived.Test.YtbobhekbfaghpaaGreatLabList
import Derived.Test.YtbobhekbfaghpaaGreatLabName
import Derived.BigQuiet
import Derived.Deep.QuietTactic
namespace Go.Proofs.YtbobhekbfaghpaaGreat
open Go.RowKit
set_option linter.unusedVariables false

set_option maxHeartbeats 2000000 in
set_option maxRecDepth 100000 in
theorem can_any (a : Option Addr) (len cap : Nat) (ls : List Lab) (w : World) (h : Ls w a len ls) (hr : len ≤ 140737488355328) :
    Calls Tryz.prog 12 #[.slice a len cap] w fun e w' => e = .returned (.bool (canOK ls)) ∧ Below w.heap.size w w' := by
  have e : ∀ b, canOK ls = b → (Ending.returned (.bool b) = Ending.returned (.bool (canOK ls))) := fun b h => by rw [h]
  have hl := h.1
  by_cases h0 : len = 0
  · subst h0
    go_enter Tryz.func12, Tryz.ntmps12
    go_wp2
    go_ret
    exact ⟨e _ (canOK_size ls (.inl hl)), Below.refl _ _⟩
  have g0 : ((len : Int) == 0) = false := beq_eq_false_iff_ne.2 (by omega)
  by_cases h8 : 8 < len
  · have g8 : decide (8 < (len : Int)) = true := by simp; omega
    have hlH := hidn hl
    clear hl
    go_enter Tryz.func12, Tryz.ntmps12
    go_wp2
    go_ret
    exact ⟨e _ (canOK_size ls (.inr (by rw [hlH]; exact h8))), Below.refl _ _⟩
  have g8 : decide (8 < (len : Int)) = false := by simp; omega
  obtain ⟨b, off, rfl, hbw, hc⟩ := h.pos (by omega)
  have hsz := h.2.2.1
  have hH := hidn h
  have hlH := hidn hl
  clear hl h
  go_enter Tryz.func12, Tryz.ntmps12
  go_wp2
  go_loopw [15] (fun i wr => ∃ k : Nat, k ≤ len ∧ i = .int .i64 k ∧ Below w.heap.size w wr ∧ Hid (canTo ls k = true)) (fun i wr => len - (intOf i).toNat)
  case atStart => exact ⟨0, Nat.zero_le _, rfl, Below.refl _ _, rfl⟩
  case round =>
    obtain ⟨k, hk, rfl, hbl, hn⟩ := hrel
    by_cases hlt : k < len
    · obtain ⟨c0, c1⟩ := hc k hlt
      have c0' : wr.cell? ⟨b, off + k * 2, none⟩ = some (.string (labD ls k).1) := (hbl.cell (p := ⟨b, off + k * 2, none⟩) hbw).trans c0
      have c1' : wr.cell? ⟨b, off + k * 2 + 1, none⟩ = some (.string (labD ls k).2) := (hbl.cell (p := ⟨b, off + k * 2 + 1, none⟩) hbw).trans c1
      clear c0 c1
      generalize hn0 : (labD ls k).1 = n0 at *
      generalize hv0 : (labD ls k).2 = v0 at *
      have hn0H := hidn hn0
      have hv0H := hidn hv0
      clear hn0 hv0
      have hszn : n0.size ≤ maxLen := by rw [← hn0H]; exact (hsz k).1
      have hszv : v0.size ≤ maxLen := by rw [← hv0H]; exact (hsz k).2
      have hstop : canAt ls k = false → canOK ls = false := canOK_false ls k (by rw [hlH]; exact hlt)
      have hgo : canAt ls k = true → canTo ls (k + 1) = true := fun h => by rw [canTo_succ, hn, h]; rfl
      have hat : canAt ls k = (nameOK n0 && valueOK v0 && (decide (k = 0) || lessS (labD ls (k - 1)).1 n0)) := by unfold canAt; rw [hn0H, hv0H]
      have HS := hidn hstop
      have HG := hidn hgo
      have HA := hidn hat
      clear hstop hgo hat
      go_wp2_with fail
      refine (name_any n0 _ hszn).mono ?_
      rintro e1 w1 ⟨rfl, hb1⟩
      have hq1 : w1.cell? ⟨wr.heap.size, 0, none⟩ = some (.string n0) := by
        rw [hb1.cell (p := ⟨wr.heap.size, 0, none⟩) (by simp)]; simp [World.cell?_alloc_mark]
      have hq2 : w1.cell? ⟨wr.heap.size, 1, none⟩ = some (.string v0) := by
        rw [hb1.cell (p := ⟨wr.heap.size, 1, none⟩) (by simp)]; simp [World.cell?_alloc_mark]
      have hbl1 : Below w.heap.size w w1 := (hbl.alloc hbl.size _).trans (hb1.mono (by simp; have := hbl.size; omega))
      by_cases hnok : nameOK n0 = true
      · go_wp2_with fail
        refine (value_any v0 _ hszv).mono ?_
        rintro e2 w2 ⟨rfl, hb2⟩
        have hsz1 : wr.heap.size < w1.heap.size := block_lt_of_cell hq1
        have hq3 : w2.cell? ⟨wr.heap.size, 0, none⟩ = some (.string n0) := (hb2.cell (p := ⟨wr.heap.size, 0, none⟩) hsz1).trans hq1
        have hbl2 : Below w.heap.size w w2 := hbl1.trans (hb2.mono hbl1.size)
        by_cases hvok : valueOK v0 = true
        · have HN : Hid (nameOK n0 = true) := hnok
          have HV : Hid (valueOK v0 = true) := hvok
          by_cases hk0 : k = 0
          · have d0 : decide (0 < (k : Int)) = false := by simp; omega
            have d1 : decide (0 < k) = false := by simp; omega
            have d2 : ¬ 0 < k := by omega
            have HK0 := hidn hk0
            clear hk0
            go_wp2
            go_quiet (fail)
            go_wp2
            exact ⟨⟨k + 1, by omega, by go_num, below_drewN hbl2 _, HG.out (by rw [HA.out, HN.out, HV.out]; simp [HK0.out])⟩, by simp [intOf]; omega⟩
          · have d0 : decide (0 < (k : Int)) = true := by simp; omega
            have hk0' : 0 < k := by omega
            obtain ⟨m, hm⟩ : ∃ m, k = m + 1 := ⟨k - 1, by omega⟩
            have HM := hidn hm
            obtain ⟨p0, p1⟩ := hc m (by omega)
            have p0' : w2.cell? ⟨b, off + m * 2, none⟩ = some (.string (labD ls m).1) := (hbl2.cell (p := ⟨b, off + m * 2, none⟩) hbw).trans p0
            have hkm : (k : Int) - 1 = (m : Int) := by omega
            have HL : Hid ((labD ls (k - 1)).1 = (labD ls m).1) := hidn (by rw [hm]; rfl)
            clear p0 p1 hk0
            generalize hpn : (labD ls m).1 = pn at *
            have HPN := hidn hpn
            clear hpn
            have hml : m < len := by omega
            clear hm
            by_cases hle : Op.bytesLess pn.toList n0.toList = true
            · have HLE := hidn hle
              go_wp2
              go_quiet (fail)
              go_wp2
              exact ⟨⟨k + 1, by omega, by go_num, below_drewN hbl2 _, HG.out (by rw [HA.out, HN.out, HV.out, HL.out]; simp [lessS, HLE.out])⟩, by simp [intOf]; omega⟩
            · have hle' : Op.bytesLess pn.toList n0.toList = false := by simpa using hle
              have HLE := hidn hle'
              clear hle
              go_wp2
              go_quiet (fail)
              go_wp2
              go_ret
              exact ⟨e _ (HS.out (by rw [HA.out, HL.out]; simp [lessS, HLE.out]; omega)), below_drewN hbl2 _⟩
        · have hv' : valueOK v0 = false := by simpa using hvok
          go_wp2
          go_ret
          exact ⟨e _ (HS.out (by rw [HA.out, hv']; simp)), hbl2⟩
      · have hn' : nameOK n0 = false := by simpa using hnok
        go_wp2
        go_ret
        exact ⟨e _ (HS.out (by rw [HA.out, hn']; simp)), hbl1⟩
    · go_wp2
      go_ret
      obtain rfl : k = len := by omega
      exact ⟨e _ (canOK_true ls (by rw [hlH]; omega) (by rw [hlH]; omega) (by rw [hlH]; exact hn)), hbl⟩

theorem can_sizes (ls : List Lab) (h : canOK ls = true) (i : Nat) (hi : i < ls.length) : (labD ls i).1.size ≤ 24 ∧ (labD ls i).2.size ≤ 40 := by
  have h1 := ((canOK_iff ls).1 h).2.2 i hi
  unfold canAt nameOK valueOK at h1
  simp at h1
  omega
end Go.Proofs.YtbobhekbfaghpaaGreat
