/- tomb.Hits. -/
import Derived.Test.YtdgkjiiegmnjfaaTmC
import Derived.Test.YtdgkjiiegmnjfaaMatO
namespace Go.Proofs.Ytdgkjiiegmnjfaa
open Go.RowKit Go.Joins
set_option linter.unusedVariables false
def hitD (ls : List Lab) (t r : Int) (d : List Mat × Int × Int × Int) : Bool := decide (r ≤ d.2.2.2) && decide (d.2.1 ≤ t) && decide (t ≤ d.2.2.1) && allM d.1 ls
def hitsL (ls : List Lab) (t r : Int) (l : List (List Mat × Int × Int × Int)) : Bool := l.any (hitD ls t r)
set_option maxHeartbeats 2000000 in
set_option maxRecDepth 100000 in
theorem hits_any (a : Option Addr) (len cap : Nat) (l : List Del) (la : Option Addr) (llen lcap : Nat) (ls : List Lab) (t r : Int) (w : World) (h : Dls w a len l) (hL : Ls w la llen ls) (hr : llen ≤ 140737488355328) (hs : ∀ x ∈ ls, x.2.size ≤ 140737488355328) :
    Calls Try.prog 9 #[.slice a len cap, .slice la llen lcap, .int .i64 t, .int .i64 r] w fun e w' => e = .returned (.bool (hitsL ls t r (l.map Del.pl))) ∧ Below w.heap.size w w' := by
  have hlen := hidn h.1
  have hlm := h.2.1
  unfold maxLen at hlm
  obtain ⟨Z, hZ⟩ : ∃ Z, Z = hitsL ls t r (l.map Del.pl) := ⟨_, rfl⟩
  rw [← hZ]
  have HZ : Hid (Z = l.any fun d => hitD ls t r d.pl) := hidn (by rw [hZ]; unfold hitsL; rw [List.any_map]; rfl)
  clear hZ
  have HS := hidn hs
  clear hs
  go_enter Try.func9, Try.ntmps9
  go_wp2_with fail
  go_loopw [13] (fun iv wr => ∃ j : Nat, iv = .int .i64 (j : Int) ∧ j ≤ len ∧ Below w.heap.size w wr ∧ Hid (((l.take j).any fun d => hitD ls t r d.pl) = false)) (fun iv _ => len - (intOf iv).toNat)
  case atStart => exact ⟨0, rfl, Nat.zero_le _, Below.refl _ _, hidn rfl⟩
  case round =>
    obtain ⟨j, rfl, hj, hb, hall⟩ := hrel
    by_cases hlt : j < len
    · have hlt2 : (j : Int) < (len : Int) := by omega
      obtain ⟨d, hd⟩ : ∃ d, l[j]? = some d := ⟨_, List.getElem?_eq_getElem (by rw [hlen.out]; exact hlt)⟩
      obtain ⟨b, off, rfl, hbk, c0, c1, c2, c3, hms, h40⟩ := (h.below hb).at hd
      have hnext : Hid (((l.take (j + 1)).any fun d => hitD ls t r d.pl) = hitD ls t r d.pl) := hidn (by rw [List.take_add_one, hd, List.any_append, hall.out]; simp)
      have hyes : Hid (hitD ls t r d.pl = true → Z = true) := hidn (fun e => by
        rw [HZ.out, ← List.take_append_drop (j + 1) l, List.any_append, hnext.out, e]; rfl)
      have hdd : Hid (hitD ls t r d.pl = (decide (r ≤ d.up) && decide (d.fr ≤ t) && decide (t ≤ d.tt) && allM d.ms ls)) := hidn rfl
      generalize hitD ls t r d.pl = hb1 at *
      clear hd
      obtain ⟨ma, ml, mc, ms, fr, tt, up⟩ := d
      simp only at c0 c1 c2 c3 hms h40 hdd
      obtain ⟨wA, hwA⟩ : ∃ wA, wA = wr.alloc (.cells #[.slice ma ml mc, .int .i64 fr, .int .i64 tt, .int .i64 up] 34) := ⟨_, rfl⟩
      have bA : Below wr.heap.size wr wA := by rw [hwA]; exact (Below.refl _ wr).alloc (Nat.le_refl _) _
      have BA := hb.trans (bA.mono hb.size)
      have HC := hidn (all_l ma ml mc ms la llen lcap ls wA (hms.below bA) (hL.below BA) hr HS.out)
      generalize allM ms ls = ab at *
      have HWA := hidn hwA
      clear hwA
      by_cases g1 : r ≤ up
      · by_cases g2 : fr ≤ t
        · by_cases g3 : t ≤ tt
          · go_wp2_with fail
            rw [← HWA.out]
            refine HC.out.mono ?_
            rintro e w2 ⟨rfl, b2⟩
            have B2 := BA.trans (b2.mono BA.size)
            cases ab with
            | false =>
              have hx : Hid (((l.take (j + 1)).any fun d => hitD ls t r d.pl) = false) := hidn (by rw [hnext.out, hdd.out]; simp)
              go_wp2_with fail
              exact ⟨⟨j + 1, by simp, by omega, B2, hx⟩, by simp [intOf]; omega⟩
            | true =>
              have hx : Hid (Z = true) := hidn (hyes.out (by rw [hdd.out]; simp [g1, g2, g3]))
              go_wp2_with fail
              exact bodyPost_ret (v := .bool true) (by simp [results, Try.results9, go_sem]) rfl ⟨by rw [hx.out], B2⟩
          · have hx : Hid (((l.take (j + 1)).any fun d => hitD ls t r d.pl) = false) := hidn (by rw [hnext.out, hdd.out]; simp [g3])
            go_wp2_with fail
            rw [← HWA.out]
            exact ⟨⟨j + 1, by simp, by omega, BA, hx⟩, by simp [intOf]; omega⟩
        · have hx : Hid (((l.take (j + 1)).any fun d => hitD ls t r d.pl) = false) := hidn (by rw [hnext.out, hdd.out]; simp [g2])
          go_wp2_with fail
          rw [← HWA.out]
          exact ⟨⟨j + 1, by simp, by omega, BA, hx⟩, by simp [intOf]; omega⟩
      · have hx : Hid (((l.take (j + 1)).any fun d => hitD ls t r d.pl) = false) := hidn (by rw [hnext.out, hdd.out]; simp [g1])
        go_wp2_with fail
        rw [← HWA.out]
        exact ⟨⟨j + 1, by simp, by omega, BA, hx⟩, by simp [intOf]; omega⟩
    · have hlt2 : ¬ (j : Int) < (len : Int) := by omega
      have hZt : Hid (Z = false) := hidn (by
        have e := hall.out
        rw [List.take_of_length_le (by rw [hlen.out]; omega)] at e
        rw [HZ.out, e])
      go_wp2_with fail
      exact bodyPost_ret (v := .bool false) (by simp [results, Try.results9, go_sem]) rfl ⟨by rw [hZt.out], hb⟩
end Go.Proofs.Ytdgkjiiegmnjfaa
