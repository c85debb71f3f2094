/- TombHeeds: the law. -/
import Derived.Test.YtdgkjiiegmnjfaaTmG
import Derived.Deep.RegionWith
namespace Go.Proofs.Ytdgkjiiegmnjfaa
open Go.RowKit Go.Joins
set_option linter.unusedVariables false
theorem hits_filter (ls : List Lab) (t r least : Int) (l : List Del) (h : least ≤ r) : hitsL ls t r ((l.filter (fun d => decide (least ≤ d.up))).map Del.pl) = hitsL ls t r (l.map Del.pl) := by
  unfold hitsL
  induction l with
  | nil => rfl
  | cons d l ih =>
    rw [List.filter_cons]
    by_cases hu : least ≤ d.up
    · rw [if_pos (by simpa using hu), List.map_cons, List.map_cons, List.any_cons, List.any_cons, ih]
    · rw [if_neg (by simpa using hu), List.map_cons, List.any_cons, ih]
      have : hitD ls t r d.pl = false := by
        unfold hitD
        rw [decide_eq_false (show ¬ r ≤ d.pl.2.2.2 from fun e => hu (by have : r ≤ d.up := e; omega))]
        rfl
      rw [this]
      rfl
theorem min20h (len : Nat) : ∃ n : Nat, n ≤ len ∧ n ≤ 20 ∧ min (len : Int) 20 = (n : Int) ∧ (if (20 : Int) < (len : Int) then (20 : Int) else (len : Int)) = (n : Int) := by
  refine ⟨min len 20, by omega, by omega, by omega, ?_⟩
  split <;> omega
set_option maxHeartbeats 2000000 in
set_option maxRecDepth 100000 in
theorem tombHeeds_walk (a : Option Addr) (len cap : Nat) (l : List Del) (ra : Option Addr) (rl rc : Nat) (rs : List Int) (la : Option Addr) (llen lcap : Nat) (ls : List Lab) (t : Int) (w : World) (h : Dls w a len l) (hc : len ≤ cap) (hr : Ils w ra rl rs) (hrc : rl ≤ rc)
    (hL : Ls w la llen ls) (hll : llen ≤ 140737488355328) (hs : ∀ x ∈ ls, x.2.size ≤ 140737488355328) :
    Calls Try.prog 4 #[.slice a len cap, .slice ra rl rc, .slice la llen lcap, .int .i64 t] w fun e w' => e = .returned (.bool true) ∧ Below w.heap.size w w' := by
  obtain ⟨n, hn1, hn2, hn3, hn4⟩ := min20h len
  obtain ⟨m, hm1, hm2, hm3, hm4⟩ := min20h rl
  have hD := h.take n hn1
  have hI := hr.take m hm1
  have nc : (n : Int) ≤ (cap : Int) := by omega
  have mc : (m : Int) ≤ (rc : Int) := by omega
  have HSZ := hidn hs
  clear hs
  go_enter Try.func4, Try.ntmps4
  go_wp2_with fail
  go_region
  have bd : Below w.heap.size w w.drew := (Below.refl _ w).drew
  have hD1 := hD.below bd
  have hI1 := hI.below bd
  have hL1 := hL.below bd
  have HP := hidn (prune_any a n cap (l.take n) ra m rc (rs.take m) w.drew hD1 hI1 (by omega))
  clear hn3 hn4 hm3 hm4 nc mc
  go_wp2_with fail
  refine HP.out.mono ?_
  rintro e w1 ⟨v1, l1, rfl, o1, p1, b1⟩
  have B1 := bd.trans b1
  obtain ⟨a1, c1, rfl, d1⟩ := o1.dls
  have hlen1 : l1.length ≤ n := by
    have e := congrArg List.length p1
    simp only [List.length_map] at e
    rw [e]
    split
    · exact Nat.zero_le _
    · exact Nat.le_trans (List.length_filter_le _ _) (by rw [hD.1]; exact Nat.le_refl _)
  have HL1 : Hid ((l1.length : Int) ≤ (n : Int)) := hidn (by omega)
  have HH : Hid (∀ r ∈ rs.take m, hitsL ls t r (l1.map Del.pl) = hitsL ls t r ((l.take n).map Del.pl)) := hidn (fun r hr => by
    have h0 : ¬ m = 0 := fun e => by rw [e] at hr; simp at hr
    rw [p1, if_neg h0]
    refine hits_filter ls t r _ _ ?_
    exact (minL_le _ (fun e => by rw [e] at hr; cases hr) r).2 ⟨r, hr, Int.le_refl _⟩)
  have D2 := hD1.below b1
  have I2 := hI1.below b1
  have L2 := hL1.below b1
  have HLEN := hidn hI.1
  clear p1 o1 hlen1 hD1 hI1 hL1 hD h hI
  generalize hk1 : l1.length = k1 at *
  have HK1 := hidn hk1
  clear hk1
  go_wp2_with fail
  go_loopw [27] (fun iv wr => ∃ j : Nat, iv = .int .i64 (j : Int) ∧ j ≤ m ∧ Below w1.heap.size w1 wr) (fun iv _ => m - (intOf iv).toNat)
  case atStart => exact ⟨0, rfl, Nat.zero_le _, Below.refl _ _⟩
  case round =>
    obtain ⟨j, rfl, hj, hb⟩ := hrel
    by_cases hlt : j < m
    · have hlt2 : (j : Int) < (m : Int) := by omega
      obtain ⟨r, hr2⟩ : ∃ r, (rs.take m)[j]? = some r := ⟨_, List.getElem?_eq_getElem (by rw [HLEN.out]; exact hlt)⟩
      have HEQ := hidn (HH.out r (List.mem_of_getElem? hr2))
      obtain ⟨b, off, rfl, cr⟩ := (I2.below hb).at hr2
      have H1 := hidn (hits_any a1 k1 c1 l1 la llen lcap ls t r wr (d1.below hb) (L2.below hb) hll HSZ.out)
      rw [HEQ.out] at H1
      clear hr2
      go_wp2_with fail
      refine H1.out.mono ?_
      rintro e w2 ⟨rfl, b2⟩
      have B2 := hb.trans (b2.mono hb.size)
      have H2 := hidn (hits_any a n cap (l.take n) la llen lcap ls t r w2 (D2.below B2) (L2.below B2) hll HSZ.out)
      generalize hitsL ls t r ((l.take n).map Del.pl) = hb1 at *
      go_wp2_with fail
      refine H2.out.mono ?_
      rintro e w3 ⟨rfl, b3⟩
      have B3 := B2.trans (b3.mono B2.size)
      have hne : (hb1 != hb1) = false := by cases hb1 <;> rfl
      go_wp2_with fail
      exact ⟨⟨j + 1, by simp, by omega, B3⟩, by simp [intOf]; omega⟩
    · have hlt2 : ¬ (j : Int) < (m : Int) := by omega
      have hle := HL1.out
      have B2 := B1.trans (hb.mono B1.size)
      go_wp2_with fail
      refine (awake14 _).mono ?_
      rintro e w4 ⟨rfl, b4⟩
      have B4 := B2.trans (b4.mono B2.size)
      go_wp2_with fail
      exact bodyPost_ret (v := .bool true) (by simp [results, Try.results4, go_sem]) rfl ⟨rfl, B4⟩
end Go.Proofs.Ytdgkjiiegmnjfaa
