/- tomb.Prune. -/
import Derived.Test.YtdgkjiiegmnjfaaTmA
import Derived.Test.YtdgkjiiegmnjfaaTmB
namespace Go.Proofs.Ytdgkjiiegmnjfaa
open Go.RowKit Go.Joins
set_option linter.unusedVariables false
def PruneP (w : World) (L : List (List Mat × Int × Int × Int)) (e : Ending) (w' : World) : Prop := ∃ v l', e = .returned v ∧ OwnD w' w.heap.size v l' ∧ l'.map Del.pl = L ∧ Below w.heap.size w w'
theorem own_slice {w : World} {base e size n : Nat} {v : Value} {xs : List Value} (h : w.ownsRow base e size v n xs) : ∃ a c, v = .slice a n c := by
  rcases h.2 with ⟨h1, h2⟩ | ⟨g, cap, cur, h1, _⟩
  · exact ⟨none, 0, by rw [h1, h2]⟩
  · exact ⟨_, _, h1⟩
theorem own_lower {w : World} {base base' e size n : Nat} {v : Value} {xs : List Value} (h : w.ownsRow base' e size v n xs) (hb : base ≤ base') : w.ownsRow base e size v n xs := by
  refine ⟨h.1, ?_⟩
  rcases h.2 with hn | ⟨g, cap, cur, rfl, hbb, rest⟩
  · exact .inl hn
  · exact .inr ⟨g, cap, cur, rfl, by omega, rest⟩
theorem own_setCell {w : World} {base e size n : Nat} {v : Value} {xs : List Value} (h : w.ownsRow base e size v n xs) {a : Addr} (ha : v.ownBlock ≠ some a.block) (u : Value) : (w.setCell a u).ownsRow base e size v n xs := by
  refine ⟨h.1, ?_⟩
  rcases h.2 with hn | ⟨g, cap, cur, rfl, hbb, hgg, rest⟩
  · exact .inl hn
  · refine .inr ⟨g, cap, cur, rfl, hbb, ?_, rest⟩
    rw [Below.heap_setCell w a u g (fun e => ha (by rw [← e]; rfl))]
    exact hgg
theorem OwnD.setCell {w w' : World} {base : Nat} {v : Value} {l : List Del} (h : OwnD w base v l) (hb : Below w.heap.size w w') {a : Addr} (ha : w.heap.size ≤ a.block) (u : Value) : OwnD (w'.setCell a u) base v l := by
  have hne : ∀ {e size n : Nat} {v : Value} {xs : List Value}, w.ownsRow base e size v n xs → v.ownBlock ≠ some a.block := fun h e => by
    have := (h.lt _ e).2
    omega
  exact ⟨own_setCell (own_skip h.1 hb) (hne h.1) u, fun d hd => ⟨own_setCell (own_skip (h.2 d hd).1 hb) (hne (h.2 d hd).1) u, (h.2 d hd).2⟩⟩
set_option maxHeartbeats 2000000 in
set_option maxRecDepth 100000 in
theorem prune_any (a : Option Addr) (len cap : Nat) (l : List Del) (ra : Option Addr) (rl rc : Nat) (rs : List Int) (w : World) (h : Dls w a len l) (hr : Ils w ra rl rs) (hm : len ≤ 1000000) :
    Calls Try.prog 6 #[.slice a len cap, .slice ra rl rc] w (PruneP w ((if rl = 0 then [] else l.filter (fun d => decide (minL rs ≤ d.up))).map Del.pl)) := by
  obtain ⟨i0, z, hi, hz0, hz1, hz2, hzc⟩ := deInfo
  have hlen := hidn h.1
  by_cases r0 : rl = 0
  · subst r0
    go_enter Try.func6, Try.ntmps6
    go_wp2_with fail
    exact bodyPost_ret (v := .slice none 0 0) (by simp [results, Try.results6, go_sem]) rfl ⟨_, [], rfl, ⟨World.ownsRow_nil _ _ _ _, fun d hd => by cases hd⟩, rfl, Below.refl _ _⟩
  · have r1 : ((rl : Int) == 0) = false := beq_eq_false_iff_ne.2 (by omega)
    have HIF : Hid ((if rl = 0 then [] else l.filter (fun d => decide (minL rs ≤ d.up))) = l.filter (fun d => decide (minL rs ≤ d.up))) := hidn (if_neg r0)
    rw [HIF.out]
    have hpos : 0 < rl := by omega
    have HMIN := hidn (min_any ra rl rc rs w hr hpos)
    generalize minL rs = least at *
    clear r0 HIF hpos
    go_enter Try.func6, Try.ntmps6
    go_wp2_with fail
    refine HMIN.out.mono ?_
    rintro e w1 ⟨rfl, b1⟩
    go_wp2_with fail
    go_loopw [6, 16] (fun hv iv wr => ∃ (k : Nat) (v : Value) (l' : List Del), k ≤ len ∧ iv = .int .i64 (k : Int) ∧ hv = v ∧ l'.length ≤ k ∧ Hid (OwnD wr w.heap.size v l' ∧ l'.map Del.pl = ((l.take k).filter (fun d => decide (least ≤ d.up))).map Del.pl) ∧ Below w.heap.size w wr) (fun _ iv _ => len - (intOf iv).toNat)
    case atStart => exact ⟨0, _, [], Nat.zero_le _, rfl, rfl, Nat.le_refl _, hidn ⟨⟨World.ownsRow_nil _ _ _ _, fun d hd => by cases hd⟩, rfl⟩, b1⟩
    case round =>
      obtain ⟨k, v, l', hk, rfl, rfl, hl', hO, hb⟩ := hrel
      by_cases hlt : k < len
      · have hlt2 : (k : Int) < (len : Int) := by omega
        obtain ⟨d, hd⟩ : ∃ d, l[k]? = some d := ⟨_, List.getElem?_eq_getElem (by rw [hlen.out]; exact hlt)⟩
        obtain ⟨b, off, rfl, hbk, c0, c1, c2, c3, hms, h40⟩ := (h.below hb).at hd
        have HT : Hid (l.take (k + 1) = l.take k ++ [d]) := hidn (by rw [List.take_add_one, hd]; rfl)
        clear hd
        obtain ⟨ma, ml, mc, ms, fr, tt, up⟩ := d
        simp only at c0 c1 c2 c3 hms h40
        obtain ⟨wA, hwA⟩ : ∃ wA, wA = wr.alloc (.cells #[.slice ma ml mc, .int .i64 fr, .int .i64 tt, .int .i64 up] 34) := ⟨_, rfl⟩
        have bA : Below wr.heap.size wr wA := by rw [hwA]; exact (Below.refl _ wr).alloc (Nat.le_refl _) _
        have BA := hb.trans (bA.mono hb.size)
        have qA : wA.heap[wr.heap.size]? = some (.cells #[.slice ma ml mc, .int .i64 fr, .int .i64 tt, .int .i64 up] 34 (0, 0)) := by rw [hwA]; exact heap_alloc_new wr _
        have HWA := hidn hwA
        clear hwA
        by_cases hu : least ≤ up
        · have HC := hidn (matClone_o ma ml mc ms wA (hms.below bA) h40)
          go_wp2_with fail
          rw [← HWA.out]
          refine HC.out.mono ?_
          rintro e w2 ⟨v2, rfl, own2, b2⟩
          obtain ⟨a2, c2', rfl⟩ := own_slice own2
          have q2 := (b2.block _ (Array.getElem?_eq_some_iff.1 qA).1).trans qA
          have B2 := BA.trans (b2.mono BA.size)
          have e0 : w2.cell? ⟨wr.heap.size, 0, none⟩ = some (.slice ma ml mc) := cell_of_row _ _ _ _ _ _ q2
          have f0 : w2.frozen? ⟨wr.heap.size, 0, none⟩ = false := by simp [World.frozen?, q2]
          have e1 : w2.cell? ⟨wr.heap.size, 1, none⟩ = some (.int .i64 fr) := cell_of_row _ _ _ _ _ _ q2
          have e2 : w2.cell? ⟨wr.heap.size, 2, none⟩ = some (.int .i64 tt) := cell_of_row _ _ _ _ _ _ q2
          have e3 : w2.cell? ⟨wr.heap.size, 3, none⟩ = some (.int .i64 up) := cell_of_row _ _ _ _ _ _ q2
          obtain ⟨w3, hw3⟩ : ∃ w3, w3 = w2.setCell ⟨wr.heap.size, 0, none⟩ (.slice a2 ml c2') := ⟨_, rfl⟩
          have B3 : Below w.heap.size w w3 := by rw [hw3]; exact B2.setCell (p := ⟨wr.heap.size, 0, none⟩) hb.size _
          have s3 : w3.heap.size = w2.heap.size := by rw [hw3]; simp
          have O3 : OwnD w3 w.heap.size u6 l' := by rw [hw3]; exact hO.out.1.setCell (bA.trans (b2.mono bA.size)) (a := ⟨wr.heap.size, 0, none⟩) (Nat.le_refl _) _
          have M3 : OwnM w3 w.heap.size ⟨a2, ml, c2', ms, fr, tt, up⟩ := by
            refine ⟨?_, hms.1, hms.2.2.2.1, h40⟩
            rw [hw3]
            refine own_setCell (own_lower own2 BA.size) (fun e => ?_) _
            have h7 : wA.heap.size ≤ wr.heap.size := (own2.lt _ e).1
            have := (Array.getElem?_eq_some_iff.1 qA).1
            omega
          obtain ⟨w4, hw4⟩ : ∃ w4, w4 = w3.alloc (.cells #[.slice a2 ml c2', .int .i64 fr, .int .i64 tt, .int .i64 up] 34) := ⟨_, rfl⟩
          have b4 : Below w3.heap.size w3 w4 := by rw [hw4]; exact (Below.refl _ w3).alloc (Nat.le_refl _) _
          have O4 := O3.below b4
          have M4 := M3.below b4
          have B4 := B3.trans (b4.mono B3.size)
          have q4 : w4.heap[w2.heap.size]? = some (.cells #[.slice a2 ml c2', .int .i64 fr, .int .i64 tt, .int .i64 up] 34 (0, 0)) := by rw [hw4, ← s3]; exact heap_alloc_new w3 _
          obtain ⟨va, vc, rfl⟩ := own_slice hO.out.1.1
          have HW : Hid ((w2.setCell ⟨wr.heap.size, 0, none⟩ (.slice a2 ml c2')).alloc (.cells #[.slice a2 ml c2', .int .i64 fr, .int .i64 tt, .int .i64 up] 34) = w4) := hidn (by rw [hw4, hw3])
          have HN : Hid ((l' ++ [(⟨a2, ml, c2', ms, fr, tt, up⟩ : Del)]).map Del.pl = ((l.take (k + 1)).filter (fun d => decide (least ≤ d.up))).map Del.pl) := hidn (by
            rw [HT.out, List.filter_append, List.map_append, List.map_append, hO.out.2]
            simp [hu, Del.pl])
          have S3 := hidn s3
          clear s3 c0 c1 c2 c3 hw3 hw4 O3 M3 b4 B3 own2 hO
          go_wp2_with (at_builtin; rw [HW.out]; refine wpList_append_own _ rfl _ _ 22 rfl w.heap.size 34 i0 z 4 48 Try.underlying22 hi hz0 hz1 hz2 hzc (by decide) _ l'.length (dvs l') rfl O4.1 ⟨w2.heap.size, 0, none⟩ 1 1 [.slice a2 ml c2', .int .i64 fr, .int .i64 tt, .int .i64 up] rfl rfl ?c1 ?c2 ?c3 ?c4 ?c5 ?_)
          case c1 =>
            intro i u hi
            rw [xadd_none, cell_of_row _ _ _ _ _ _ q4]
            match i, hi with
            | 0, hi => simpa using hi
            | 1, hi => simpa using hi
            | 2, hi => simpa using hi
            | 3, hi => simpa using hi
          case c2 =>
            intro u hu
            simp at hu
            rcases hu with rfl | rfl | rfl | rfl <;> rfl
          case c3 => unfold maxLen; omega
          case c4 => omega
          case c5 => exact B4.size
          intro v' w5 own5 hgrow5 _
          have HO : Hid (OwnD w5 w.heap.size v' (l' ++ [⟨a2, ml, c2', ms, fr, tt, up⟩]) ∧ (l' ++ [(⟨a2, ml, c2', ms, fr, tt, up⟩ : Del)]).map Del.pl = ((l.take (k + 1)).filter (fun d => decide (least ≤ d.up))).map Del.pl) := hidn ⟨O4.push M4 own5 hgrow5, HN.out⟩
          have B5 : Below w.heap.size w w5 := B4.grown hgrow5 B4.size (fun k hk => (O4.1.lt k hk).1)
          clear O4 M4 own5 hgrow5
          go_wp2_with fail
          exact ⟨⟨k + 1, _, _, by omega, by simp, rfl, by simp; omega, HO, B5⟩, by simp [intOf]; omega⟩
        · have HN : Hid (((l.take (k + 1)).filter (fun d => decide (least ≤ d.up))).map Del.pl = ((l.take k).filter (fun d => decide (least ≤ d.up))).map Del.pl) := hidn (by
            rw [HT.out, List.filter_append, List.map_append]
            simp [hu])
          have OA : Hid (OwnD wA w.heap.size u6 l' ∧ l'.map Del.pl = ((l.take (k + 1)).filter (fun d => decide (least ≤ d.up))).map Del.pl) := hidn ⟨hO.out.1.below bA, by rw [HN.out, hO.out.2]⟩
          go_wp2_with fail
          rw [← HWA.out]
          exact ⟨⟨k + 1, _, _, by omega, by simp, rfl, by omega, OA, BA⟩, by simp [intOf]; omega⟩
      · have hlt2 : ¬ (k : Int) < (len : Int) := by omega
        have HN : Hid (l'.map Del.pl = (l.filter (fun d => decide (least ≤ d.up))).map Del.pl) := hidn (by
          have := hO.out.2
          rw [List.take_of_length_le (by rw [hlen.out]; omega)] at this
          exact this)
        go_wp2_with fail
        exact bodyPost_ret (v := u6) (by simp [results, Try.results6, go_sem]) rfl ⟨_, _, rfl, hO.out.1, HN.out, hb⟩
end Go.Proofs.Ytdgkjiiegmnjfaa
