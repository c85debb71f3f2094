/- Spots: scrub.without, scrub.Note. -/
import Derived.Test.YtidlogeeophogaaDoorSpK
namespace Go.Proofs.YtidlogeeophogaaDoor.Sp
open Go.RowKit Go.Joins Go.Lib
set_option linter.unusedVariables false
set_option linter.unusedSimpArgs false

theorem own_cap {w : World} {base e size n c : Nat} {a : Option Addr} {xs : List Value} (h : w.ownsRow base e size (.slice a n c) n xs) : a = none → c = 0 := by
  intro ha
  subst ha
  rcases h.2 with ⟨h1, _⟩ | ⟨g, cap, cur, h1, _⟩
  · injection h1 with _ _ h3
  · injection h1 with h2; cases h2

/-- Those that others have not. -/
def leftS (others l : List Spt) : List Spt := l.filter fun s => !inS others s

theorem leftS_more {others l : List Spt} {k : Nat} {s : Spt} (h : l[k]? = some s) : leftS others (l.take (k + 1)) = if inS others s then leftS others (l.take k) else leftS others (l.take k) ++ [s] := by
  unfold leftS
  rw [List.take_add_one, h, List.filter_append]
  cases hq : inS others s <;> simp [hq]

set_option maxHeartbeats 4000000 in
set_option maxRecDepth 100000 in
theorem without_any (a b2 : Option Addr) (len cap blen bcap : Nat) (l others : List Spt) (w : World) (h : Fls w a len l) (h2 : Fls w b2 blen others) (hr : RiseS l) (hr2 : RiseS others) (hm : len ≤ 900) (hm2 : blen ≤ 1000) :
    Calls Tryd.prog 17 #[.slice a len cap, .slice b2 blen bcap] w (RisP (fun x => x ∈ l ∧ x ∉ others) len w) := by
  have HL := hidn h.1
  have H := hidn h
  have H2 := hidn h2
  have HR := hidn hr
  have HR2 := hidn hr2
  clear h h2 hr hr2
  go_enter Tryd.func17, Tryd.ntmps17
  go_wp2_with fail
  go_loopw [5, 12] (fun sv iv wr => ∃ k : Nat, k ≤ len ∧ iv = .int .i64 (k : Int) ∧ Hid ((leftS others (l.take k)).length ≤ k) ∧ Hid (Below w.heap.size w wr) ∧ Hid (wr.ownsRow w.heap.size 25 2 sv (leftS others (l.take k)).length (fvs (leftS others (l.take k))))) (fun _ iv _ => len - (intOf iv).toNat)
  case atStart => exact ⟨0, Nat.zero_le _, rfl, hidn (by simp [leftS]), hidn (Below.refl _ _), hidn (World.ownsRow_nil _ _ _ _)⟩
  case round =>
    obtain ⟨k, hk, rfl, HLK, HB, HO⟩ := hrel
    obtain ⟨wo, hwo⟩ : ∃ wo, wo = wr := ⟨_, rfl⟩
    subst hwo
    obtain ⟨n, hn⟩ : ∃ n, n = (leftS others (l.take k)).length := ⟨_, rfl⟩
    rw [← hn] at HO HLK
    have hnk : n ≤ k := HLK.out
    have HN := hidn hn
    clear hn
    by_cases hlt : k < len
    · have hlt2 : (k : Int) < (len : Int) := by omega
      obtain ⟨x, hx⟩ : ∃ x, l[k]? = some x := ⟨_, List.getElem?_eq_getElem (by rw [HL.out]; exact hlt)⟩
      obtain ⟨b, off, rfl, hb, c0, c1, _⟩ := (H.out.below HB.out).at hx
      have HLM := hidn (leftS_more (others := others) hx)
      obtain ⟨w1, hw1⟩ : ∃ w1, w1 = wo.alloc (.cells #[.string x.nm, .int .i64 x.ix] 25) := ⟨_, rfl⟩
      have b1 : Below wo.heap.size wo w1 := by rw [hw1]; exact (Below.refl _ wo).alloc (Nat.le_refl _) _
      have q1 : w1.heap[wo.heap.size]? = some (.cells #[.string x.nm, .int .i64 x.ix] 25 (0, 0)) := by rw [hw1]; exact heap_alloc_new wo _
      have s1 : wo.heap.size < w1.heap.size := (Array.getElem?_eq_some_iff.1 q1).1
      have bw1 : Below w.heap.size w w1 := HB.out.trans (b1.mono HB.out.size)
      have e0 : w1.cell? ⟨wo.heap.size, 0, none⟩ = some (.string x.nm) := cell_of_row _ _ _ _ _ _ q1
      have e1 : w1.cell? ⟨wo.heap.size, 1, none⟩ = some (.int .i64 x.ix) := cell_of_row _ _ _ _ _ _ q1
      obtain ⟨fb, hfb⟩ : ∃ fb, fb = inS others x := ⟨_, rfl⟩
      have HF := hidn (bsf_any b2 blen bcap others x w1 (H2.out.below bw1) HR2.out hm2)
      rw [← hfb] at HF HLM
      have HW1 := hidn hw1
      have HQ1 := hidn q1
      have HO1 := hidn (own_skip HO.out b1)
      have HBW1 := hidn bw1
      have HS1 := hidn s1
      clear hx hw1 b1 q1 bw1 s1 hfb e0 e1
      go_wp2_with fail
      rw [← HW1.out]
      have e0 : w1.cell? ⟨wo.heap.size, 0, none⟩ = some (.string x.nm) := cell_of_row _ _ _ _ _ _ HQ1.out
      have e1 : w1.cell? ⟨wo.heap.size, 1, none⟩ = some (.int .i64 x.ix) := cell_of_row _ _ _ _ _ _ HQ1.out
      refine HF.out.mono ?_
      rintro e w2 ⟨ii, rfl, b2'⟩
      have HBW2 := hidn (HBW1.out.trans (b2'.mono HBW1.out.size))
      have HO2 := hidn (own_skip HO1.out b2')
      have q2 := (b2'.block _ HS1.out).trans HQ1.out
      have z0 : w2.cell? ⟨wo.heap.size, 0, none⟩ = some (.string x.nm) := cell_of_row _ _ _ _ _ _ q2
      have z1 : w2.cell? ⟨wo.heap.size, 1, none⟩ = some (.int .i64 x.ix) := cell_of_row _ _ _ _ _ _ q2
      clear b2' q2 e0 e1
      cases fb
      · have HLN : Hid (leftS others (l.take (k + 1)) = leftS others (l.take k) ++ [x]) := hidn (by rw [HLM.out]; rfl)
        obtain ⟨w3, hw3⟩ : ∃ w3, w3 = w2.alloc (.cells #[.string x.nm, .int .i64 x.ix] 25) := ⟨_, rfl⟩
        have b3 : Below w2.heap.size w2 w3 := by rw [hw3]; exact (Below.refl _ w2).alloc (Nat.le_refl _) _
        have q3 : w3.heap[w2.heap.size]? = some (.cells #[.string x.nm, .int .i64 x.ix] 25 (0, 0)) := by rw [hw3]; exact heap_alloc_new w2 _
        obtain ⟨va, vc, hva⟩ := own_slice HO2.out
        subst hva
        obtain ⟨a', c', w4, hr, ho4, hg4⟩ := appF w3 w.heap.size va n vc (fvs (leftS others (l.take k))) (own_skip HO2.out b3) (Nat.le_trans HBW2.out.size b3.size) (some ⟨w2.heap.size, 0, none⟩) 1 1 x.cells (srcOne q3) (n + 1) rfl (by omega)
        have HRU := hidn hr
        have HW3 := hidn hw3
        have HB4 : Hid (Below w.heap.size w w4) := hidn ((HBW2.out.trans (b3.mono HBW2.out.size)).grown hg4 (Nat.le_trans HBW2.out.size b3.size) (fun j hj => (HO2.out.lt j hj).1))
        have HLE : Hid ((leftS others (l.take (k + 1))).length = n + 1) := hidn (by rw [HLN.out, List.length_append, ← HN.out]; rfl)
        have HO4 : Hid (w4.ownsRow w.heap.size 25 2 (.slice a' (n + 1) c') (leftS others (l.take (k + 1))).length (fvs (leftS others (l.take (k + 1))))) := hidn (by rw [HLE.out, HLN.out, fvs_append]; simpa [fvs] using ho4)
        have HLK2 : Hid ((leftS others (l.take (k + 1))).length ≤ k + 1) := hidn (by rw [HLE.out]; omega)
        clear hr hw3 b3 q3 ho4 hg4
        go_wp2_with (at_builtin; rw [← HW3.out]; refine wpList_app_runM rfl (.tmp 24) (.tmp 26) 22 22 22 rfl rfl (.slice va n vc) (.slice (some ⟨w2.heap.size, 0, none⟩) 1 1) _ rfl rfl HRU.out ?_)
        go_roundw
        case rel => first | exact ⟨k + 1, by omega, by first | rfl | simp, HLK2, HB4, HO4⟩ | (repeat apply Exists.intro; exact ⟨⟨k + 1, by omega, by first | rfl | simp, HLK2, HB4, HO4⟩, rfl⟩)
        case measure => simp [intOf]; omega
      · have HLN : Hid (leftS others (l.take (k + 1)) = leftS others (l.take k)) := hidn (by rw [HLM.out]; rfl)
        have HLK2 : Hid ((leftS others (l.take (k + 1))).length ≤ k + 1) := hidn (by rw [HLN.out, ← HN.out]; omega)
        have HO4 : Hid (w2.ownsRow w.heap.size 25 2 u5 (leftS others (l.take (k + 1))).length (fvs (leftS others (l.take (k + 1))))) := hidn (by rw [HLN.out, ← HN.out]; exact HO2.out)
        go_wp2_with fail
        go_roundw
        case rel => first | exact ⟨k + 1, by omega, by first | rfl | simp, HLK2, HBW2, HO4⟩ | (repeat apply Exists.intro; exact ⟨⟨k + 1, by omega, by first | rfl | simp, HLK2, HBW2, HO4⟩, rfl⟩)
        case measure => simp [intOf]; omega
    · obtain rfl : k = len := by omega
      have hlt2 : ¬ (k : Int) < (k : Int) := by omega
      have HTK : Hid (l.take k = l) := hidn (List.take_of_length_le (by rw [HL.out]; omega))
      rw [HTK.out] at HN HO
      have hle : n ≤ k := hnk
      clear hlt
      go_wp2_with fail
      go_ret
      refine ⟨u5, leftS others l, rfl, HR.out.filter _, fun x => ?_, by rw [← HN.out]; exact hle, by rw [← HN.out]; exact HO.out, HB.out⟩
      unfold leftS
      rw [List.mem_filter]
      have := inS_mem others x
      cases hq : inS others x <;> simp [hq] at this ⊢ <;> simp [this]

set_option maxHeartbeats 2000000 in
set_option maxRecDepth 100000 in
theorem note_any (a1 b2 : Option Addr) (len1 cap1 len2 cap2 : Nat) (l1 l2 : List Spt) (add : Bool) (w : World) (h1 : Fls w a1 len1 l1) (h2 : Fls w b2 len2 l2) (hm1 : len1 ≤ 400) (hm2 : len2 ≤ 400) (hn1 : a1 = none → cap1 = 0) (hn2 : b2 = none → cap2 = 0) :
    Calls Tryd.prog 8 #[.slice a1 len1 cap1, .slice b2 len2 cap2, .bool add] w (RisP (NoteM add l1 l2) (if add then len1 + len2 else len1) w) := by
  have H1 := hidn h1
  have H2 := hidn h2
  cases add with
  | true =>
    obtain ⟨w1, hw1⟩ : ∃ w1, w1 = w.alloc (.cells #[.slice a1 len1 cap1, .slice b2 len2 cap2] 22) := ⟨_, rfl⟩
    have b1 : Below w.heap.size w w1 := by rw [hw1]; exact (Below.refl _ w).alloc (Nat.le_refl _) _
    have q1 : w1.heap[w.heap.size]? = some (.cells #[.slice a1 len1 cap1, .slice b2 len2 cap2] 22 (0, 0)) := by rw [hw1]; exact heap_alloc_new w _
    have hcs : Cs w1 w.heap.size [⟨a1, len1, cap1, l1⟩, ⟨b2, len2, cap2, l2⟩] := by
      intro k s hs
      match k, hs with
      | 0, hs => cases hs; exact ⟨cell_of_row _ _ _ _ _ _ q1, h1.below b1⟩
      | 1, hs => cases hs; exact ⟨cell_of_row _ _ _ _ _ _ q1, h2.below b1⟩
      | k + 2, hs => simp at hs
    have hcat : catL [⟨a1, len1, cap1, l1⟩, ⟨b2, len2, cap2, l2⟩] = l1 ++ l2 := by simp [catL]
    have HC := hidn (concat_any w.heap.size 2 2 [⟨a1, len1, cap1, l1⟩, ⟨b2, len2, cap2, l2⟩] w1 hcs rfl (by rw [hcat, List.length_append, h1.1, h2.1]; omega) (by omega))
    rw [hcat] at HC
    have HB1 := hidn b1
    have HW1 := hidn hw1
    have HLL : Hid ((l1 ++ l2).length = len1 + len2) := hidn (by rw [List.length_append, h1.1, h2.1])
    clear h1 h2 hw1 b1 q1 hcs hcat
    go_enter Tryd.func8, Tryd.ntmps8
    go_wp2_with fail
    rw [← HW1.out]
    refine HC.out.mono ?_
    rintro e w2 ⟨v, rfl, ho, hb⟩
    obtain ⟨va, vc, rfl, hF, _⟩ := fls_of_own ho rfl
    rw [HLL.out] at hF ho ⊢
    have HB2 := hidn (HB1.out.trans (hb.mono HB1.out.size))
    have HK := hidn (rising_any va (len1 + len2) vc (l1 ++ l2) w2 hF (by omega) (own_cap ho))
    clear ho hb hF HC
    go_wp2_with fail
    refine HK.out.mono ?_
    rintro e w3 ⟨v3, L, rfl, hr, hx, hle, ho3, hb3⟩
    have HB3 := hidn (HB2.out.trans (hb3.mono HB2.out.size))
    have HX := hidn hx
    have HR := hidn hr
    have HO3 := hidn (own_lower ho3 HB2.out.size)
    clear hb3 hx hr ho3 HK
    go_wp2_with fail
    go_ret
    exact ⟨v3, L, rfl, HR.out, fun x => by rw [HX.out x]; simp [NoteM], by simpa using hle, HO3.out, HB3.out⟩
  | false =>
    have HK1 := hidn (rising_any a1 len1 cap1 l1 w h1 (by omega) hn1)
    clear h1 h2
    go_enter Tryd.func8, Tryd.ntmps8
    go_wp2_with fail
    refine HK1.out.mono ?_
    rintro e w1 ⟨v1, L1, rfl, hr1, hx1, hle1, ho1, hb1⟩
    have HB1 := hidn hb1
    have HX1 := hidn hx1
    have HR1 := hidn hr1
    have HO1 := hidn ho1
    have HK2 := hidn (rising_any b2 len2 cap2 l2 w1 (H2.out.below hb1) (by omega) hn2)
    clear hb1 hx1 hr1 ho1 HK1
    go_wp2_with fail
    refine HK2.out.mono ?_
    rintro e w2 ⟨v2, L2, rfl, hr2, hx2, hle2, ho2, hb2⟩
    have HB2 := hidn (HB1.out.trans (hb2.mono HB1.out.size))
    obtain ⟨va1, vc1, rfl, hF1, _⟩ := fls_of_own (own_skip HO1.out hb2) rfl
    obtain ⟨va2, vc2, rfl, hF2, _⟩ := fls_of_own ho2 rfl
    have HX2 := hidn hx2
    have HKW := hidn (without_any va1 va2 L1.length vc1 L2.length vc2 L1 L2 w2 hF1 hF2 HR1.out hr2 (by omega) (by omega))
    clear hb2 hx2 hr2 ho2 hF1 hF2 HK2
    go_wp2_with fail
    refine HKW.out.mono ?_
    rintro e w3 ⟨v3, L, rfl, hr, hx, hle, ho3, hb3⟩
    have HB3 := hidn (HB2.out.trans (hb3.mono HB2.out.size))
    have HX := hidn hx
    have HR := hidn hr
    have HO3 := hidn (own_lower ho3 HB2.out.size)
    have hle3 : L.length ≤ len1 := by omega
    clear hb3 hx hr ho3 HKW
    go_wp2_with fail
    go_ret
    exact ⟨v3, L, rfl, HR.out, fun x => by rw [HX.out x, HX1.out x, HX2.out x]; simp [NoteM], by simpa using hle3, HO3.out, HB3.out⟩
end Go.Proofs.YtidlogeeophogaaDoor.Sp
