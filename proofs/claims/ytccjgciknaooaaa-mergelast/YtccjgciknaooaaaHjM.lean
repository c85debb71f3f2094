/- merge: what the document's Merged keeps, in plain words; its rises and within. -/
import Derived.Test.YtccjgciknaooaaaHjS
namespace Go.Proofs.Ytccjgciknaooaaa
open Go.RowKit Go.Joins
set_option linter.unusedVariables false

/-- Whether a sample of a time is beaten by those looked at so far. -/
def BeatK (l : List Rk) (i : Nat) (xr ts : Int) (k m : Nat) : Prop :=
  ∃ (q : Nat) (z : Rk) (n : Nat), (q < k ∨ (q = k ∧ n < m)) ∧ l[q]? = some z ∧ n < z.zs.length ∧ (samD z.zs n).t = ts ∧ btR z.rank q xr i

theorem beat_0 (l : List Rk) (i : Nat) (xr ts : Int) : ¬ BeatK l i xr ts 0 0 := by
  rintro ⟨q, z, n, h, _⟩
  rcases h with h | ⟨_, h⟩ <;> omega

theorem beat_more {l : List Rk} {i k m : Nat} {xr ts : Int} {z : Rk} (hz : l[k]? = some z) (hm : m < z.zs.length) : BeatK l i xr ts k (m + 1) ↔ BeatK l i xr ts k m ∨ ((samD z.zs m).t = ts ∧ btR z.rank k xr i) := by
  constructor
  · rintro ⟨q, y, n, h, h1, h2, h3, h4⟩
    by_cases he : q = k ∧ n = m
    · obtain ⟨rfl, rfl⟩ := he
      rw [hz] at h1
      cases h1
      exact .inr ⟨h3, h4⟩
    · refine .inl ⟨q, y, n, ?_, h1, h2, h3, h4⟩
      rcases h with h | ⟨h, h5⟩
      · exact .inl h
      · refine .inr ⟨h, ?_⟩
        have : n ≠ m := fun e => he ⟨h, e⟩
        omega
  · rintro (⟨q, y, n, h, h1⟩ | ⟨h3, h4⟩)
    · refine ⟨q, y, n, ?_, h1⟩
      rcases h with h | ⟨h, h5⟩
      · exact .inl h
      · exact .inr ⟨h, by omega⟩
    · exact ⟨k, z, m, .inr ⟨rfl, by omega⟩, hz, hm, h3, h4⟩

theorem beat_next {l : List Rk} {i k m : Nat} {xr ts : Int} {z : Rk} (hz : l[k]? = some z) (hm : m = z.zs.length) : BeatK l i xr ts (k + 1) 0 ↔ BeatK l i xr ts k m := by
  constructor
  · rintro ⟨q, y, n, h, h1, h2, h3⟩
    refine ⟨q, y, n, ?_, h1, h2, h3⟩
    rcases h with h | ⟨_, h⟩
    · by_cases he : q = k
      · subst he
        rw [hz] at h1
        cases h1
        exact .inr ⟨rfl, by omega⟩
      · exact .inl (by omega)
    · omega
  · rintro ⟨q, y, n, h, h1⟩
    refine ⟨q, y, n, .inl ?_, h1⟩
    rcases h with h | ⟨h, _⟩ <;> omega

/-- A sample counts among all of its time. -/
def WinAt (l : List Rk) (p : Nat) (x : Rk) (y : Sam) : Prop := ∀ (q : Nat) (z : Rk) (k : Nat), l[q]? = some z → k < z.zs.length → (samD z.zs k).t = y.t → ¬ btR z.rank q x.rank p

theorem beat_end {l : List Rk} {i k : Nat} {x : Rk} {y : Sam} (hk : k = l.length) : ¬ BeatK l i x.rank y.t k 0 ↔ WinAt l i x y := by
  constructor
  · intro h q z n h1 h2 h3 h4
    exact h ⟨q, z, n, .inl (by have := (List.getElem?_eq_some_iff.1 h1).1; omega), h1, h2, h3, h4⟩
  · rintro h ⟨q, z, n, _, h1, h2, h3, h4⟩
    exact h q z n h1 h2 h3 h4

/-- What is told of those looked at so far. -/
def Dn (l : List Rk) (floor : Int) (G : List Gp) (i j : Nat) (T : List Sam) : Prop :=
  UpS T ∧ ∀ y, y ∈ T ↔ ∃ (p : Nat) (x : Rk) (k : Nat), (p < i ∨ (p = i ∧ k < j)) ∧ l[p]? = some x ∧ k < x.zs.length ∧ samD x.zs k = y ∧ WinAt l p x y ∧ floor ≤ y.t ∧ inB G y.t = false

theorem dn_0 (l : List Rk) (floor : Int) (G : List Gp) : Dn l floor G 0 0 [] := by
  refine ⟨List.Pairwise.nil, fun y => ⟨fun h => (by cases h), ?_⟩⟩
  rintro ⟨p, x, k, h, _⟩
  rcases h with h | ⟨_, h⟩ <;> omega

theorem dn_skip {l : List Rk} {floor : Int} {G : List Gp} {i j : Nat} {T : List Sam} {x : Rk} (h : Dn l floor G i j T) (hx : l[i]? = some x) (hno : ¬ (WinAt l i x (samD x.zs j) ∧ floor ≤ (samD x.zs j).t ∧ inB G (samD x.zs j).t = false)) : Dn l floor G i (j + 1) T := by
  refine ⟨h.1, fun y => (h.2 y).trans ⟨?_, ?_⟩⟩
  · rintro ⟨p, z, k, h1, h2⟩
    refine ⟨p, z, k, ?_, h2⟩
    rcases h1 with h1 | ⟨h1, h3⟩
    · exact .inl h1
    · exact .inr ⟨h1, by omega⟩
  · rintro ⟨p, z, k, h1, h2, h3, h4, h5⟩
    by_cases he : p = i ∧ k = j
    · obtain ⟨rfl, rfl⟩ := he
      rw [hx] at h2
      cases h2
      subst h4
      exact absurd h5 hno
    · refine ⟨p, z, k, ?_, h2, h3, h4, h5⟩
      rcases h1 with h1 | ⟨h1, h6⟩
      · exact .inl h1
      · refine .inr ⟨h1, ?_⟩
        have : k ≠ j := fun e => he ⟨h1, e⟩
        omega

theorem dn_add {l : List Rk} {floor : Int} {G : List Gp} {i j : Nat} {T T' : List Sam} {x : Rk} (h : Dn l floor G i j T) (hx : l[i]? = some x) (hj : j < x.zs.length) (hw : WinAt l i x (samD x.zs j)) (hf : floor ≤ (samD x.zs j).t) (hg : inB G (samD x.zs j).t = false) (hu : UpS T') (hT : ∀ y, y ∈ T' ↔ y = samD x.zs j ∨ y ∈ T) : Dn l floor G i (j + 1) T' := by
  refine ⟨hu, fun y => (hT y).trans ⟨?_, ?_⟩⟩
  · rintro (rfl | hy)
    · exact ⟨i, x, j, .inr ⟨rfl, by omega⟩, hx, hj, rfl, hw, hf, hg⟩
    · obtain ⟨p, z, k, h1, h2⟩ := (h.2 y).1 hy
      refine ⟨p, z, k, ?_, h2⟩
      rcases h1 with h1 | ⟨h1, h3⟩
      · exact .inl h1
      · exact .inr ⟨h1, by omega⟩
  · rintro ⟨p, z, k, h1, h2, h3, h4, h5⟩
    by_cases he : p = i ∧ k = j
    · obtain ⟨rfl, rfl⟩ := he
      rw [hx] at h2
      cases h2
      exact .inl h4.symm
    · refine .inr ((h.2 y).2 ⟨p, z, k, ?_, h2, h3, h4, h5⟩)
      rcases h1 with h1 | ⟨h1, h6⟩
      · exact .inl h1
      · refine .inr ⟨h1, ?_⟩
        have : k ≠ j := fun e => he ⟨h1, e⟩
        omega

theorem dn_new {l : List Rk} {floor : Int} {G : List Gp} {i j : Nat} {T : List Sam} {x : Rk} (hup : ∀ (q : Nat) (z : Rk), l[q]? = some z → UpZ z.zs) (h : Dn l floor G i j T) (hx : l[i]? = some x) (hj : j < x.zs.length) (hw : WinAt l i x (samD x.zs j)) : ∀ y ∈ T, y.t ≠ (samD x.zs j).t := by
  intro y hy ht
  obtain ⟨p, z, k, h1, h2, h3, h4, h5, _⟩ := (h.2 y).1 hy
  subst h4
  have a1 := hw p z k h2 h3 ht
  have a2 := h5 i x j hx hj ht.symm
  have hpi : p = i := by
    unfold btR at a1 a2
    omega
  subst hpi
  rw [hx] at h2
  cases h2
  rcases h1 with h1 | ⟨_, h1⟩
  · omega
  · have := hup p x hx k j h1 hj
    omega

theorem dn_next {l : List Rk} {floor : Int} {G : List Gp} {i j : Nat} {T : List Sam} {x : Rk} (h : Dn l floor G i j T) (hx : l[i]? = some x) (hj : j = x.zs.length) : Dn l floor G (i + 1) 0 T := by
  refine ⟨h.1, fun y => (h.2 y).trans ⟨?_, ?_⟩⟩
  · rintro ⟨p, z, k, h1, h2⟩
    refine ⟨p, z, k, .inl ?_, h2⟩
    rcases h1 with h1 | ⟨h1, _⟩ <;> omega
  · rintro ⟨p, z, k, h1, h2, h3⟩
    refine ⟨p, z, k, ?_, h2, h3⟩
    rcases h1 with h1 | ⟨_, h1⟩
    · by_cases he : p = i
      · subst he
        rw [hx] at h2
        cases h2
        exact .inr ⟨rfl, by omega⟩
      · exact .inl (by omega)
    · omega

theorem dn_end {l : List Rk} {floor : Int} {G : List Gp} {i : Nat} {T : List Sam} (h : Dn l floor G i 0 T) (hi : i = l.length) : TellP l floor G T := by
  refine ⟨h.1, fun y => (h.2 y).trans ⟨?_, ?_⟩⟩
  · rintro ⟨p, x, k, _, h2, h3, h4, h5, h6, h7⟩
    exact ⟨⟨p, x, k, h2, h3, h4, h5⟩, h6, h7⟩
  · rintro ⟨⟨p, x, k, h2, h3, h4, h5⟩, h6, h7⟩
    exact ⟨p, x, k, .inl (by have := (List.getElem?_eq_some_iff.1 h2).1; omega), h2, h3, h4, h5, h6, h7⟩

theorem totZ_le (l : List Rk) (k : Nat) : totZ (l.take k) ≤ totZ l := by
  have e : ∀ a b : List Rk, totZ (a ++ b) = totZ a + totZ b := by
    intro a b
    induction a with
    | nil => simp [totZ]
    | cons r t ih => simp [totZ, ih]; omega
  have := e (l.take k) (l.drop k)
  rw [List.take_append_drop] at this
  omega

theorem inB_more (G : List Gp) (k : Nat) (t : Int) (h : k < G.length) : inB (G.take (k + 1)) t = (inB (G.take k) t || (decide ((gpD G k).f ≤ t) && decide (t ≤ (gpD G k).t))) := by
  rw [gtake_more G k h]
  simp [inB, List.any_append]

set_option maxHeartbeats 4000000 in
set_option maxRecDepth 100000 in
theorem within_any (a : Option Addr) (len cap : Nat) (G : List Gp) (t : Int) (w : World) (h : Gps w a len G) :
    Calls Try.prog 20 #[.slice a len cap, .int .i64 t] w fun e w' => e = .returned (.bool (inB G t)) ∧ Below w.heap.size w w' := by
  have HL := hidn h.1
  have H := hidn h
  have hlm := h.2.1
  unfold maxLen at hlm
  clear h
  go_enter Try.func20, Try.ntmps20
  go_wp2_with fail
  go_loopw [9] (fun iv wr => ∃ k : Nat, k ≤ len ∧ iv = .int .i64 (k : Int) ∧ Hid (Below w.heap.size w wr) ∧ Hid (inB (G.take k) t = false)) (fun iv _ => len - (intOf iv).toNat)
  case atStart => exact ⟨0, Nat.zero_le _, rfl, hidn (Below.refl _ _), hidn rfl⟩
  case round =>
    obtain ⟨k, hk, rfl, HB, HK⟩ := hrel
    by_cases hlt : k < len
    · have hlt2 : (k : Int) < (len : Int) := by omega
      obtain ⟨b, off, rfl, hb, hcl⟩ := H.out.pos (by omega)
      have c0 : wr.cell? ⟨b, off + k * 2, none⟩ = some (.int .i64 (gpD G k).f) := (HB.out.cell (p := ⟨b, off + k * 2, none⟩) hb).trans (hcl k hlt).1
      have c1 : wr.cell? ⟨b, off + k * 2 + 1, none⟩ = some (.int .i64 (gpD G k).t) := (HB.out.cell (p := ⟨b, off + k * 2 + 1, none⟩) hb).trans (hcl k hlt).2
      have HM := hidn (inB_more G k t (by rw [HL.out]; exact hlt))
      obtain ⟨gf, hgf⟩ : ∃ x, x = (gpD G k).f := ⟨_, rfl⟩
      obtain ⟨gt, hgt⟩ : ∃ x, x = (gpD G k).t := ⟨_, rfl⟩
      rw [← hgf] at c0 HM
      rw [← hgt] at c1 HM
      obtain ⟨w1, hw1⟩ : ∃ w1, w1 = wr.alloc (.cells #[.int .i64 gf, .int .i64 gt] 62) := ⟨_, rfl⟩
      have hb1 : Below wr.heap.size wr w1 := by rw [hw1]; exact (Below.refl _ wr).alloc (Nat.le_refl _) _
      have q1 : w1.heap[wr.heap.size]? = some (.cells #[.int .i64 gf, .int .i64 gt] 62 (0, 0)) := by rw [hw1]; exact heap_alloc_new wr _
      have e0 : w1.cell? ⟨wr.heap.size, 0, none⟩ = some (.int .i64 gf) := cell_of_row _ _ _ _ _ _ q1
      have e1 : w1.cell? ⟨wr.heap.size, 1, none⟩ = some (.int .i64 gt) := cell_of_row _ _ _ _ _ _ q1
      have HB1 := hidn (HB.out.trans (hb1.mono HB.out.size))
      have HW1 := hidn hw1
      clear hcl hgf hgt hw1 hb1 q1
      by_cases h1 : gf ≤ t
      · by_cases h2 : t ≤ gt
        · have HY : Hid (inB G t = true) := hidn (by
            have h9 : inB (G.take (k + 1)) t = true := by rw [HM.out]; simp [h1, h2]
            obtain ⟨g, hg, h3⟩ := (inB_cov _ t).1 h9
            exact (inB_cov _ t).2 ⟨g, List.mem_of_mem_take hg, h3⟩)
          go_wp2_with fail
          rw [← HW1.out]
          go_wp2_with fail
          go_ret
          exact ⟨by rw [HY.out]; rfl, HB1.out⟩
        · have HN : Hid (inB (G.take (k + 1)) t = false) := hidn (by rw [HM.out, HK.out]; simp [h2])
          go_wp2_with fail
          rw [← HW1.out]
          go_wp2_with fail
          go_roundw
          case rel => exact ⟨k + 1, by omega, by first | rfl | simp, HB1, HN⟩
          case measure => simp [intOf]; omega
      · have HN : Hid (inB (G.take (k + 1)) t = false) := hidn (by rw [HM.out, HK.out]; simp [h1])
        go_wp2_with fail
        rw [← HW1.out]
        go_wp2_with fail
        go_roundw
        case rel => exact ⟨k + 1, by omega, by first | rfl | simp, HB1, HN⟩
        case measure => simp [intOf]; omega
    · obtain rfl : k = len := by omega
      have HN : Hid (inB G t = false) := hidn (by have h9 := HK.out; rwa [List.take_of_length_le (by rw [HL.out]; omega)] at h9)
      go_wp2_with fail
      go_ret
      exact ⟨by rw [HN.out]; rfl, HB.out⟩

set_option maxHeartbeats 4000000 in
set_option maxRecDepth 100000 in
theorem refRises_any (a : Option Addr) (len cap : Nat) (l : List Sam) (w : World) (h : Sm w a len l) :
    Calls Try.prog 19 #[.slice a len cap] w fun e w' => e = .returned (.bool (riseB l)) ∧ Below w.heap.size w w' := by
  have HL := hidn h.1
  have H := hidn h
  have hlm := h.2.1
  unfold maxLen at hlm
  clear h
  go_enter Try.func19, Try.ntmps19
  go_wp2_with fail
  go_loopw [6] (fun iv wr => ∃ k : Nat, k ≤ len ∧ iv = .int .i64 (k : Int) ∧ Hid (Below w.heap.size w wr) ∧ Hid (∀ i, i + 1 < k → (samD l i).t < (samD l (i + 1)).t)) (fun iv _ => len - (intOf iv).toNat)
  case atStart => exact ⟨0, Nat.zero_le _, rfl, hidn (Below.refl _ _), hidn (fun i hi => by omega)⟩
  case round =>
    obtain ⟨k, hk, rfl, HB, HK⟩ := hrel
    by_cases hlt : k < len
    · have hlt2 : (k : Int) < (len : Int) := by omega
      obtain ⟨b, off, rfl, hb, hcl⟩ := H.out.pos (by omega)
      have c0 : wr.cell? ⟨b, off + k * 2, none⟩ = some (.int .i64 (samD l k).t) := (HB.out.cell (p := ⟨b, off + k * 2, none⟩) hb).trans (hcl k hlt).1
      obtain ⟨tk, htk⟩ : ∃ tk, tk = (samD l k).t := ⟨_, rfl⟩
      rw [← htk] at c0
      have HTK := hidn htk
      cases k with
      | zero =>
        have HK1 : Hid (∀ i, i + 1 < 1 → (samD l i).t < (samD l (i + 1)).t) := hidn (fun i hi => by omega)
        have c0' : wr.cell? ⟨b, off, none⟩ = some (.int .i64 tk) := by simpa using c0
        clear htk hcl c0
        go_wp2_with fail
        go_region
        go_wp2_with fail
        go_roundw
        case rel => exact ⟨1, by omega, by first | rfl | simp, hidn (HB.out.trans ⟨rfl, rfl, rfl, Nat.le_refl _, fun _ _ => rfl⟩), HK1⟩
        case measure => simp [intOf]; omega
      | succ j =>
        have hjl : j < len := by omega
        have hjl2 : (j : Int) < (len : Int) := by omega
        have hj0 : (0 : Int) < (j : Int) + 1 := by omega
        have hjn : ¬ (j : Int) < 0 := by omega
        have hj1 : (j : Int) + 1 - 1 = (j : Int) := by omega
        have d0 : wr.cell? ⟨b, off + j * 2, none⟩ = some (.int .i64 (samD l j).t) := (HB.out.cell (p := ⟨b, off + j * 2, none⟩) hb).trans (hcl j hjl).1
        obtain ⟨tj, htj⟩ : ∃ tj, tj = (samD l j).t := ⟨_, rfl⟩
        rw [← htj] at d0
        have HTJ := hidn htj
        by_cases hge : tk ≤ tj
        · have HC : Hid (riseB l = false) := hidn (riseB_no j (by rw [HL.out]; exact hlt) (by rw [← HTJ.out, ← HTK.out]; exact hge))
          clear htk hcl htj
          go_wp2_with fail
          go_region
          go_wp2_with fail
          go_ret
          exact ⟨by rw [HC.out]; rfl, HB.out.trans ⟨rfl, rfl, rfl, Nat.le_refl _, fun _ _ => rfl⟩⟩
        · have HK1 : Hid (∀ i, i + 1 < j + 1 + 1 → (samD l i).t < (samD l (i + 1)).t) := hidn (fun i hi => by
            by_cases hij : i = j
            · subst hij
              rw [← HTJ.out, ← HTK.out]; omega
            · exact HK.out i (by omega))
          clear htk hcl htj
          go_wp2_with fail
          go_region
          go_wp2_with fail
          go_roundw
          case rel => exact ⟨j + 1 + 1, by omega, by first | rfl | simp, hidn (HB.out.trans ⟨rfl, rfl, rfl, Nat.le_refl _, fun _ _ => rfl⟩), HK1⟩
          case measure => simp [intOf]; omega
    · have hlt2 : ¬ (k : Int) < (len : Int) := by omega
      have HC : Hid (riseB l = true) := hidn (riseB_yes (fun i hi => HK.out i (by rw [HL.out] at hi; omega)))
      go_wp2_with fail
      go_ret
      exact ⟨by rw [HC.out]; rfl, HB.out⟩
end Go.Proofs.Ytccjgciknaooaaa
