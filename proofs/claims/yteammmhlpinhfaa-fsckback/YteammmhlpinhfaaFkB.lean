/- The document's Int and Big, of any bytes. -/
import Derived.Test.YteammmhlpinhfaaFkA
import Derived.Test.YteammmhlpinhfaaPutWalk
import Derived.Test.YteammmhlpinhfaaGetWalk
import Derived.Test.YteammmhlpinhfaaAppA
namespace Go.Proofs.Yteammmhlpinhfaa
open Go.RowKit
set_option linter.unusedVariables false

theorem Bs.lt {w : World} {a : Option Addr} {len : Nat} {zs : List Nat} (h : Bs w a len zs) : ∀ x ∈ zs, x < 256 := h.2.2.1

theorem Bs.from {w : World} {b off len : Nat} {zs : List Nat} (h : Bs w (some ⟨b, off, none⟩) len zs) (k : Nat) (hk : k ≤ len) : Bs w (some ⟨b, off + k, none⟩) (len - k) (zs.drop k) := by
  obtain ⟨h1, h2, h3, h4, h5⟩ := h
  refine ⟨by rw [List.length_drop, h1], by omega, fun x hx => h3 x (List.mem_of_mem_drop hx), (fun e => by cases e), fun x hx j hj => ?_⟩
  cases hx
  have := h5 _ rfl (k + j) (by omega)
  rw [add_none] at this ⊢
  rw [Nat.add_assoc, this]
  simp [List.getD_eq_getElem?_getD]

theorem Bs.end {w : World} {b o : Nat} {zs : List Nat} {k len : Nat} (h : Bs w (some ⟨b, o, none⟩) len zs) (hk : k = len) : Bs w (some ⟨b, o, none⟩) (len - k) (zs.drop k) := by
  obtain ⟨h1, h2, h3, h4, h5⟩ := h
  subst hk
  refine ⟨by rw [List.length_drop, h1], by omega, fun x hx => h3 x (List.mem_of_mem_drop hx), (fun e => by cases e), fun x hx j hj => by omega⟩

theorem take_lt {zs : List Nat} (h : ∀ x ∈ zs, x < 256) (k : Nat) : ∀ x ∈ zs.take k, x < 256 := fun x hx => h x (List.mem_of_mem_take hx)

theorem take_cells {w : World} {b off len k : Nat} {zs : List Nat} (hl : zs.length = len) (hk : k ≤ len) (hc : ∀ j, j < len → w.cell? ⟨b, off + j, none⟩ = some (.int .u8 ((zs.getD j 0 : Nat) : Int))) : ∀ j, j < k → w.cell? ⟨b, off + j, none⟩ = some (.int .u8 (((zs.take k).getD j 0 : Nat) : Int)) := by
  intro j hj
  rw [hc j (by omega)]
  simp [List.getD_eq_getElem?_getD, hj]

theorem refInt_short (w : World) (a : Option Addr) (len cap k : Nat) (hm : len ≤ maxLen) (h : len < k) :
    Calls Try.prog 21 #[.slice a len cap, .int .i64 (k : Int)] w fun e w' => e = .returned (.tuple #[.int .i64 0, .slice none 0 0, .bool false]) ∧ w' = w := by
  unfold maxLen at hm
  have h1 : (len : Int) < (k : Int) := by omega
  go_enter Try.func21, Try.ntmps21
  go_wp2_with fail
  go_ret3
  exact ⟨rfl, rfl⟩

set_option maxHeartbeats 1000000 in
theorem refInt4 (w0 w : World) (a : Option Addr) (len cap : Nat) (zs : List Nat) (h0 : Bs w0 a len zs) (hb0 : Below w0.heap.size w0 w) (hl : 4 ≤ len) (hcp : len ≤ cap) :
    Calls Try.prog 21 #[.slice a len cap, .int .i64 4] w fun e w' => ∃ a' c', e = .returned (.tuple #[.int .i64 (IntKind.i64.wrap ((getB 0 (zs.take 4) : Nat) : Int)), .slice a' (len - 4) c', .bool true]) ∧ Bs w0 a' (len - 4) (zs.drop 4) ∧ len - 4 ≤ c' ∧ Below w.heap.size w w' := by
  have h := h0.below hb0
  obtain ⟨b, off, rfl, hbk, hc⟩ := h.pos (by omega)
  have HG := hidn (refGet_some b off 4 cap (zs.take 4) w (take_lt h.lt 4) (by rw [List.length_take, h.1]; omega) (by omega) (by omega) (take_cells h.1 hl hc))
  obtain ⟨n, hn⟩ : ∃ n, n = getB 0 (zs.take 4) := ⟨_, rfl⟩
  rw [← hn] at HG ⊢
  obtain ⟨x, hx⟩ : ∃ x, IntKind.i64.wrap (n : Int) = x := ⟨_, rfl⟩
  rw [hx]
  have hmm := h.2.1
  unfold maxLen at hmm
  obtain ⟨m, hm⟩ : ∃ m, len = 4 + m := ⟨len - 4, by omega⟩
  have HM : Hid (len - 4 = m) := hidn (by omega)
  rw [HM.out]
  have HF := hidn (h0.from 4 hl)
  have HE : Hid (cap = 4 → Bs w0 (some ⟨b, off, none⟩) (len - 4) (zs.drop 4)) := hidn (fun e => h0.end (by omega))
  rw [HM.out] at HF HE
  have HC : Hid (m ≤ cap - 4) := hidn (by omega)
  have h8i : (4 : Int) ≤ (cap : Int) := by omega
  have hli : ¬ ((len : Int) < 4) := by omega
  have hlc : (len : Int) ≤ (cap : Int) := by omega
  clear hn h h0 hb0 hc hbk
  go_enter Try.func21, Try.ntmps21
  go_wp2_with fail
  refine HG.out.mono ?_
  clear HG
  rintro e w1 ⟨rfl, h1⟩
  subst h1
  go_wp2_with fail
  have HB := hidn ((Below.refl w1.heap.size w1).drew)
  by_cases hcc : cap = 4
  · skip
    refine wp_region_noPanic ?_
    refine wp_region_held_drew (S := fun _ => True) (by kernel_rfl) (trivial) (fun hHeld => ?_)
    refine drawn_take (i := 0) (v := .int .u64 (n : Int)) (some 20) rfl rfl (by kernel_rfl) (by kernel_rfl) (by kernel_rfl) (fun _ _ _ h => h) (Or.inl ⟨by kernel_rfl, fun wq hw => by go_simp⟩) hHeld ?_
    simp only [Act.put, List.setIfInBounds_toArray, List.set_cons_succ, List.set_cons_zero]
    refine drawn_take (i := 1) (v := .int .i64 x) (some 21) rfl rfl (by kernel_rfl) (by kernel_rfl) (by kernel_rfl) (fun _ _ _ h => h) (Or.inl ⟨by kernel_rfl, fun wq hw => by go_simp⟩) hHeld ?_
    simp only [Act.put, List.setIfInBounds_toArray, List.set_cons_succ, List.set_cons_zero]
    refine drawn_take (i := 2) (v := .slice (some ⟨b, off, none⟩) len cap) (some 22) rfl rfl (by kernel_rfl) (by kernel_rfl) (by kernel_rfl) (fun _ _ _ h => h) (Or.inl ⟨by kernel_rfl, fun wq hw => by go_simp⟩) hHeld ?_
    simp only [Act.put, List.setIfInBounds_toArray, List.set_cons_succ, List.set_cons_zero]
    refine drawn_take (i := 3) (v := .int .i64 4) (some 23) rfl rfl (by kernel_rfl) (by kernel_rfl) (by kernel_rfl) (fun _ _ _ h => h) (Or.inl ⟨by kernel_rfl, fun wq hw => by go_simp⟩) hHeld ?_
    simp only [Act.put, List.setIfInBounds_toArray, List.set_cons_succ, List.set_cons_zero]
    refine drawn_take (i := 4) (v := .slice (some ⟨b, off, none⟩) m (cap - 4)) (some 24) rfl rfl (by kernel_rfl) (by kernel_rfl) (by kernel_rfl) (fun _ _ _ h => h) (Or.inl ⟨by kernel_rfl, fun wq hw => by go_simp⟩) hHeld ?_
    simp only [Act.put, List.setIfInBounds_toArray, List.set_cons_succ, List.set_cons_zero]
    refine drawn_take (i := 5) (v := .int .i64 x) (some 4) rfl rfl (by kernel_rfl) (by kernel_rfl) (by kernel_rfl) (fun _ _ _ h => h) (Or.inl ⟨by kernel_rfl, fun wq hw => by go_simp⟩) hHeld ?_
    simp only [Act.put, List.setIfInBounds_toArray, List.set_cons_succ, List.set_cons_zero]
    refine drawn_take (i := 6) (v := .slice (some ⟨b, off, none⟩) m (cap - 4)) (some 5) rfl rfl (by kernel_rfl) (by kernel_rfl) (by kernel_rfl) (fun _ _ _ h => h) (Or.inl ⟨by kernel_rfl, fun wq hw => by go_simp⟩) hHeld ?_
    simp only [Act.put, List.setIfInBounds_toArray, List.set_cons_succ, List.set_cons_zero]
    refine drawn_take (i := 7) (v := .bool true) (some 6) rfl rfl (by kernel_rfl) (by kernel_rfl) (by kernel_rfl) (fun _ _ _ h => h) (Or.inl ⟨by kernel_rfl, fun wq hw => by go_simp⟩) hHeld ?_
    simp only [Act.put, List.setIfInBounds_toArray, List.set_cons_succ, List.set_cons_zero]
    refine wpAnyH_done (by kernel_rfl) ?_ _
    refine NoPanic.normal ?_
    clear hHeld
    go_wp2_with fail
    go_ret3
    exact ⟨_, _, rfl, HE.out hcc, HC.out, HB.out⟩
  · skip
    refine wp_region_noPanic ?_
    refine wp_region_held_drew (S := fun _ => True) (by kernel_rfl) (trivial) (fun hHeld => ?_)
    refine drawn_take (i := 0) (v := .int .u64 (n : Int)) (some 20) rfl rfl (by kernel_rfl) (by kernel_rfl) (by kernel_rfl) (fun _ _ _ h => h) (Or.inl ⟨by kernel_rfl, fun wq hw => by go_simp⟩) hHeld ?_
    simp only [Act.put, List.setIfInBounds_toArray, List.set_cons_succ, List.set_cons_zero]
    refine drawn_take (i := 1) (v := .int .i64 x) (some 21) rfl rfl (by kernel_rfl) (by kernel_rfl) (by kernel_rfl) (fun _ _ _ h => h) (Or.inl ⟨by kernel_rfl, fun wq hw => by go_simp⟩) hHeld ?_
    simp only [Act.put, List.setIfInBounds_toArray, List.set_cons_succ, List.set_cons_zero]
    refine drawn_take (i := 2) (v := .slice (some ⟨b, off, none⟩) len cap) (some 22) rfl rfl (by kernel_rfl) (by kernel_rfl) (by kernel_rfl) (fun _ _ _ h => h) (Or.inl ⟨by kernel_rfl, fun wq hw => by go_simp⟩) hHeld ?_
    simp only [Act.put, List.setIfInBounds_toArray, List.set_cons_succ, List.set_cons_zero]
    refine drawn_take (i := 3) (v := .int .i64 4) (some 23) rfl rfl (by kernel_rfl) (by kernel_rfl) (by kernel_rfl) (fun _ _ _ h => h) (Or.inl ⟨by kernel_rfl, fun wq hw => by go_simp⟩) hHeld ?_
    simp only [Act.put, List.setIfInBounds_toArray, List.set_cons_succ, List.set_cons_zero]
    refine drawn_take (i := 4) (v := .slice (some ⟨b, off + 4, none⟩) m (cap - 4)) (some 24) rfl rfl (by kernel_rfl) (by kernel_rfl) (by kernel_rfl) (fun _ _ _ h => h) (Or.inl ⟨by kernel_rfl, fun wq hw => by go_simp⟩) hHeld ?_
    simp only [Act.put, List.setIfInBounds_toArray, List.set_cons_succ, List.set_cons_zero]
    refine drawn_take (i := 5) (v := .int .i64 x) (some 4) rfl rfl (by kernel_rfl) (by kernel_rfl) (by kernel_rfl) (fun _ _ _ h => h) (Or.inl ⟨by kernel_rfl, fun wq hw => by go_simp⟩) hHeld ?_
    simp only [Act.put, List.setIfInBounds_toArray, List.set_cons_succ, List.set_cons_zero]
    refine drawn_take (i := 6) (v := .slice (some ⟨b, off + 4, none⟩) m (cap - 4)) (some 5) rfl rfl (by kernel_rfl) (by kernel_rfl) (by kernel_rfl) (fun _ _ _ h => h) (Or.inl ⟨by kernel_rfl, fun wq hw => by go_simp⟩) hHeld ?_
    simp only [Act.put, List.setIfInBounds_toArray, List.set_cons_succ, List.set_cons_zero]
    refine drawn_take (i := 7) (v := .bool true) (some 6) rfl rfl (by kernel_rfl) (by kernel_rfl) (by kernel_rfl) (fun _ _ _ h => h) (Or.inl ⟨by kernel_rfl, fun wq hw => by go_simp⟩) hHeld ?_
    simp only [Act.put, List.setIfInBounds_toArray, List.set_cons_succ, List.set_cons_zero]
    refine wpAnyH_done (by kernel_rfl) ?_ _
    refine NoPanic.normal ?_
    clear hHeld
    go_wp2_with fail
    go_ret3
    exact ⟨_, _, rfl, HF.out, HC.out, HB.out⟩

set_option maxHeartbeats 1000000 in
theorem refInt8 (w0 w : World) (a : Option Addr) (len cap : Nat) (zs : List Nat) (h0 : Bs w0 a len zs) (hb0 : Below w0.heap.size w0 w) (hl : 8 ≤ len) (hcp : len ≤ cap) :
    Calls Try.prog 21 #[.slice a len cap, .int .i64 8] w fun e w' => ∃ a' c', e = .returned (.tuple #[.int .i64 (IntKind.i64.wrap ((getB 0 (zs.take 8) : Nat) : Int)), .slice a' (len - 8) c', .bool true]) ∧ Bs w0 a' (len - 8) (zs.drop 8) ∧ len - 8 ≤ c' ∧ Below w.heap.size w w' := by
  have h := h0.below hb0
  obtain ⟨b, off, rfl, hbk, hc⟩ := h.pos (by omega)
  have HG := hidn (refGet_some b off 8 cap (zs.take 8) w (take_lt h.lt 8) (by rw [List.length_take, h.1]; omega) (by omega) (by omega) (take_cells h.1 hl hc))
  obtain ⟨n, hn⟩ : ∃ n, n = getB 0 (zs.take 8) := ⟨_, rfl⟩
  rw [← hn] at HG ⊢
  obtain ⟨x, hx⟩ : ∃ x, IntKind.i64.wrap (n : Int) = x := ⟨_, rfl⟩
  rw [hx]
  have hmm := h.2.1
  unfold maxLen at hmm
  obtain ⟨m, hm⟩ : ∃ m, len = 8 + m := ⟨len - 8, by omega⟩
  have HM : Hid (len - 8 = m) := hidn (by omega)
  rw [HM.out]
  have HF := hidn (h0.from 8 hl)
  have HE : Hid (cap = 8 → Bs w0 (some ⟨b, off, none⟩) (len - 8) (zs.drop 8)) := hidn (fun e => h0.end (by omega))
  rw [HM.out] at HF HE
  have HC : Hid (m ≤ cap - 8) := hidn (by omega)
  have h8i : (8 : Int) ≤ (cap : Int) := by omega
  have hli : ¬ ((len : Int) < 8) := by omega
  have hlc : (len : Int) ≤ (cap : Int) := by omega
  clear hn h h0 hb0 hc hbk
  go_enter Try.func21, Try.ntmps21
  go_wp2_with fail
  refine HG.out.mono ?_
  clear HG
  rintro e w1 ⟨rfl, h1⟩
  subst h1
  go_wp2_with fail
  have HB := hidn ((Below.refl w1.heap.size w1).drew)
  by_cases hcc : cap = 8
  · skip
    refine wp_region_noPanic ?_
    refine wp_region_held_drew (S := fun _ => True) (by kernel_rfl) (trivial) (fun hHeld => ?_)
    refine drawn_take (i := 0) (v := .int .u64 (n : Int)) (some 20) rfl rfl (by kernel_rfl) (by kernel_rfl) (by kernel_rfl) (fun _ _ _ h => h) (Or.inl ⟨by kernel_rfl, fun wq hw => by go_simp⟩) hHeld ?_
    simp only [Act.put, List.setIfInBounds_toArray, List.set_cons_succ, List.set_cons_zero]
    refine drawn_take (i := 1) (v := .int .i64 x) (some 21) rfl rfl (by kernel_rfl) (by kernel_rfl) (by kernel_rfl) (fun _ _ _ h => h) (Or.inl ⟨by kernel_rfl, fun wq hw => by go_simp⟩) hHeld ?_
    simp only [Act.put, List.setIfInBounds_toArray, List.set_cons_succ, List.set_cons_zero]
    refine drawn_take (i := 2) (v := .slice (some ⟨b, off, none⟩) len cap) (some 22) rfl rfl (by kernel_rfl) (by kernel_rfl) (by kernel_rfl) (fun _ _ _ h => h) (Or.inl ⟨by kernel_rfl, fun wq hw => by go_simp⟩) hHeld ?_
    simp only [Act.put, List.setIfInBounds_toArray, List.set_cons_succ, List.set_cons_zero]
    refine drawn_take (i := 3) (v := .int .i64 8) (some 23) rfl rfl (by kernel_rfl) (by kernel_rfl) (by kernel_rfl) (fun _ _ _ h => h) (Or.inl ⟨by kernel_rfl, fun wq hw => by go_simp⟩) hHeld ?_
    simp only [Act.put, List.setIfInBounds_toArray, List.set_cons_succ, List.set_cons_zero]
    refine drawn_take (i := 4) (v := .slice (some ⟨b, off, none⟩) m (cap - 8)) (some 24) rfl rfl (by kernel_rfl) (by kernel_rfl) (by kernel_rfl) (fun _ _ _ h => h) (Or.inl ⟨by kernel_rfl, fun wq hw => by go_simp⟩) hHeld ?_
    simp only [Act.put, List.setIfInBounds_toArray, List.set_cons_succ, List.set_cons_zero]
    refine drawn_take (i := 5) (v := .int .i64 x) (some 4) rfl rfl (by kernel_rfl) (by kernel_rfl) (by kernel_rfl) (fun _ _ _ h => h) (Or.inl ⟨by kernel_rfl, fun wq hw => by go_simp⟩) hHeld ?_
    simp only [Act.put, List.setIfInBounds_toArray, List.set_cons_succ, List.set_cons_zero]
    refine drawn_take (i := 6) (v := .slice (some ⟨b, off, none⟩) m (cap - 8)) (some 5) rfl rfl (by kernel_rfl) (by kernel_rfl) (by kernel_rfl) (fun _ _ _ h => h) (Or.inl ⟨by kernel_rfl, fun wq hw => by go_simp⟩) hHeld ?_
    simp only [Act.put, List.setIfInBounds_toArray, List.set_cons_succ, List.set_cons_zero]
    refine drawn_take (i := 7) (v := .bool true) (some 6) rfl rfl (by kernel_rfl) (by kernel_rfl) (by kernel_rfl) (fun _ _ _ h => h) (Or.inl ⟨by kernel_rfl, fun wq hw => by go_simp⟩) hHeld ?_
    simp only [Act.put, List.setIfInBounds_toArray, List.set_cons_succ, List.set_cons_zero]
    refine wpAnyH_done (by kernel_rfl) ?_ _
    refine NoPanic.normal ?_
    clear hHeld
    go_wp2_with fail
    go_ret3
    exact ⟨_, _, rfl, HE.out hcc, HC.out, HB.out⟩
  · skip
    refine wp_region_noPanic ?_
    refine wp_region_held_drew (S := fun _ => True) (by kernel_rfl) (trivial) (fun hHeld => ?_)
    refine drawn_take (i := 0) (v := .int .u64 (n : Int)) (some 20) rfl rfl (by kernel_rfl) (by kernel_rfl) (by kernel_rfl) (fun _ _ _ h => h) (Or.inl ⟨by kernel_rfl, fun wq hw => by go_simp⟩) hHeld ?_
    simp only [Act.put, List.setIfInBounds_toArray, List.set_cons_succ, List.set_cons_zero]
    refine drawn_take (i := 1) (v := .int .i64 x) (some 21) rfl rfl (by kernel_rfl) (by kernel_rfl) (by kernel_rfl) (fun _ _ _ h => h) (Or.inl ⟨by kernel_rfl, fun wq hw => by go_simp⟩) hHeld ?_
    simp only [Act.put, List.setIfInBounds_toArray, List.set_cons_succ, List.set_cons_zero]
    refine drawn_take (i := 2) (v := .slice (some ⟨b, off, none⟩) len cap) (some 22) rfl rfl (by kernel_rfl) (by kernel_rfl) (by kernel_rfl) (fun _ _ _ h => h) (Or.inl ⟨by kernel_rfl, fun wq hw => by go_simp⟩) hHeld ?_
    simp only [Act.put, List.setIfInBounds_toArray, List.set_cons_succ, List.set_cons_zero]
    refine drawn_take (i := 3) (v := .int .i64 8) (some 23) rfl rfl (by kernel_rfl) (by kernel_rfl) (by kernel_rfl) (fun _ _ _ h => h) (Or.inl ⟨by kernel_rfl, fun wq hw => by go_simp⟩) hHeld ?_
    simp only [Act.put, List.setIfInBounds_toArray, List.set_cons_succ, List.set_cons_zero]
    refine drawn_take (i := 4) (v := .slice (some ⟨b, off + 8, none⟩) m (cap - 8)) (some 24) rfl rfl (by kernel_rfl) (by kernel_rfl) (by kernel_rfl) (fun _ _ _ h => h) (Or.inl ⟨by kernel_rfl, fun wq hw => by go_simp⟩) hHeld ?_
    simp only [Act.put, List.setIfInBounds_toArray, List.set_cons_succ, List.set_cons_zero]
    refine drawn_take (i := 5) (v := .int .i64 x) (some 4) rfl rfl (by kernel_rfl) (by kernel_rfl) (by kernel_rfl) (fun _ _ _ h => h) (Or.inl ⟨by kernel_rfl, fun wq hw => by go_simp⟩) hHeld ?_
    simp only [Act.put, List.setIfInBounds_toArray, List.set_cons_succ, List.set_cons_zero]
    refine drawn_take (i := 6) (v := .slice (some ⟨b, off + 8, none⟩) m (cap - 8)) (some 5) rfl rfl (by kernel_rfl) (by kernel_rfl) (by kernel_rfl) (fun _ _ _ h => h) (Or.inl ⟨by kernel_rfl, fun wq hw => by go_simp⟩) hHeld ?_
    simp only [Act.put, List.setIfInBounds_toArray, List.set_cons_succ, List.set_cons_zero]
    refine drawn_take (i := 7) (v := .bool true) (some 6) rfl rfl (by kernel_rfl) (by kernel_rfl) (by kernel_rfl) (fun _ _ _ h => h) (Or.inl ⟨by kernel_rfl, fun wq hw => by go_simp⟩) hHeld ?_
    simp only [Act.put, List.setIfInBounds_toArray, List.set_cons_succ, List.set_cons_zero]
    refine wpAnyH_done (by kernel_rfl) ?_ _
    refine NoPanic.normal ?_
    clear hHeld
    go_wp2_with fail
    go_ret3
    exact ⟨_, _, rfl, HF.out, HC.out, HB.out⟩

set_option maxHeartbeats 1000000 in
theorem refBig (w : World) (x : Int) :
    Calls Try.prog 18 #[.int .i64 x] w fun e w' => e = .returned (.slice (some ⟨w.heap.size, 0, none⟩) 8 8) ∧ w'.ownsRow w.heap.size 5 1 (.slice (some ⟨w.heap.size, 0, none⟩) 8 8) 8 (vb (putB (mU x) 8)) ∧ Below w.heap.size w w' := by
  obtain ⟨n, hn⟩ : ∃ n, n = mU x := ⟨_, rfl⟩
  have hw1 : IntKind.u64.wrap x = (n : Int) := by rw [mWrap, hn]
  have hn64 : n < 18446744073709551616 := by rw [hn]; exact mU_lt x
  rw [← hn]
  have HP := hidn (refPut_any n 8 8 w hn64 (by omega))
  clear hn
  go_enter Try.func18, Try.ntmps18
  go_wp2_with fail
  refine HP.out.mono ?_
  rintro e w1 ⟨rfl, hown, hb⟩
  have HO := hidn hown
  have HB := hidn hb
  clear hown hb
  go_wp2_with fail
  go_ret
  exact ⟨rfl, HO.out, HB.out⟩

end Go.Proofs.Yteammmhlpinhfaa
