/- Words of numbers: their bytes; the document's Int and Big; lists of numbers held against each other. -/
import Derived.Test.YtfgfkifdokeefaaDoorMg
import Derived.Test.YtfgfkifdokeefaaDoorPutWalk
import Derived.Test.YtfgfkifdokeefaaDoorGetWalk
import Derived.Test.YtfgfkifdokeefaaDoorAppA
namespace Go.Proofs.YtfgfkifdokeefaaDoor
open Go.RowKit Go.Joins
set_option linter.unusedVariables false

def mU (x : Int) : Nat := (x % 18446744073709551616).toNat

def mW (xs : List Int) : List Nat := (xs.map fun x => putB (mU x) 8).flatten

theorem mU_lt (x : Int) : mU x < 18446744073709551616 := by unfold mU; omega

theorem mWrap (x : Int) : IntKind.u64.wrap x = (mU x : Int) := by rw [IntKind.wrap_u64]; unfold mU; omega

theorem mW_snoc (xs : List Int) (x : Int) : mW (xs ++ [x]) = mW xs ++ putB (mU x) 8 := by simp [mW]

theorem mW_cons (xs : List Int) (x : Int) : mW (x :: xs) = putB (mU x) 8 ++ mW xs := by simp [mW]

theorem mW_length : ∀ xs : List Int, (mW xs).length = 8 * xs.length
  | [] => rfl
  | x :: r => by rw [mW_cons, List.length_append, putB_length, mW_length r, List.length_cons]; omega

theorem mW_lt (xs : List Int) : ∀ y ∈ mW xs, y < 256 := by
  intro y hy
  simp only [mW, List.mem_flatten, List.mem_map] at hy
  obtain ⟨l, ⟨x, _, rfl⟩, h⟩ := hy
  exact putB_lt 8 _ y h

theorem mW_part : ∀ (xs : List Int) (j : Nat) (x : Int), xs[j]? = some x → ((mW xs).drop (j * 8)).take 8 = putB (mU x) 8
  | [], j, x, h => by simp at h
  | y :: r, 0, x, h => by
    simp at h
    subst h
    rw [mW_cons, Nat.zero_mul, List.drop_zero, List.take_append_of_le_length (by rw [putB_length]; omega), List.take_of_length_le (by rw [putB_length]; omega)]
  | y :: r, j + 1, x, h => by
    rw [mW_cons, show (j + 1) * 8 = 8 + j * 8 from by omega, ← List.drop_drop, List.drop_left' (putB_length 8 _)]
    exact mW_part r j x (by simpa using h)

/-- A number that bytes say. -/
def mN (zs : List Nat) (j : Nat) : Int := IntKind.i64.wrap ((getB 0 ((zs.drop (j * 8)).take 8) : Nat) : Int)

theorem mN_words (xs : List Int) (j : Nat) (x : Int) (t : List Nat) (h : xs[j]? = some x) (h1 : -9223372036854775808 ≤ x) (h2 : x ≤ 9223372036854775807) : mN (mW xs ++ t) j = x := by
  have hj : j < xs.length := (List.getElem?_eq_some_iff.1 h).1
  unfold mN
  rw [List.drop_append_of_le_length (by rw [mW_length]; omega), List.take_append_of_le_length (by rw [List.length_drop, mW_length]; omega), mW_part xs j x h, getB_putB, Nat.mod_eq_of_lt (by exact mU_lt x)]
  unfold mU
  simp only [IntKind.wrap_i64]
  omega

theorem Bs.lt {w : World} {a : Option Addr} {len : Nat} {zs : List Nat} (h : Bs w a len zs) : ∀ x ∈ zs, x < 256 := h.2.2.1

theorem Bs.from {w : World} {b off len : Nat} {zs : List Nat} (h : Bs w (some ⟨b, off, none⟩) len zs) (k : Nat) (hk : k ≤ len) : Bs w (some ⟨b, off + k, none⟩) (len - k) (zs.drop k) := by
  obtain ⟨h1, h2, h3, h4, h5⟩ := h
  refine ⟨by rw [List.length_drop, h1], by omega, fun x hx => h3 x (List.mem_of_mem_drop hx), (fun e => by cases e), fun x hx j hj => ?_⟩
  cases hx
  have := h5 _ rfl (k + j) (by omega)
  rw [add_none] at this ⊢
  rw [Nat.add_assoc, this]
  simp [List.getD_eq_getElem?_getD]

theorem Bs.end {w : World} {b o : Nat} {zs : List Nat} {k len : Nat} (h : Bs w (some ⟨b, o, none⟩) len zs) (hk : k = len) : Bs w (some ⟨b, o, none⟩) (len - k) (zs.drop k) := by
  obtain ⟨h1, h2, h3, h4, h5⟩ := h
  subst hk
  refine ⟨by rw [List.length_drop, h1], by omega, fun x hx => h3 x (List.mem_of_mem_drop hx), (fun e => by cases e), fun x hx j hj => by omega⟩

theorem take_lt {zs : List Nat} (h : ∀ x ∈ zs, x < 256) (k : Nat) : ∀ x ∈ zs.take k, x < 256 := fun x hx => h x (List.mem_of_mem_take hx)

theorem take_cells {w : World} {b off len k : Nat} {zs : List Nat} (hl : zs.length = len) (hk : k ≤ len) (hc : ∀ j, j < len → w.cell? ⟨b, off + j, none⟩ = some (.int .u8 ((zs.getD j 0 : Nat) : Int))) : ∀ j, j < k → w.cell? ⟨b, off + j, none⟩ = some (.int .u8 (((zs.take k).getD j 0 : Nat) : Int)) := by
  intro j hj
  rw [hc j (by omega)]
  simp [List.getD_eq_getElem?_getD, hj]

theorem refInt_short (w : World) (a : Option Addr) (len cap k : Nat) (hm : len ≤ maxLen) (h : len < k) :
    Calls Tryd.prog 17 #[.slice a len cap, .int .i64 (k : Int)] w fun e w' => e = .returned (.tuple #[.int .i64 0, .slice none 0 0, .bool false]) ∧ w' = w := by
  unfold maxLen at hm
  have h1 : (len : Int) < (k : Int) := by omega
  go_enter Tryd.func17, Tryd.ntmps17
  go_wp2_with fail
  go_ret3
  exact ⟨rfl, rfl⟩

set_option maxHeartbeats 1000000 in
theorem refInt4 (w0 w : World) (a : Option Addr) (len cap : Nat) (zs : List Nat) (h0 : Bs w0 a len zs) (hb0 : Below w0.heap.size w0 w) (hl : 4 ≤ len) (hcp : len ≤ cap) :
    Calls Tryd.prog 17 #[.slice a len cap, .int .i64 4] w fun e w' => ∃ a' c', e = .returned (.tuple #[.int .i64 (IntKind.i64.wrap ((getB 0 (zs.take 4) : Nat) : Int)), .slice a' (len - 4) c', .bool true]) ∧ Bs w0 a' (len - 4) (zs.drop 4) ∧ len - 4 ≤ c' ∧ Below w.heap.size w w' := by
  have h := h0.below hb0
  obtain ⟨b, off, rfl, hbk, hc⟩ := h.pos (by omega)
  have HG := hidn (refGet_some b off 4 cap (zs.take 4) w (take_lt h.lt 4) (by rw [List.length_take, h.1]; omega) (by omega) (by omega) (take_cells h.1 hl hc))
  obtain ⟨n, hn⟩ : ∃ n, n = getB 0 (zs.take 4) := ⟨_, rfl⟩
  rw [← hn] at HG ⊢
  obtain ⟨x, hx⟩ : ∃ x, IntKind.i64.wrap (n : Int) = x := ⟨_, rfl⟩
  rw [hx]
  have hmm := h.2.1
  unfold maxLen at hmm
  obtain ⟨m, hm⟩ : ∃ m, len = 4 + m := ⟨len - 4, by omega⟩
  have HM : Hid (len - 4 = m) := hidn (by omega)
  rw [HM.out]
  have HF := hidn (h0.from 4 hl)
  have HE : Hid (cap = 4 → Bs w0 (some ⟨b, off, none⟩) (len - 4) (zs.drop 4)) := hidn (fun e => h0.end (by omega))
  rw [HM.out] at HF HE
  have HC : Hid (m ≤ cap - 4) := hidn (by omega)
  have h8i : (4 : Int) ≤ (cap : Int) := by omega
  have hli : ¬ ((len : Int) < 4) := by omega
  have hlc : (len : Int) ≤ (cap : Int) := by omega
  clear hn h h0 hb0 hc hbk
  go_enter Tryd.func17, Tryd.ntmps17
  go_wp2_with fail
  refine HG.out.mono ?_
  clear HG
  rintro e w1 ⟨rfl, h1⟩
  subst h1
  go_wp2_with fail
  have HB := hidn ((Below.refl w1.heap.size w1).drew)
  by_cases hcc : cap = 4
  · skip
    refine wp_region_noPanic ?_
    refine wp_region_held_drew (S := fun _ => True) (by kernel_rfl) (trivial) (fun hHeld => ?_)
    refine drawn_take (i := 0) (v := .int .u64 (n : Int)) (some 20) rfl rfl (by kernel_rfl) (by kernel_rfl) (by kernel_rfl) (fun _ _ _ h => h) (Or.inl ⟨by kernel_rfl, fun wq hw => by go_simp⟩) hHeld ?_
    simp only [Act.put, List.setIfInBounds_toArray, List.set_cons_succ, List.set_cons_zero]
    refine drawn_take (i := 1) (v := .int .i64 x) (some 21) rfl rfl (by kernel_rfl) (by kernel_rfl) (by kernel_rfl) (fun _ _ _ h => h) (Or.inl ⟨by kernel_rfl, fun wq hw => by go_simp⟩) hHeld ?_
    simp only [Act.put, List.setIfInBounds_toArray, List.set_cons_succ, List.set_cons_zero]
    refine drawn_take (i := 2) (v := .slice (some ⟨b, off, none⟩) len cap) (some 22) rfl rfl (by kernel_rfl) (by kernel_rfl) (by kernel_rfl) (fun _ _ _ h => h) (Or.inl ⟨by kernel_rfl, fun wq hw => by go_simp⟩) hHeld ?_
    simp only [Act.put, List.setIfInBounds_toArray, List.set_cons_succ, List.set_cons_zero]
    refine drawn_take (i := 3) (v := .int .i64 4) (some 23) rfl rfl (by kernel_rfl) (by kernel_rfl) (by kernel_rfl) (fun _ _ _ h => h) (Or.inl ⟨by kernel_rfl, fun wq hw => by go_simp⟩) hHeld ?_
    simp only [Act.put, List.setIfInBounds_toArray, List.set_cons_succ, List.set_cons_zero]
    refine drawn_take (i := 4) (v := .slice (some ⟨b, off, none⟩) m (cap - 4)) (some 24) rfl rfl (by kernel_rfl) (by kernel_rfl) (by kernel_rfl) (fun _ _ _ h => h) (Or.inl ⟨by kernel_rfl, fun wq hw => by go_simp⟩) hHeld ?_
    simp only [Act.put, List.setIfInBounds_toArray, List.set_cons_succ, List.set_cons_zero]
    refine drawn_take (i := 5) (v := .int .i64 x) (some 4) rfl rfl (by kernel_rfl) (by kernel_rfl) (by kernel_rfl) (fun _ _ _ h => h) (Or.inl ⟨by kernel_rfl, fun wq hw => by go_simp⟩) hHeld ?_
    simp only [Act.put, List.setIfInBounds_toArray, List.set_cons_succ, List.set_cons_zero]
    refine drawn_take (i := 6) (v := .slice (some ⟨b, off, none⟩) m (cap - 4)) (some 5) rfl rfl (by kernel_rfl) (by kernel_rfl) (by kernel_rfl) (fun _ _ _ h => h) (Or.inl ⟨by kernel_rfl, fun wq hw => by go_simp⟩) hHeld ?_
    simp only [Act.put, List.setIfInBounds_toArray, List.set_cons_succ, List.set_cons_zero]
    refine drawn_take (i := 7) (v := .bool true) (some 6) rfl rfl (by kernel_rfl) (by kernel_rfl) (by kernel_rfl) (fun _ _ _ h => h) (Or.inl ⟨by kernel_rfl, fun wq hw => by go_simp⟩) hHeld ?_
    simp only [Act.put, List.setIfInBounds_toArray, List.set_cons_succ, List.set_cons_zero]
    refine wpAnyH_done (by kernel_rfl) ?_ _
    refine NoPanic.normal ?_
    clear hHeld
    go_wp2_with fail
    go_ret3
    exact ⟨_, _, rfl, HE.out hcc, HC.out, HB.out⟩
  · skip
    refine wp_region_noPanic ?_
    refine wp_region_held_drew (S := fun _ => True) (by kernel_rfl) (trivial) (fun hHeld => ?_)
    refine drawn_take (i := 0) (v := .int .u64 (n : Int)) (some 20) rfl rfl (by kernel_rfl) (by kernel_rfl) (by kernel_rfl) (fun _ _ _ h => h) (Or.inl ⟨by kernel_rfl, fun wq hw => by go_simp⟩) hHeld ?_
    simp only [Act.put, List.setIfInBounds_toArray, List.set_cons_succ, List.set_cons_zero]
    refine drawn_take (i := 1) (v := .int .i64 x) (some 21) rfl rfl (by kernel_rfl) (by kernel_rfl) (by kernel_rfl) (fun _ _ _ h => h) (Or.inl ⟨by kernel_rfl, fun wq hw => by go_simp⟩) hHeld ?_
    simp only [Act.put, List.setIfInBounds_toArray, List.set_cons_succ, List.set_cons_zero]
    refine drawn_take (i := 2) (v := .slice (some ⟨b, off, none⟩) len cap) (some 22) rfl rfl (by kernel_rfl) (by kernel_rfl) (by kernel_rfl) (fun _ _ _ h => h) (Or.inl ⟨by kernel_rfl, fun wq hw => by go_simp⟩) hHeld ?_
    simp only [Act.put, List.setIfInBounds_toArray, List.set_cons_succ, List.set_cons_zero]
    refine drawn_take (i := 3) (v := .int .i64 4) (some 23) rfl rfl (by kernel_rfl) (by kernel_rfl) (by kernel_rfl) (fun _ _ _ h => h) (Or.inl ⟨by kernel_rfl, fun wq hw => by go_simp⟩) hHeld ?_
    simp only [Act.put, List.setIfInBounds_toArray, List.set_cons_succ, List.set_cons_zero]
    refine drawn_take (i := 4) (v := .slice (some ⟨b, off + 4, none⟩) m (cap - 4)) (some 24) rfl rfl (by kernel_rfl) (by kernel_rfl) (by kernel_rfl) (fun _ _ _ h => h) (Or.inl ⟨by kernel_rfl, fun wq hw => by go_simp⟩) hHeld ?_
    simp only [Act.put, List.setIfInBounds_toArray, List.set_cons_succ, List.set_cons_zero]
    refine drawn_take (i := 5) (v := .int .i64 x) (some 4) rfl rfl (by kernel_rfl) (by kernel_rfl) (by kernel_rfl) (fun _ _ _ h => h) (Or.inl ⟨by kernel_rfl, fun wq hw => by go_simp⟩) hHeld ?_
    simp only [Act.put, List.setIfInBounds_toArray, List.set_cons_succ, List.set_cons_zero]
    refine drawn_take (i := 6) (v := .slice (some ⟨b, off + 4, none⟩) m (cap - 4)) (some 5) rfl rfl (by kernel_rfl) (by kernel_rfl) (by kernel_rfl) (fun _ _ _ h => h) (Or.inl ⟨by kernel_rfl, fun wq hw => by go_simp⟩) hHeld ?_
    simp only [Act.put, List.setIfInBounds_toArray, List.set_cons_succ, List.set_cons_zero]
    refine drawn_take (i := 7) (v := .bool true) (some 6) rfl rfl (by kernel_rfl) (by kernel_rfl) (by kernel_rfl) (fun _ _ _ h => h) (Or.inl ⟨by kernel_rfl, fun wq hw => by go_simp⟩) hHeld ?_
    simp only [Act.put, List.setIfInBounds_toArray, List.set_cons_succ, List.set_cons_zero]
    refine wpAnyH_done (by kernel_rfl) ?_ _
    refine NoPanic.normal ?_
    clear hHeld
    go_wp2_with fail
    go_ret3
    exact ⟨_, _, rfl, HF.out, HC.out, HB.out⟩

set_option maxHeartbeats 1000000 in
theorem refInt8 (w0 w : World) (a : Option Addr) (len cap : Nat) (zs : List Nat) (h0 : Bs w0 a len zs) (hb0 : Below w0.heap.size w0 w) (hl : 8 ≤ len) (hcp : len ≤ cap) :
    Calls Tryd.prog 17 #[.slice a len cap, .int .i64 8] w fun e w' => ∃ a' c', e = .returned (.tuple #[.int .i64 (IntKind.i64.wrap ((getB 0 (zs.take 8) : Nat) : Int)), .slice a' (len - 8) c', .bool true]) ∧ Bs w0 a' (len - 8) (zs.drop 8) ∧ len - 8 ≤ c' ∧ Below w.heap.size w w' := by
  have h := h0.below hb0
  obtain ⟨b, off, rfl, hbk, hc⟩ := h.pos (by omega)
  have HG := hidn (refGet_some b off 8 cap (zs.take 8) w (take_lt h.lt 8) (by rw [List.length_take, h.1]; omega) (by omega) (by omega) (take_cells h.1 hl hc))
  obtain ⟨n, hn⟩ : ∃ n, n = getB 0 (zs.take 8) := ⟨_, rfl⟩
  rw [← hn] at HG ⊢
  obtain ⟨x, hx⟩ : ∃ x, IntKind.i64.wrap (n : Int) = x := ⟨_, rfl⟩
  rw [hx]
  have hmm := h.2.1
  unfold maxLen at hmm
  obtain ⟨m, hm⟩ : ∃ m, len = 8 + m := ⟨len - 8, by omega⟩
  have HM : Hid (len - 8 = m) := hidn (by omega)
  rw [HM.out]
  have HF := hidn (h0.from 8 hl)
  have HE : Hid (cap = 8 → Bs w0 (some ⟨b, off, none⟩) (len - 8) (zs.drop 8)) := hidn (fun e => h0.end (by omega))
  rw [HM.out] at HF HE
  have HC : Hid (m ≤ cap - 8) := hidn (by omega)
  have h8i : (8 : Int) ≤ (cap : Int) := by omega
  have hli : ¬ ((len : Int) < 8) := by omega
  have hlc : (len : Int) ≤ (cap : Int) := by omega
  clear hn h h0 hb0 hc hbk
  go_enter Tryd.func17, Tryd.ntmps17
  go_wp2_with fail
  refine HG.out.mono ?_
  clear HG
  rintro e w1 ⟨rfl, h1⟩
  subst h1
  go_wp2_with fail
  have HB := hidn ((Below.refl w1.heap.size w1).drew)
  by_cases hcc : cap = 8
  · skip
    refine wp_region_noPanic ?_
    refine wp_region_held_drew (S := fun _ => True) (by kernel_rfl) (trivial) (fun hHeld => ?_)
    refine drawn_take (i := 0) (v := .int .u64 (n : Int)) (some 20) rfl rfl (by kernel_rfl) (by kernel_rfl) (by kernel_rfl) (fun _ _ _ h => h) (Or.inl ⟨by kernel_rfl, fun wq hw => by go_simp⟩) hHeld ?_
    simp only [Act.put, List.setIfInBounds_toArray, List.set_cons_succ, List.set_cons_zero]
    refine drawn_take (i := 1) (v := .int .i64 x) (some 21) rfl rfl (by kernel_rfl) (by kernel_rfl) (by kernel_rfl) (fun _ _ _ h => h) (Or.inl ⟨by kernel_rfl, fun wq hw => by go_simp⟩) hHeld ?_
    simp only [Act.put, List.setIfInBounds_toArray, List.set_cons_succ, List.set_cons_zero]
    refine drawn_take (i := 2) (v := .slice (some ⟨b, off, none⟩) len cap) (some 22) rfl rfl (by kernel_rfl) (by kernel_rfl) (by kernel_rfl) (fun _ _ _ h => h) (Or.inl ⟨by kernel_rfl, fun wq hw => by go_simp⟩) hHeld ?_
    simp only [Act.put, List.setIfInBounds_toArray, List.set_cons_succ, List.set_cons_zero]
    refine drawn_take (i := 3) (v := .int .i64 8) (some 23) rfl rfl (by kernel_rfl) (by kernel_rfl) (by kernel_rfl) (fun _ _ _ h => h) (Or.inl ⟨by kernel_rfl, fun wq hw => by go_simp⟩) hHeld ?_
    simp only [Act.put, List.setIfInBounds_toArray, List.set_cons_succ, List.set_cons_zero]
    refine drawn_take (i := 4) (v := .slice (some ⟨b, off, none⟩) m (cap - 8)) (some 24) rfl rfl (by kernel_rfl) (by kernel_rfl) (by kernel_rfl) (fun _ _ _ h => h) (Or.inl ⟨by kernel_rfl, fun wq hw => by go_simp⟩) hHeld ?_
    simp only [Act.put, List.setIfInBounds_toArray, List.set_cons_succ, List.set_cons_zero]
    refine drawn_take (i := 5) (v := .int .i64 x) (some 4) rfl rfl (by kernel_rfl) (by kernel_rfl) (by kernel_rfl) (fun _ _ _ h => h) (Or.inl ⟨by kernel_rfl, fun wq hw => by go_simp⟩) hHeld ?_
    simp only [Act.put, List.setIfInBounds_toArray, List.set_cons_succ, List.set_cons_zero]
    refine drawn_take (i := 6) (v := .slice (some ⟨b, off, none⟩) m (cap - 8)) (some 5) rfl rfl (by kernel_rfl) (by kernel_rfl) (by kernel_rfl) (fun _ _ _ h => h) (Or.inl ⟨by kernel_rfl, fun wq hw => by go_simp⟩) hHeld ?_
    simp only [Act.put, List.setIfInBounds_toArray, List.set_cons_succ, List.set_cons_zero]
    refine drawn_take (i := 7) (v := .bool true) (some 6) rfl rfl (by kernel_rfl) (by kernel_rfl) (by kernel_rfl) (fun _ _ _ h => h) (Or.inl ⟨by kernel_rfl, fun wq hw => by go_simp⟩) hHeld ?_
    simp only [Act.put, List.setIfInBounds_toArray, List.set_cons_succ, List.set_cons_zero]
    refine wpAnyH_done (by kernel_rfl) ?_ _
    refine NoPanic.normal ?_
    clear hHeld
    go_wp2_with fail
    go_ret3
    exact ⟨_, _, rfl, HE.out hcc, HC.out, HB.out⟩
  · skip
    refine wp_region_noPanic ?_
    refine wp_region_held_drew (S := fun _ => True) (by kernel_rfl) (trivial) (fun hHeld => ?_)
    refine drawn_take (i := 0) (v := .int .u64 (n : Int)) (some 20) rfl rfl (by kernel_rfl) (by kernel_rfl) (by kernel_rfl) (fun _ _ _ h => h) (Or.inl ⟨by kernel_rfl, fun wq hw => by go_simp⟩) hHeld ?_
    simp only [Act.put, List.setIfInBounds_toArray, List.set_cons_succ, List.set_cons_zero]
    refine drawn_take (i := 1) (v := .int .i64 x) (some 21) rfl rfl (by kernel_rfl) (by kernel_rfl) (by kernel_rfl) (fun _ _ _ h => h) (Or.inl ⟨by kernel_rfl, fun wq hw => by go_simp⟩) hHeld ?_
    simp only [Act.put, List.setIfInBounds_toArray, List.set_cons_succ, List.set_cons_zero]
    refine drawn_take (i := 2) (v := .slice (some ⟨b, off, none⟩) len cap) (some 22) rfl rfl (by kernel_rfl) (by kernel_rfl) (by kernel_rfl) (fun _ _ _ h => h) (Or.inl ⟨by kernel_rfl, fun wq hw => by go_simp⟩) hHeld ?_
    simp only [Act.put, List.setIfInBounds_toArray, List.set_cons_succ, List.set_cons_zero]
    refine drawn_take (i := 3) (v := .int .i64 8) (some 23) rfl rfl (by kernel_rfl) (by kernel_rfl) (by kernel_rfl) (fun _ _ _ h => h) (Or.inl ⟨by kernel_rfl, fun wq hw => by go_simp⟩) hHeld ?_
    simp only [Act.put, List.setIfInBounds_toArray, List.set_cons_succ, List.set_cons_zero]
    refine drawn_take (i := 4) (v := .slice (some ⟨b, off + 8, none⟩) m (cap - 8)) (some 24) rfl rfl (by kernel_rfl) (by kernel_rfl) (by kernel_rfl) (fun _ _ _ h => h) (Or.inl ⟨by kernel_rfl, fun wq hw => by go_simp⟩) hHeld ?_
    simp only [Act.put, List.setIfInBounds_toArray, List.set_cons_succ, List.set_cons_zero]
    refine drawn_take (i := 5) (v := .int .i64 x) (some 4) rfl rfl (by kernel_rfl) (by kernel_rfl) (by kernel_rfl) (fun _ _ _ h => h) (Or.inl ⟨by kernel_rfl, fun wq hw => by go_simp⟩) hHeld ?_
    simp only [Act.put, List.setIfInBounds_toArray, List.set_cons_succ, List.set_cons_zero]
    refine drawn_take (i := 6) (v := .slice (some ⟨b, off + 8, none⟩) m (cap - 8)) (some 5) rfl rfl (by kernel_rfl) (by kernel_rfl) (by kernel_rfl) (fun _ _ _ h => h) (Or.inl ⟨by kernel_rfl, fun wq hw => by go_simp⟩) hHeld ?_
    simp only [Act.put, List.setIfInBounds_toArray, List.set_cons_succ, List.set_cons_zero]
    refine drawn_take (i := 7) (v := .bool true) (some 6) rfl rfl (by kernel_rfl) (by kernel_rfl) (by kernel_rfl) (fun _ _ _ h => h) (Or.inl ⟨by kernel_rfl, fun wq hw => by go_simp⟩) hHeld ?_
    simp only [Act.put, List.setIfInBounds_toArray, List.set_cons_succ, List.set_cons_zero]
    refine wpAnyH_done (by kernel_rfl) ?_ _
    refine NoPanic.normal ?_
    clear hHeld
    go_wp2_with fail
    go_ret3
    exact ⟨_, _, rfl, HF.out, HC.out, HB.out⟩

set_option maxHeartbeats 1000000 in
theorem refBig (w : World) (x : Int) :
    Calls Tryd.prog 15 #[.int .i64 x] w fun e w' => e = .returned (.slice (some ⟨w.heap.size, 0, none⟩) 8 8) ∧ w'.ownsRow w.heap.size 5 1 (.slice (some ⟨w.heap.size, 0, none⟩) 8 8) 8 (vb (putB (mU x) 8)) ∧ Below w.heap.size w w' := by
  obtain ⟨n, hn⟩ : ∃ n, n = mU x := ⟨_, rfl⟩
  have hw1 : IntKind.u64.wrap x = (n : Int) := by rw [mWrap, hn]
  have hn64 : n < 18446744073709551616 := by rw [hn]; exact mU_lt x
  rw [← hn]
  have HP := hidn (refPut_any n 8 8 w hn64 (by omega))
  clear hn
  go_enter Tryd.func15, Tryd.ntmps15
  go_wp2_with fail
  refine HP.out.mono ?_
  rintro e w1 ⟨rfl, hown, hb⟩
  have HO := hidn hown
  have HB := hidn hb
  clear hown hb
  go_wp2_with fail
  go_ret
  exact ⟨rfl, HO.out, HB.out⟩

set_option maxHeartbeats 2000000 in
set_option maxRecDepth 100000 in
theorem equal_same (a a' : Option Addr) (len cap cap' : Nat) (l : List Int) (w : World) (h : Ils w a len l) (h' : Ils w a' len l) :
    Calls Tryd.prog 18 #[.slice a len cap, .slice a' len cap'] w fun e w' => e = .returned (.bool true) ∧ Below w.heap.size w w' := by
  have hlen := hidn h.1
  have hlm := h.2.1
  unfold maxLen at hlm
  have hn : ((len : Int) != (len : Int)) = false := by simp
  go_enter Tryd.func18, Tryd.ntmps18
  go_wp2_with fail
  go_loopw [13] (fun iv wr => ∃ (k : Nat), k ≤ len ∧ iv = .int .i64 (k : Int) ∧ Below w.heap.size w wr) (fun iv _ => len - (intOf iv).toNat)
  case atStart => exact ⟨0, Nat.zero_le _, rfl, Below.refl _ _⟩
  case round =>
    obtain ⟨k, hk, rfl, hb⟩ := hrel
    by_cases hlt : k < len
    · have hlt2 : (k : Int) < (len : Int) := by omega
      obtain ⟨d, hd⟩ : ∃ d, l[k]? = some d := ⟨_, List.getElem?_eq_getElem (by rw [hlen.out]; exact hlt)⟩
      obtain ⟨b, off, rfl, c0⟩ := (h.below hb).at hd
      obtain ⟨b', off', rfl, c1⟩ := (h'.below hb).at hd
      have hdd : (d != d) = false := by simp
      have bd : Below w.heap.size w wr.drew := hb.drew
      clear hd
      go_wp2_with fail
      go_region
      go_wp2_with fail
      exact ⟨⟨k + 1, by omega, by simp, bd⟩, by simp [intOf]; omega⟩
    · have hlt2 : ¬ (k : Int) < (len : Int) := by omega
      go_wp2_with fail
      exact bodyPost_ret (v := .bool true) (by simp [results, Tryd.results18, go_sem]) rfl ⟨rfl, hb⟩

theorem cut_min (len : Nat) : ∃ n : Nat, n ≤ len ∧ n ≤ 14 ∧ min (len : Int) 14 = (n : Int) ∧ (if (14 : Int) < (len : Int) then (14 : Int) else (len : Int)) = (n : Int) := by
  refine ⟨min len 14, by omega, by omega, by omega, ?_⟩
  split <;> omega

end Go.Proofs.YtfgfkifdokeefaaDoor

namespace Go.Proofs.YtfgfkifdokeefaaDoor
open Go.RowKit Go.Joins
set_option linter.unusedVariables false

theorem ftInfo : ∃ (i0 : TypeInfo) (z0 : Value), Tryd.prog.info? 5 = some i0 ∧ i0.zero = some z0 ∧ i0.size = 1 ∧ i0.bytes = 1 ∧ z0.cells.size = 1 := by
  have h : (Tryd.prog.info? 5).map (fun i => (i.zero, i.size, i.bytes)) = some (some (.int .u8 0), 1, 1) := by kernel_rfl
  cases hi : Tryd.prog.info? 5 with
  | none => rw [hi] at h; cases h
  | some i0 =>
    rw [hi] at h
    simp only [Option.map_some, Option.some.injEq, Prod.mk.injEq] at h
    exact ⟨i0, _, rfl, h.1, h.2.1, h.2.2, rfl⟩

theorem ft_app (a b : List Nat) : vb (a ++ b) = vb a ++ vb b := by simp [vb]

theorem ft_one (zs : List Nat) : ∀ u ∈ vb zs, u.oneCell' = true := by
  intro u hu
  unfold vb at hu
  obtain ⟨x, _, rfl⟩ := List.mem_map.1 hu
  rfl

theorem ft_below {w w' : World} {base B e size n : Nat} {v : Value} {xs : List Value} (h : w.ownsRow base e size v n xs) (hb : Below w.heap.size w w') : w'.ownsRow base e size v n xs := by
  refine ⟨h.1, ?_⟩
  rcases h.2 with hn | ⟨g, cap, cur, rfl, hbb, hgg, rest⟩
  · exact .inl hn
  · exact .inr ⟨g, cap, cur, rfl, hbb, by rw [hb.block g (Array.getElem?_eq_some_iff.1 hgg).1]; exact hgg, rest⟩

theorem ft_src {w : World} {base e g n c : Nat} {xs : List Value} (h : w.ownsRow base e 1 (.slice (some ⟨g, 0, none⟩) n c) n xs) (j : Nat) (u : Value) (hu : xs[j]? = some u) : w.cell? ((⟨g, 0, none⟩ : Addr).add j) = some u := h.cells (g := g) rfl j u hu

set_option maxRecDepth 100000 in
set_option maxHeartbeats 2000000 in
theorem putWords_any (w : World) (base : Nat) (v : Value) (n : Nat) (zs : List Nat) (hv : w.ownsRow base 5 1 v n (vb zs)) (hbs : base ≤ w.heap.size) (hn : n ≤ 1000) (a : Option Addr) (len cap : Nat) (xs : List Int) (h : Ils w a len xs) (hl : len ≤ 100) (ha : ∀ x, a = some x → 0 < len → x.block < base) :
    Calls Tryd.prog 12 #[v, .slice a len cap] w fun e w' => ∃ v', e = .returned v' ∧ w'.ownsRow base 5 1 v' (n + 8 * len) (vb (zs ++ mW xs)) ∧ Below base w w' := by
  obtain ⟨i0, z0, hi, hz0, hz1, hz2, hzc⟩ := ftInfo
  have hlen := hidn h.1
  have H := hidn h
  have HA := hidn ha
  have HBS := hidn hbs
  have O0 : Hid (w.ownsRow base 5 1 v (n + 8 * 0) (vb (zs ++ mW (xs.take 0)))) := hidn (by simpa [mW] using hv)
  clear hv hbs h ha
  go_enter Tryd.func12, Tryd.ntmps12
  go_wp2_with fail
  go_loopw [0, 9] (fun bv iv wr => ∃ k : Nat, k ≤ len ∧ iv = .int .i64 (k : Int) ∧ Hid (wr.ownsRow base 5 1 bv (n + 8 * k) (vb (zs ++ mW (xs.take k)))) ∧ Hid (Below base w wr)) (fun _ iv _ => len - (intOf iv).toNat)
  case atStart => exact ⟨0, Nat.zero_le _, rfl, O0, hidn (Below.refl _ _)⟩
  case round =>
    clear O0
    obtain ⟨k, hk, rfl, HO, HB⟩ := hrel
    by_cases hlt : k < len
    · have hlt2 : (k : Int) < (len : Int) := by omega
      obtain ⟨x, hx⟩ : ∃ x, xs[k]? = some x := ⟨_, List.getElem?_eq_getElem (by rw [hlen.out]; exact hlt)⟩
      obtain ⟨b, off, rfl, c0⟩ := H.out.at hx
      have hbb : b < base := HA.out _ rfl (by omega)
      have c1 : wr.cell? ⟨b, off + k, none⟩ = some (.int .i64 x) := (HB.out.cell (p := ⟨b, off + k, none⟩) hbb).trans c0
      have HXT : Hid (mW (xs.take (k + 1)) = mW (xs.take k) ++ putB (mU x) 8) := hidn (by rw [List.take_add_one, hx, Option.toList_some, mW_snoc])
      obtain ⟨q, hq⟩ : ∃ q, q = mU x := ⟨_, rfl⟩
      have hw1 : IntKind.u64.wrap x = (q : Int) := by rw [mWrap, hq]
      have HPU := hidn (put_any q 8 8 wr (by rw [hq]; exact mU_lt x) (by omega))
      rw [← hq] at HXT
      have hbw : base ≤ wr.heap.size := Nat.le_trans HBS.out HB.out.size
      have HBW := hidn hbw
      clear hq hx c0 hbb hbw
      obtain ⟨va, vc, e9⟩ : ∃ va vc, u0 = Value.slice va (n + 8 * k) vc := by
        rcases HO.out.2 with ⟨h1, h2⟩ | ⟨g, cp, cur, h1, _⟩
        · exact ⟨none, 0, by rw [h1, h2]⟩
        · exact ⟨_, _, h1⟩
      go_wp2_with fail
      refine HPU.out.mono ?_
      clear HPU
      rintro e w2 ⟨rfl, hown1, hb1⟩
      have HBW1 := hidn (HB.out.trans (hb1.mono HBW.out))
      have hO1 := ft_below (B := 0) HO.out hb1
      obtain ⟨v3, w3, hrun, hown3, hgr3⟩ := appAny w2 base 25 25 5 i0 z0 1 1 Tryd.underlying25 hi hz0 hz1 hz2 hzc (by decide) u0 (n + 8 * k) (vb (zs ++ mW (xs.take k))) hO1 (Nat.le_trans HBW.out hb1.size) (some ⟨wr.heap.size, 0, none⟩) 8 8 (vb (putB q 8)) (by rw [length_vb, putB_length]) (fun e => by cases e) (fun x hx j u hu => by cases hx; exact ft_src hown1 j u hu) (ft_one _) (by unfold maxLen; omega) (by omega)
      have HB3 : Hid (Below base w w3) := hidn (HBW1.out.grown hgr3 (Nat.le_trans HBW.out hb1.size) (fun k hk => (hO1.lt k hk).1))
      have HO3 : Hid (w3.ownsRow base 5 1 v3 (n + 8 * (k + 1)) (vb (zs ++ mW (xs.take (k + 1))))) := hidn (by
        rw [HXT.out, ← List.append_assoc, ft_app, show n + 8 * (k + 1) = n + 8 * k + 8 from by omega]
        exact hown3)
      have HRUN := hidn hrun
      subst e9
      clear hrun hown3 hgr3 hO1 hown1 hb1 HO HXT c1
      go_wp2_with (at_builtin; refine wpList_app_runA rfl _ _ 25 25 rfl rfl _ _ _ rfl rfl HRUN.out ?_; clear HRUN)
      go_wp2_with fail
      exact ⟨⟨k + 1, by omega, by simp, HO3, HB3⟩, by simp [intOf]; omega⟩
    · have hlt2 : ¬ (k : Int) < (len : Int) := by omega
      obtain rfl : k = len := by omega
      have HO2 : Hid (wr.ownsRow base 5 1 u0 (n + 8 * k) (vb (zs ++ mW xs))) := hidn (by
        have q := HO.out
        rwa [← hlen.out, List.take_length, hlen.out] at q)
      clear HO
      go_wp2_with fail
      exact bodyPost_ret (v := u0) (by simp [results, Tryd.results12, go_sem]) rfl ⟨u0, rfl, HO2.out, HB.out⟩

/-- The numbers that bytes say. -/
def mNs (zs : List Nat) (m : Nat) : List Int := (List.range m).map fun j => mN zs j

theorem mNs_succ (zs : List Nat) (m : Nat) : mNs zs (m + 1) = mNs zs m ++ [mN zs m] := by simp [mNs, List.range_succ]

def vi (xs : List Int) : List Value := xs.map fun x => .int .i64 x

theorem ftInt : ∃ (i0 : TypeInfo) (z0 : Value), Tryd.prog.info? 3 = some i0 ∧ i0.zero = some z0 ∧ i0.size = 1 ∧ i0.bytes = 8 ∧ z0.cells.size = 1 := bkInfo

def sliceLen : Value → Nat
  | .slice _ n _ => n
  | _ => 0

set_option maxRecDepth 100000 in
set_option maxHeartbeats 2000000 in
theorem takeWords_any (w : World) (a : Option Addr) (len cap : Nat) (zs : List Nat) (hB : Bs w a len zs) (m : Nat) (hm : len = 8 * m) (hm1 : m ≤ 1000) (hc : len ≤ cap) :
    Calls Tryd.prog 16 #[.slice a len cap] w fun e w' => ∃ v, e = .returned v ∧ w'.ownsRow w.heap.size 3 1 v m (vi (mNs zs m)) ∧ Below w.heap.size w w' := by
  obtain ⟨i0, z0, hi, hz0, hz1, hz2, hzc⟩ := ftInt
  have I0 : Hid (∃ k, 8 * k + len = 8 * m ∧ Bs w a len (zs.drop (8 * k)) ∧ len ≤ cap ∧ w.ownsRow w.heap.size 3 1 (.slice none 0 0) k (vi (mNs zs k))) := hidn ⟨0, by omega, by simpa using hB, hc, World.ownsRow_nil _ _ _ _⟩
  clear hB hc hm
  go_enter Tryd.func16, Tryd.ntmps16
  go_wp2_with fail
  go_loopw [0, 3] (fun bv lv wr => ∃ (a1 : Option Addr) (l1 c1 : Nat), bv = .slice a1 l1 c1 ∧ Hid (∃ k, 8 * k + l1 = 8 * m ∧ Bs w a1 l1 (zs.drop (8 * k)) ∧ l1 ≤ c1 ∧ wr.ownsRow w.heap.size 3 1 lv k (vi (mNs zs k))) ∧ Hid (Below w.heap.size w wr)) (fun bv _ _ => sliceLen bv)
  case atStart => exact ⟨_, _, _, rfl, I0, hidn (Below.refl _ _)⟩
  case round =>
    clear I0
    obtain ⟨a1, l1, c1, rfl, HI, HB⟩ := hrel
    by_cases hlt : 0 < l1
    · have hlt2 : (0 : Int) < (l1 : Int) := by omega
      obtain ⟨k, hk, hBk, hc1, hO⟩ := HI.out
      obtain ⟨M, rfl⟩ : ∃ M, l1 = 8 + M := ⟨l1 - 8, by omega⟩
      have hBw := hBk.below HB.out
      obtain ⟨b, off, rfl, hbk, hcc⟩ := hBw.pos (by omega)
      have HG := hidn (get_some b off 8 c1 ((zs.drop (8 * k)).take 8) wr (take_lt hBw.lt 8) (by rw [List.length_take, hBw.1]; omega) (by omega) (by omega) (take_cells hBw.1 (by omega) hcc))
      obtain ⟨n, hn⟩ : ∃ n, n = getB 0 ((zs.drop (8 * k)).take 8) := ⟨_, rfl⟩
      rw [← hn] at HG
      obtain ⟨x, hx⟩ : ∃ x, IntKind.i64.wrap (n : Int) = x := ⟨_, rfl⟩
      have HX : Hid (x = mN zs k) := hidn (by rw [← hx, hn, mN, Nat.mul_comm k 8])
      have hf1 : c1 = 8 → Bs w (some ⟨b, off, none⟩) M (zs.drop (8 * (k + 1))) := fun e => by
        have q := hBk.end (k := 8) (by omega)
        rw [List.drop_drop] at q
        simpa [Nat.mul_add] using q
      have hf2 : Bs w (some ⟨b, off + 8, none⟩) M (zs.drop (8 * (k + 1))) := by
        have q := hBk.from 8 (by omega)
        rw [List.drop_drop] at q
        simpa [Nat.mul_add] using q
      have HK := hidn hk
      have HF1 := hidn hf1
      have HF2 := hidn hf2
      have HO := hidn hO
      have h8c : (8 : Int) ≤ (c1 : Int) := by omega
      have hMc : ((8 + M : Nat) : Int) ≤ (c1 : Int) := by omega
      have HMC : Hid (M ≤ c1 - 8) := hidn (by omega)
      clear hk hBk hO hBw hbk hcc hn hf1 hf2 HI hc1
      obtain ⟨va, vc, e9⟩ : ∃ va vc, u3 = Value.slice va k vc := by
        rcases HO.out.2 with ⟨h1, h2⟩ | ⟨g, cp, cur, h1, _⟩
        · exact ⟨none, 0, by rw [h1, h2]⟩
        · exact ⟨_, _, h1⟩
      have HB2 := hidn HB.out
      have HKB : Hid (k ≤ 1000) := hidn (by have := HK.out; omega)
      go_wp2_with fail
      refine HG.out.mono ?_
      clear HG
      rintro e w2 ⟨rfl, h2⟩
      subst h2
      have hbw : w.heap.size ≤ w2.heap.size := HB.out.size
      have ba : Below w2.heap.size w2 (w2.alloc (.cells #[.int .i64 x] 3)) := (Below.refl _ _).alloc (Nat.le_refl _) _
      have hO1 := ft_below (B := 0) HO.out ba
      obtain ⟨v3, w3, hrun, hown3, hgr3⟩ := appAny (w2.alloc (.cells #[.int .i64 x] 3)) w.heap.size 22 22 3 i0 z0 1 8 Tryd.underlying22 hi hz0 hz1 hz2 hzc (by decide) u3 k (vi (mNs zs k)) hO1 (Nat.le_trans hbw ba.size) (some ⟨w2.heap.size, 0, none⟩) 1 1 [.int .i64 x] rfl (fun e => by cases e) (fun y hy j u hu => by
        cases hy
        rw [add_none, Nat.zero_add, cell_of_row _ _ _ _ _ _ (heap_alloc_new w2 _)]
        simpa using hu) (fun u hu => by obtain rfl := List.mem_singleton.1 hu; rfl) (by have := HKB.out; unfold maxLen; omega) (by have := HKB.out; omega)
      have HB3 : Hid (Below w.heap.size w w3) := hidn ((HB.out.trans (ba.mono hbw)).grown hgr3 (Nat.le_trans hbw ba.size) (fun k hk => (hO1.lt k hk).1))
      have HO3 : Hid (w3.ownsRow w.heap.size 3 1 v3 (k + 1) (vi (mNs zs (k + 1)))) := hidn (by
        rw [mNs_succ, ← HX.out]
        unfold vi at hown3 ⊢
        rw [List.map_append]
        exact hown3)
      have HRUN := hidn hrun
      have HK2 : Hid (8 * (k + 1) + M = 8 * m) := hidn (by have := HK.out; omega)
      subst e9
      clear hrun hown3 hgr3 hO1 ba hbw HO HX HK HB HB2
      by_cases hcc : c1 = 8
      · have HZ : Hid (∃ k, 8 * k + M = 8 * m ∧ Bs w (some ⟨b, off, none⟩) M (zs.drop (8 * k)) ∧ M ≤ 0 ∧ w3.ownsRow w.heap.size 3 1 v3 k (vi (mNs zs k))) := hidn ⟨k + 1, HK2.out, HF1.out hcc, by have := HMC.out; omega, HO3.out⟩
        clear HF1 HF2 HO3
        go_wp2_with (at_builtin; refine wpList_app_runA rfl _ _ 22 22 rfl rfl _ _ _ rfl rfl HRUN.out ?_; clear HRUN)
        go_wp2_with fail
        exact ⟨⟨_, M, 0, rfl, HZ, HB3⟩, by simp [sliceLen]⟩
      · have HZ : Hid (∃ k, 8 * k + M = 8 * m ∧ Bs w (some ⟨b, off + 8, none⟩) M (zs.drop (8 * k)) ∧ M ≤ c1 - 8 ∧ w3.ownsRow w.heap.size 3 1 v3 k (vi (mNs zs k))) := hidn ⟨k + 1, HK2.out, HF2.out, HMC.out, HO3.out⟩
        clear HF1 HF2 HO3
        go_wp2_with (at_builtin; refine wpList_app_runA rfl _ _ 22 22 rfl rfl _ _ _ rfl rfl HRUN.out ?_; clear HRUN)
        go_wp2_with fail
        exact ⟨⟨_, M, c1 - 8, rfl, HZ, HB3⟩, by simp [sliceLen]⟩
    · have hlt2 : ¬ (0 : Int) < (l1 : Int) := by omega
      obtain rfl : l1 = 0 := by omega
      obtain ⟨k, hk, _, _, hO⟩ := HI.out
      obtain rfl : k = m := by omega
      have HO := hidn hO
      clear hO hk HI
      go_wp2_with fail
      exact bodyPost_ret (v := u3) (by simp [results, Tryd.results16, go_sem]) rfl ⟨u3, rfl, HO.out, HB.out⟩
end Go.Proofs.YtfgfkifdokeefaaDoor

namespace Go.Proofs.YtfgfkifdokeefaaDoor
open Go.RowKit Go.Joins
set_option linter.unusedVariables false

theorem rNum_any (w : World) (x : Int) : Calls Tryd.prog 23 #[.int .i64 x] w fun e w' => e = .returned (.bool (bN x)) ∧ w' = w := by
  by_cases h1 : 1 ≤ x
  · by_cases h2 : x ≤ 4611686018427387904
    · have e : bN x = true := by simp [bN, h1, h2]
      rw [e]
      clear e
      go_enter Tryd.func23, Tryd.ntmps23
      go_wp2
      go_ret
      exact ⟨rfl, rfl⟩
    · have e : bN x = false := by simp [bN, h2]
      rw [e]
      clear e
      go_enter Tryd.func23, Tryd.ntmps23
      go_wp2
      go_ret
      exact ⟨rfl, rfl⟩
  · have e : bN x = false := by simp [bN, h1]
    rw [e]
    clear e
    go_enter Tryd.func23, Tryd.ntmps23
    go_wp2
    go_ret
    exact ⟨rfl, rfl⟩

set_option maxHeartbeats 4000000 in
set_option maxRecDepth 100000 in
theorem rCan_any (w : World) (n g l r mn mx by' : Int) (a : Option Addr) (len cap : Nat) (ps : List Int) (h : Ils w a len ps) : Calls Tryd.prog 14 #[.agg #[.int .i64 n, .int .i64 g, .int .i64 l, .int .i64 r, .int .i64 mn, .int .i64 mx, .int .i64 by', .slice a len cap]] w fun e w' => e = .returned (.bool (bCan n g l r mn mx by' ps)) ∧ Below w.heap.size w w' := by
  have hlen := hidn h.1
  have hml := h.2.1
  unfold maxLen at hml
  obtain ⟨Z, hZ⟩ : ∃ Z, Z = bCan n g l r mn mx by' ps := ⟨_, rfl⟩
  rw [← hZ]
  have HZ := hidn hZ
  clear hZ
  obtain ⟨wA, hwA⟩ : ∃ wA, wA = w.alloc (.cells #[.int .i64 n, .int .i64 g, .int .i64 l, .int .i64 r, .int .i64 mn, .int .i64 mx, .int .i64 by', .slice a len cap] 24) := ⟨_, rfl⟩
  have bA : Below w.heap.size w wA := by rw [hwA]; exact (Below.refl _ w).alloc (Nat.le_refl _) _
  have qA : wA.heap[w.heap.size]? = some (.cells #[.int .i64 n, .int .i64 g, .int .i64 l, .int .i64 r, .int .i64 mn, .int .i64 mx, .int .i64 by', .slice a len cap] 24 (0, 0)) := by rw [hwA]; exact heap_alloc_new w _
  have e0 : wA.cell? ⟨w.heap.size, 0, none⟩ = some (.int .i64 n) := cell_of_row _ _ _ _ _ _ qA
  have e1 : wA.cell? ⟨w.heap.size, 1, none⟩ = some (.int .i64 g) := cell_of_row _ _ _ _ _ _ qA
  have e2 : wA.cell? ⟨w.heap.size, 2, none⟩ = some (.int .i64 l) := cell_of_row _ _ _ _ _ _ qA
  have e3 : wA.cell? ⟨w.heap.size, 3, none⟩ = some (.int .i64 r) := cell_of_row _ _ _ _ _ _ qA
  have e4 : wA.cell? ⟨w.heap.size, 4, none⟩ = some (.int .i64 mn) := cell_of_row _ _ _ _ _ _ qA
  have e5 : wA.cell? ⟨w.heap.size, 5, none⟩ = some (.int .i64 mx) := cell_of_row _ _ _ _ _ _ qA
  have e6 : wA.cell? ⟨w.heap.size, 6, none⟩ = some (.int .i64 by') := cell_of_row _ _ _ _ _ _ qA
  have e7 : wA.cell? ⟨w.heap.size, 7, none⟩ = some (.slice a len cap) := cell_of_row _ _ _ _ _ _ qA
  have HWA := hidn hwA
  clear hwA qA
  go_enter Tryd.func14, Tryd.ntmps14
  go_wp2_with fail
  rw [← HWA.out]
  refine (rNum_any _ n).mono ?_
  rintro e whn ⟨rfl, rfl⟩
  cases hn : bN n with
  | false =>
    have HZ2 : Hid (Z = false) := hidn (by rw [HZ.out]; simp [bCan, hn])
    clear hn
    go_wp2_with fail
    exact bodyPost_ret (v := .bool false) (by simp [results, Tryd.results14, go_sem]) rfl ⟨by rw [HZ2.out], bA⟩
  | true =>
    go_wp2_with fail
    refine (rNum_any _ g).mono ?_
    rintro e whg ⟨rfl, rfl⟩
    cases hg : bN g with
    | false =>
      have HZ2 : Hid (Z = false) := hidn (by rw [HZ.out]; simp [bCan, hn, hg])
      clear hn hg
      go_wp2_with fail
      exact bodyPost_ret (v := .bool false) (by simp [results, Tryd.results14, go_sem]) rfl ⟨by rw [HZ2.out], bA⟩
    | true =>
      go_wp2_with fail
      refine (rNum_any _ r).mono ?_
      rintro e whr ⟨rfl, rfl⟩
      cases hr : bN r with
      | false =>
        have HZ2 : Hid (Z = false) := hidn (by rw [HZ.out]; simp [bCan, hn, hg, hr])
        clear hn hg hr
        go_wp2_with fail
        exact bodyPost_ret (v := .bool false) (by simp [results, Tryd.results14, go_sem]) rfl ⟨by rw [HZ2.out], bA⟩
      | true =>
        by_cases c1 : 1 ≤ l
        rotate_left
        · have HZ2 : Hid (Z = false) := hidn (by rw [HZ.out]; simp [bCan, hn, hg, hr, c1])
          clear hn hg hr
          go_wp2_with fail
          exact bodyPost_ret (v := .bool false) (by simp [results, Tryd.results14, go_sem]) rfl ⟨by rw [HZ2.out], bA⟩
        by_cases c2 : l ≤ 3
        rotate_left
        · have HZ2 : Hid (Z = false) := hidn (by rw [HZ.out]; simp [bCan, hn, hg, hr, c1, c2])
          clear hn hg hr
          go_wp2_with fail
          exact bodyPost_ret (v := .bool false) (by simp [results, Tryd.results14, go_sem]) rfl ⟨by rw [HZ2.out], bA⟩
        by_cases c3 : 0 ≤ by'
        rotate_left
        · have HZ2 : Hid (Z = false) := hidn (by rw [HZ.out]; simp [bCan, hn, hg, hr, c1, c2, c3])
          clear hn hg hr
          go_wp2_with fail
          exact bodyPost_ret (v := .bool false) (by simp [results, Tryd.results14, go_sem]) rfl ⟨by rw [HZ2.out], bA⟩
        by_cases c4 : by' ≤ 2147483647
        rotate_left
        · have HZ2 : Hid (Z = false) := hidn (by rw [HZ.out]; simp [bCan, hn, hg, hr, c1, c2, c3, c4])
          clear hn hg hr
          go_wp2_with fail
          exact bodyPost_ret (v := .bool false) (by simp [results, Tryd.results14, go_sem]) rfl ⟨by rw [HZ2.out], bA⟩
        by_cases c5 : mn ≤ mx
        rotate_left
        · have HZ2 : Hid (Z = false) := hidn (by
            rw [HZ.out]
            have hs : bSp mn mx by' = false := by unfold bSp; split <;> simp <;> omega
            simp [bCan, hn, hg, hr, c1, c2, c3, c4, hs])
          clear hn hg hr
          go_wp2_with fail
          exact bodyPost_ret (v := .bool false) (by simp [results, Tryd.results14, go_sem]) rfl ⟨by rw [HZ2.out], bA⟩
        by_cases hz : by' = 0 ∧ ¬ (mn = 0 ∧ mx = 0)
        · obtain ⟨hz0, hz1⟩ := hz
          have HZ2 : Hid (Z = false) := hidn (by
            rw [HZ.out]
            have hs : bSp mn mx by' = false := by unfold bSp; rw [if_pos hz0]; simp; omega
            simp [bCan, hn, hg, hr, c1, c2, c3, c4, hs])
          clear hn hg hr
          subst hz0
          by_cases hm0 : mn = 0
          · subst hm0
            have hx : (mx == 0) = false := by simp; omega
            have hx2 : (mx != 0) = true := by simp; omega
            go_wp2_with fail
            exact bodyPost_ret (v := .bool false) (by simp [results, Tryd.results14, go_sem]) rfl ⟨by rw [HZ2.out], bA⟩
          · have hx : (mn == 0) = false := by simp; omega
            have hx2 : (mn != 0) = true := by simp; omega
            go_wp2_with fail
            exact bodyPost_ret (v := .bool false) (by simp [results, Tryd.results14, go_sem]) rfl ⟨by rw [HZ2.out], bA⟩
        have HZ2 : Hid (Z = bPa ps) := hidn (by
          rw [HZ.out]
          have hs : bSp mn mx by' = true := by unfold bSp; split <;> simp <;> omega
          simp [bCan, hn, hg, hr, c1, c2, c3, c4, hs])
        clear hn hg hr HZ
        have HI0 : Hid ((ps.take 0).all bN = true) := hidn rfl
        have h := h.below bA
        by_cases hz0 : by' = 0
        · have hmx : mn = 0 ∧ mx = 0 := by omega
          obtain ⟨hm1, hm2⟩ := hmx
          subst hz0
          subst hm1
          subst hm2
          go_wp2_with fail
          go_loopw [66] (fun iv wr => ∃ k : Nat, k ≤ len ∧ iv = .int .i64 (k : Int) ∧ Hid ((ps.take k).all bN = true) ∧ Hid (whr = wr)) (fun iv _ => len - (intOf iv).toNat)
          case atStart => exact ⟨0, Nat.zero_le _, rfl, HI0, hidn rfl⟩
          case round =>
            obtain ⟨k, hk, rfl, hO, hw⟩ := hrel
            obtain rfl := hw.out
            clear hw
            by_cases hlt : k < len
            · have hlt2 : (k : Int) < (len : Int) := by omega
              obtain ⟨d, hd⟩ : ∃ d, ps[k]? = some d := ⟨_, List.getElem?_eq_getElem (by rw [hlen.out]; exact hlt)⟩
              obtain ⟨b, off, rfl, c0⟩ := h.at hd
              have HD := hidn hd
              clear hd
              go_wp2_with fail
              refine (rNum_any _ d).mono ?_
              rintro e w1 ⟨rfl, rfl⟩
              cases hx : bN d with
              | false =>
                have HZ3 : Hid (Z = false) := hidn (by rw [HZ2.out]; exact bPa_false HD.out hx)
                clear hx
                go_wp2_with fail
                exact bodyPost_ret (v := .bool false) (by simp [results, Tryd.results14, go_sem]) rfl ⟨by rw [HZ3.out], bA⟩
              | true =>
                have HK2 := hidn (all_take HD.out hO.out hx)
                clear hx
                go_wp2_with fail
                exact ⟨⟨k + 1, by omega, by simp, HK2, hidn trivial⟩, by simp [intOf]; omega⟩
            · have hlt2 : ¬ (k : Int) < (len : Int) := by omega
              have HA : Hid (ps.all bN = true) := hidn (by
                have e : k = ps.length := by rw [hlen.out]; omega
                have q := hO.out
                rwa [e, List.take_length] at q)
              by_cases h3 : len ≤ 3
              · have h3i : (len : Int) ≤ 3 := by omega
                have HZ3 : Hid (Z = true) := hidn (by rw [HZ2.out, bPa, HA.out, hlen.out]; simp [h3])
                go_wp2_with fail
                exact bodyPost_ret (v := .bool true) (by simp [results, Tryd.results14, go_sem]) rfl ⟨by rw [HZ3.out], bA⟩
              · have h3i : ¬ (len : Int) ≤ 3 := by omega
                have HZ3 : Hid (Z = false) := hidn (by rw [HZ2.out, bPa, hlen.out]; simp [h3])
                go_wp2_with fail
                exact bodyPost_ret (v := .bool false) (by simp [results, Tryd.results14, go_sem]) rfl ⟨by rw [HZ3.out], bA⟩
        · have hz1 : (by' == 0) = false := by simpa using hz0
          go_wp2_with fail
          go_loopw [66] (fun iv wr => ∃ k : Nat, k ≤ len ∧ iv = .int .i64 (k : Int) ∧ Hid ((ps.take k).all bN = true) ∧ Hid (whr = wr)) (fun iv _ => len - (intOf iv).toNat)
          case atStart => exact ⟨0, Nat.zero_le _, rfl, HI0, hidn rfl⟩
          case round =>
            obtain ⟨k, hk, rfl, hO, hw⟩ := hrel
            obtain rfl := hw.out
            clear hw
            by_cases hlt : k < len
            · have hlt2 : (k : Int) < (len : Int) := by omega
              obtain ⟨d, hd⟩ : ∃ d, ps[k]? = some d := ⟨_, List.getElem?_eq_getElem (by rw [hlen.out]; exact hlt)⟩
              obtain ⟨b, off, rfl, c0⟩ := h.at hd
              have HD := hidn hd
              clear hd
              go_wp2_with fail
              refine (rNum_any _ d).mono ?_
              rintro e w1 ⟨rfl, rfl⟩
              cases hx : bN d with
              | false =>
                have HZ3 : Hid (Z = false) := hidn (by rw [HZ2.out]; exact bPa_false HD.out hx)
                clear hx
                go_wp2_with fail
                exact bodyPost_ret (v := .bool false) (by simp [results, Tryd.results14, go_sem]) rfl ⟨by rw [HZ3.out], bA⟩
              | true =>
                have HK2 := hidn (all_take HD.out hO.out hx)
                clear hx
                go_wp2_with fail
                exact ⟨⟨k + 1, by omega, by simp, HK2, hidn trivial⟩, by simp [intOf]; omega⟩
            · have hlt2 : ¬ (k : Int) < (len : Int) := by omega
              have HA : Hid (ps.all bN = true) := hidn (by
                have e : k = ps.length := by rw [hlen.out]; omega
                have q := hO.out
                rwa [e, List.take_length] at q)
              by_cases h3 : len ≤ 3
              · have h3i : (len : Int) ≤ 3 := by omega
                have HZ3 : Hid (Z = true) := hidn (by rw [HZ2.out, bPa, HA.out, hlen.out]; simp [h3])
                go_wp2_with fail
                exact bodyPost_ret (v := .bool true) (by simp [results, Tryd.results14, go_sem]) rfl ⟨by rw [HZ3.out], bA⟩
              · have h3i : ¬ (len : Int) ≤ 3 := by omega
                have HZ3 : Hid (Z = false) := hidn (by rw [HZ2.out, bPa, hlen.out]; simp [h3])
                go_wp2_with fail
                exact bodyPost_ret (v := .bool false) (by simp [results, Tryd.results14, go_sem]) rfl ⟨by rw [HZ3.out], bA⟩

end Go.Proofs.YtfgfkifdokeefaaDoor

namespace Go.Proofs.YtfgfkifdokeefaaDoor
open Go.RowKit Go.Joins
set_option linter.unusedVariables false

/-- A footer's bytes. -/
def ftB (n g l r mn mx by' : Int) (ps : List Int) : List Nat := mW [n, g, l, r, mn, mx, by'] ++ putB ps.length 1 ++ mW ps

theorem ftB_length (n g l r mn mx by' : Int) (ps : List Int) : (ftB n g l r mn mx by' ps).length = 57 + 8 * ps.length := by
  rw [ftB, List.length_append, List.length_append, mW_length, mW_length, putB_length]
  simp only [List.length_cons, List.length_nil]

theorem ft_low {w : World} {base base' e size n : Nat} {v : Value} {xs : List Value} (h : w.ownsRow base e size v n xs) (hb : base' ≤ base) : w.ownsRow base' e size v n xs := by
  obtain ⟨hl, h1⟩ := h
  refine ⟨hl, ?_⟩
  rcases h1 with h1 | ⟨g, cap, cur, hv, hg, r⟩
  · exact .inl h1
  · exact .inr ⟨g, cap, cur, hv, by omega, r⟩

theorem bPa_len {n g l r mn mx by' : Int} {ps : List Int} (h : bCan n g l r mn mx by' ps = true) : ps.length ≤ 3 := by
  unfold bCan at h
  rw [Bool.and_eq_true] at h
  have h2 := h.2
  unfold bPa at h2
  rw [Bool.and_eq_true] at h2
  exact of_decide_eq_true h2.2

theorem ils_low {w : World} {a : Option Addr} {len : Nat} {ps : List Int} (h : Ils w a len ps) : ∀ x, a = some x → 0 < len → x.block < w.heap.size := fun x hx h0 => by
  obtain ⟨d, hd⟩ : ∃ d, ps[0]? = some d := ⟨_, List.getElem?_eq_getElem (by rw [h.1]; exact h0)⟩
  obtain ⟨b, off, e, c0⟩ := h.at hd
  rw [hx] at e
  cases e
  exact block_lt_of_cell c0

theorem ftEnc_no (w : World) (n g l r mn mx by' : Int) (a : Option Addr) (len cap : Nat) (ps : List Int) (h : Ils w a len ps) (hc : bCan n g l r mn mx by' ps = false) :
    Calls Tryd.prog 4 #[.agg #[.int .i64 n, .int .i64 g, .int .i64 l, .int .i64 r, .int .i64 mn, .int .i64 mx, .int .i64 by', .slice a len cap]] w fun e w' => e = .returned (.tuple #[.slice none 0 0, .int .i64 1]) ∧ Below w.heap.size w w' := by
  obtain ⟨wA, hwA⟩ : ∃ wA, wA = w.alloc (.cells #[.int .i64 n, .int .i64 g, .int .i64 l, .int .i64 r, .int .i64 mn, .int .i64 mx, .int .i64 by', .slice a len cap] 24) := ⟨_, rfl⟩
  have bA : Below w.heap.size w wA := by rw [hwA]; exact (Below.refl _ w).alloc (Nat.le_refl _) _
  have HC := hidn (bCan_any wA n g l r mn mx by' a len cap ps (h.below bA))
  rw [hc] at HC
  have HWA := hidn hwA
  clear hwA hc h
  go_enter Tryd.func4, Tryd.ntmps4
  go_wp2_with fail
  rw [← HWA.out]
  refine HC.out.mono ?_
  rintro e w1 ⟨rfl, b1⟩
  have HB := hidn (bA.trans (b1.mono bA.size))
  clear b1 bA
  go_wp2_with fail
  exact bodyPost_ret (v := .tuple #[.slice none 0 0, .int .i64 1]) (by simp [results, Tryd.results4, go_sem]) rfl ⟨rfl, HB.out⟩

theorem ftRenc_no (w : World) (n g l r mn mx by' : Int) (a : Option Addr) (len cap : Nat) (ps : List Int) (h : Ils w a len ps) (hc : bCan n g l r mn mx by' ps = false) :
    Calls Tryd.prog 5 #[.agg #[.int .i64 n, .int .i64 g, .int .i64 l, .int .i64 r, .int .i64 mn, .int .i64 mx, .int .i64 by', .slice a len cap]] w fun e w' => e = .returned (.tuple #[.slice none 0 0, .int .i64 1]) ∧ Below w.heap.size w w' := by
  obtain ⟨wA, hwA⟩ : ∃ wA, wA = w.alloc (.cells #[.int .i64 n, .int .i64 g, .int .i64 l, .int .i64 r, .int .i64 mn, .int .i64 mx, .int .i64 by', .slice a len cap] 24) := ⟨_, rfl⟩
  have bA : Below w.heap.size w wA := by rw [hwA]; exact (Below.refl _ w).alloc (Nat.le_refl _) _
  have HC := hidn (rCan_any wA n g l r mn mx by' a len cap ps (h.below bA))
  rw [hc] at HC
  have HWA := hidn hwA
  clear hwA hc h
  go_enter Tryd.func5, Tryd.ntmps5
  go_wp2_with fail
  rw [← HWA.out]
  refine HC.out.mono ?_
  rintro e w1 ⟨rfl, b1⟩
  have HB := hidn (bA.trans (b1.mono bA.size))
  clear b1 bA
  go_wp2_with fail
  exact bodyPost_ret (v := .tuple #[.slice none 0 0, .int .i64 1]) (by simp [results, Tryd.results5, go_sem]) rfl ⟨rfl, HB.out⟩

set_option maxRecDepth 100000 in
set_option maxHeartbeats 4000000 in
theorem ftEnc_yes (w : World) (n g l r mn mx by' : Int) (a : Option Addr) (len cap : Nat) (ps : List Int) (h : Ils w a len ps) (hc : bCan n g l r mn mx by' ps = true) :
    Calls Tryd.prog 4 #[.agg #[.int .i64 n, .int .i64 g, .int .i64 l, .int .i64 r, .int .i64 mn, .int .i64 mx, .int .i64 by', .slice a len cap]] w fun e w' => ∃ v, e = .returned (.tuple #[v, .int .i64 0]) ∧ w'.ownsRow w.heap.size 5 1 v (57 + 8 * len) (vb (ftB n g l r mn mx by' ps)) ∧ Below w.heap.size w w' := by
  obtain ⟨i0, z0, hi, hz0, hz1, hz2, hzc⟩ := ftInfo
  have hl3 : len ≤ 3 := by have := bPa_len hc; rw [← h.1]; exact this
  have hlen := hidn h.1
  obtain ⟨wA, hwA⟩ : ∃ wA, wA = w.alloc (.cells #[.int .i64 n, .int .i64 g, .int .i64 l, .int .i64 r, .int .i64 mn, .int .i64 mx, .int .i64 by', .slice a len cap] 24) := ⟨_, rfl⟩
  have bA : Below w.heap.size w wA := by rw [hwA]; exact (Below.refl _ w).alloc (Nat.le_refl _) _
  have qA : wA.heap[w.heap.size]? = some (.cells #[.int .i64 n, .int .i64 g, .int .i64 l, .int .i64 r, .int .i64 mn, .int .i64 mx, .int .i64 by', .slice a len cap] 24 (0, 0)) := by rw [hwA]; exact heap_alloc_new w _
  have HC := hidn (bCan_any wA n g l r mn mx by' a len cap ps (h.below bA))
  rw [hc] at HC
  have HWA := hidn hwA
  have H := hidn h
  have hw4 : IntKind.u64.wrap (len : Int) = (len : Int) := by rw [IntKind.wrap_u64]; omega
  clear hwA hc h
  go_enter Tryd.func4, Tryd.ntmps4
  go_wp2_with fail
  rw [← HWA.out]
  refine HC.out.mono ?_
  rintro e w1 ⟨rfl, b1⟩
  have q1 := (b1.block w.heap.size (Array.getElem?_eq_some_iff.1 qA).1).trans qA
  have e0 : w1.cell? ⟨w.heap.size, 0, none⟩ = some (.int .i64 n) := cell_of_row _ _ _ _ _ _ q1
  have e1 : w1.cell? ⟨w.heap.size, 1, none⟩ = some (.int .i64 g) := cell_of_row _ _ _ _ _ _ q1
  have e2 : w1.cell? ⟨w.heap.size, 2, none⟩ = some (.int .i64 l) := cell_of_row _ _ _ _ _ _ q1
  have e3 : w1.cell? ⟨w.heap.size, 3, none⟩ = some (.int .i64 r) := cell_of_row _ _ _ _ _ _ q1
  have e4 : w1.cell? ⟨w.heap.size, 4, none⟩ = some (.int .i64 mn) := cell_of_row _ _ _ _ _ _ q1
  have e5 : w1.cell? ⟨w.heap.size, 5, none⟩ = some (.int .i64 mx) := cell_of_row _ _ _ _ _ _ q1
  have e6 : w1.cell? ⟨w.heap.size, 6, none⟩ = some (.int .i64 by') := cell_of_row _ _ _ _ _ _ q1
  have B1 := bA.trans (b1.mono bA.size)
  obtain ⟨w2, hw2⟩ : ∃ w2, w2 = w1.alloc (.cells #[.int .i64 n, .int .i64 g, .int .i64 l, .int .i64 r, .int .i64 mn, .int .i64 mx, .int .i64 by'] 36) := ⟨_, rfl⟩
  have b2 : Below w1.heap.size w1 w2 := by rw [hw2]; exact (Below.refl _ w1).alloc (Nat.le_refl _) _
  have s2 : w2.heap.size = w1.heap.size + 1 := by rw [hw2]; simp
  have r2 : w2.heap[w1.heap.size]? = some (.cells #[.int .i64 n, .int .i64 g, .int .i64 l, .int .i64 r, .int .i64 mn, .int .i64 mx, .int .i64 by'] 36 (0, 0)) := by rw [hw2]; exact heap_alloc_new w1 _
  have hI : Ils w2 (some ⟨w1.heap.size, 0, none⟩) 7 [n, g, l, r, mn, mx, by'] := by
    refine ⟨rfl, by decide, (fun e => by cases e), fun x hx j b hj => ?_⟩
    cases hx
    rw [ladd_none, Nat.zero_add, cell_of_row _ _ _ _ _ _ r2]
    have h7 : j < 7 := (List.getElem?_eq_some_iff.1 hj).1
    match j, h7 with
    | 0, _ => simp at hj; subst hj; rfl
    | 1, _ => simp at hj; subst hj; rfl
    | 2, _ => simp at hj; subst hj; rfl
    | 3, _ => simp at hj; subst hj; rfl
    | 4, _ => simp at hj; subst hj; rfl
    | 5, _ => simp at hj; subst hj; rfl
    | 6, _ => simp at hj; subst hj; rfl
  have B2 := B1.trans (b2.mono B1.size)
  have HPW := hidn (putWords_any w2 w2.heap.size (.slice none 0 0) 0 [] (World.ownsRow_nil _ _ _ _) (Nat.le_refl _) (by decide) (some ⟨w1.heap.size, 0, none⟩) 7 7 [n, g, l, r, mn, mx, by'] hI (by decide) (fun x hx _ => by cases hx; show w1.heap.size < w2.heap.size; omega))
  have HLT := hidn (show w.heap.size < w2.heap.size by have := B1.size; omega)
  have Q2 := hidn ((b2.block w.heap.size (Array.getElem?_eq_some_iff.1 q1).1).trans q1)
  have HW2 := hidn hw2
  have HB2 := hidn B2
  clear qA hw2 b2 s2 r2 hI B2 b1 bA q1 B1
  go_wp2_with fail
  rw [← HW2.out]
  refine HPW.out.mono ?_
  rintro e w3 ⟨v3, rfl, o3, b3⟩
  have Q3 := (b3.block w.heap.size (Array.getElem?_eq_some_iff.1 Q2.out).1).trans Q2.out
  have f7 : w3.cell? ⟨w.heap.size, 7, none⟩ = some (.slice a len cap) := cell_of_row _ _ _ _ _ _ Q3
  have HB3 := hidn (HB2.out.trans (b3.mono HB2.out.size))
  have HS := hidn HB2.out.size
  have HS3 := hidn b3.size
  have HP := hidn (put_any len 1 1 w3 (by omega) (by omega))
  rw [List.nil_append, show 0 + 8 * 7 = 56 from rfl] at o3
  have HQ3 := hidn Q3
  obtain ⟨va, vc, e9⟩ : ∃ va vc, v3 = Value.slice va 56 vc := by
    rcases o3.2 with ⟨h1, h2⟩ | ⟨gg, cp, cur, h1, _⟩
    · cases h2
    · exact ⟨_, _, h1⟩
  clear b3 Q3 HB2 Q2 HW2 HPW e0 e1 e2 e3 e4 e5 e6
  go_wp2_with fail
  refine HP.out.mono ?_
  clear HP
  rintro e w4 ⟨rfl, o4, b4⟩
  have o34 := ft_below (B := 0) o3 b4
  obtain ⟨v5, w5, hrun, o5, g5⟩ := appAny w4 w2.heap.size 25 25 5 i0 z0 1 1 Tryd.underlying25 hi hz0 hz1 hz2 hzc (by decide) v3 56 (vb (mW [n, g, l, r, mn, mx, by'])) o34 (Nat.le_trans HS3.out b4.size) (some ⟨w3.heap.size, 0, none⟩) 1 1 (vb (putB len 1)) (by rw [length_vb, putB_length]) (fun e => by cases e) (fun x hx j u hu => by cases hx; exact ft_src o4 j u hu) (ft_one _) (by unfold maxLen; omega) (by omega)
  have hb4 : Below w.heap.size w w4 := HB3.out.trans (b4.mono HB3.out.size)
  have HB5 := hidn (hb4.grown g5 hb4.size (fun k hk => by have := (o34.lt k hk).1; have := HS.out; omega))
  have h5q : w5.heap[w.heap.size]? = some (.cells #[.int .i64 n, .int .i64 g, .int .i64 l, .int .i64 r, .int .i64 mn, .int .i64 mx, .int .i64 by', .slice a len cap] 24 (0, 0)) := by
    have l3 := (Array.getElem?_eq_some_iff.1 HQ3.out).1
    have hw2l : w.heap.size < w2.heap.size := HLT.out
    rw [g5.block w.heap.size (Nat.lt_of_lt_of_le l3 b4.size) (fun e => by have := (o34.lt w.heap.size e.symm).1; omega), b4.block w.heap.size l3]
    exact HQ3.out
  have f7' : w5.cell? ⟨w.heap.size, 7, none⟩ = some (.slice a len cap) := cell_of_row _ _ _ _ _ _ h5q
  have HRUN := hidn hrun
  have HPW2 := hidn (putWords_any w5 w2.heap.size v5 57 (mW [n, g, l, r, mn, mx, by'] ++ putB len 1) (by rw [ft_app]; exact o5) (Nat.le_trans HS3.out (Nat.le_trans b4.size g5.size)) (by decide) a len cap ps (H.out.below HB5.out) (by omega) (fun x hx h0 => Nat.lt_of_lt_of_le (ils_low H.out x hx h0) HS.out))
  subst e9
  clear hrun o5 g5 o34 o4 b4 o3 hb4 h5q f7
  go_wp2_with (at_builtin; refine wpList_app_runA rfl _ _ 25 25 rfl rfl _ _ _ rfl rfl HRUN.out ?_; clear HRUN)
  go_wp2_with fail
  refine HPW2.out.mono ?_
  rintro e w6 ⟨v6, rfl, o6, b6⟩
  have HO6 : Hid (w6.ownsRow w.heap.size 5 1 v6 (57 + 8 * len) (vb (ftB n g l r mn mx by' ps))) := hidn (by
    have q := ft_low o6 HS.out
    rw [ftB, hlen.out]
    exact q)
  have HB6 := hidn (HB5.out.trans (b6.mono HS.out))
  clear o6 b6
  go_wp2_with fail
  exact bodyPost_ret (v := .tuple #[v6, .int .i64 0]) (by simp [results, Tryd.results4, go_sem]) rfl ⟨v6, rfl, HO6.out, HB6.out⟩
end Go.Proofs.YtfgfkifdokeefaaDoor
