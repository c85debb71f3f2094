/- anchor: whether one may be; its bytes. -/
import Derived.Test.YtidlogeeophogaaDoorPutWalk
import Derived.Test.YtidlogeeophogaaDoorGetWalk
import Derived.Test.YtidlogeeophogaaDoorAppA
import Derived.Test.YtidlogeeophogaaDoorDiskAt
namespace Go.Proofs.YtidlogeeophogaaDoor
open Go.RowKit Go.Maps
set_option linter.unusedVariables false

def u64 (x : Int) : Nat := (x % 18446744073709551616).toNat
def wordsB (xs : List Int) : List Nat := (xs.map fun x => putB (u64 x) 8).flatten

theorem u64_lt (x : Int) : u64 x < 18446744073709551616 := by unfold u64; omega
theorem wordsB_snoc (xs : List Int) (x : Int) : wordsB (xs ++ [x]) = wordsB xs ++ putB (u64 x) 8 := by simp [wordsB]
theorem wordsB_cons (xs : List Int) (x : Int) : wordsB (x :: xs) = putB (u64 x) 8 ++ wordsB xs := by simp [wordsB]
theorem wordsB_length : ∀ xs : List Int, (wordsB xs).length = 8 * xs.length
  | [] => rfl
  | x :: r => by rw [wordsB_cons, List.length_append, putB_length, wordsB_length r, List.length_cons]; omega
theorem wordsB_lt (xs : List Int) : ∀ y ∈ wordsB xs, y < 256 := by
  intro y hy
  simp only [wordsB, List.mem_flatten, List.mem_map] at hy
  obtain ⟨l, ⟨x, _, rfl⟩, h⟩ := hy
  exact putB_lt 8 _ y h

def inN (least n : Int) : Bool := decide (least ≤ n) && decide (n ≤ 4611686018427387904)
def ancB (y0 y1 y2 y3 y4 y7 y8 y9 : Int) : Bool := [y0, y1, y3, y8].all (inN 1) && [y2, y4, y7, y9].all (inN 0)

theorem inN_yes {l n : Int} (h1 : l ≤ n) (h2 : n ≤ 4611686018427387904) : inN l n = true := by simp [inN, h1, h2]
theorem inN_low {l n : Int} (h : n < l) : inN l n = false := by simp [inN]; omega
theorem inN_high {l n : Int} (h : 4611686018427387904 < n) : inN l n = false := by simp [inN]; omega

theorem all_take_no {xs : List Int} {l x : Int} {k : Nat} (hx : xs[k]? = some x) (h : inN l x = false) : xs.all (inN l) = false := by
  rw [List.all_eq_false]
  exact ⟨x, List.mem_of_getElem? hx, by rw [h]; decide⟩

theorem all_take_yes {xs : List Int} {l x : Int} {k : Nat} (hx : xs[k]? = some x) (ht : (xs.take k).all (inN l) = true) (h : inN l x = true) : (xs.take (k + 1)).all (inN l) = true := by
  rw [List.take_add_one, hx, List.all_append, ht]
  simp [h]

set_option maxHeartbeats 1000000 in
theorem areFrom_any (w : World) (least : Int) (b off len cap : Nat) (xs : List Int) (hl : xs.length = len) (hm : len ≤ 100) (hc : ∀ (j : Nat) (x : Int), xs[j]? = some x → w.cell? ⟨b, off + j, none⟩ = some (.int .i64 x)) :
    Calls Tryd.prog 53 #[.int .i64 least, .slice (some ⟨b, off, none⟩) len cap] w fun e w' => e = .returned (.bool (xs.all (inN least))) ∧ w' = w := by
  have HL := hidn hl
  have HC := hidn hc
  obtain ⟨R, hR⟩ : ∃ R, R = xs.all (inN least) := ⟨_, rfl⟩
  have HR := hidn hR
  rw [← hR]
  clear hl hc hR
  go_enter Tryd.func53, Tryd.ntmps53
  go_wp2_with fail
  go_loopw [9] (fun iv wr => ∃ k : Nat, k ≤ len ∧ iv = .int .i64 (k : Int) ∧ Hid ((xs.take k).all (inN least) = true) ∧ wr = w) (fun iv _ => len - (intOf iv).toNat)
  case atStart => exact ⟨0, Nat.zero_le _, rfl, hidn rfl, rfl⟩
  case round =>
    obtain ⟨k, hk, rfl, HA, rfl⟩ := hrel
    by_cases hlt : k < len
    · have hlt2 : (k : Int) < (len : Int) := by omega
      obtain ⟨x, hx⟩ : ∃ x, xs[k]? = some x := ⟨_, List.getElem?_eq_getElem (by rw [HL.out]; exact hlt)⟩
      have hcx := HC.out k x hx
      have HX := hidn hx
      clear hx
      by_cases h1 : x < least
      · have HF : Hid (R = false) := hidn (by rw [HR.out]; exact all_take_no HX.out (inN_low h1))
        have d1 : decide (x < least) = true := by simpa using h1
        go_wp2
        go_ret
        rw [HF.out]
        exact ⟨rfl, rfl⟩
      · have d1 : decide (x < least) = false := by simpa using h1
        by_cases h2 : 4611686018427387904 < x
        · have HF : Hid (R = false) := hidn (by rw [HR.out]; exact all_take_no HX.out (inN_high h2))
          have d2 : decide (4611686018427387904 < x) = true := by simpa using h2
          go_wp2
          go_ret
          rw [HF.out]
          exact ⟨rfl, rfl⟩
        · have d2 : decide (4611686018427387904 < x) = false := by simpa using h2
          have HA2 := hidn (all_take_yes HX.out HA.out (inN_yes (by omega) (by omega)))
          go_wp2
          go_roundw
          case rel => exact ⟨k + 1, hlt, by first | rfl | go_num | simp, HA2, trivial⟩
          case measure => simp [intOf]; omega
    · have hlt2 : ¬ (k : Int) < (len : Int) := by omega
      have HF : Hid (R = true) := hidn (by rw [HR.out, ← HA.out, List.take_of_length_le (by rw [HL.out]; omega)])
      go_wp2
      go_ret
      rw [HF.out]
      exact ⟨rfl, rfl⟩

theorem ints_at (w : World) (g : Nat) (hg : g = w.heap.size) (xs : List Int) (t : TypeId) (r : Nat × Nat) : ∀ (j : Nat) (x : Int), xs[j]? = some x → (w.alloc (.cells (xs.map (Value.int .i64)).toArray t r)).cell? ⟨g, 0 + j, none⟩ = some (.int .i64 x) := fun j x hx => by
  subst hg
  rw [cell_of_row _ _ _ _ _ _ (heap_alloc_new _ _)]
  simp [hx]

theorem below1 (w : World) (a : Obj) : Below w.heap.size w (w.alloc a) := (Below.refl _ _).alloc (Nat.le_refl _) _
theorem below2 (w : World) (a b : Obj) : Below w.heap.size w ((w.alloc a).alloc b) := (below1 w a).alloc (below1 w a).size _
theorem below3 (w : World) (a b c : Obj) : Below w.heap.size w (((w.alloc a).alloc b).alloc c) := (below2 w a b).alloc (below2 w a b).size _

set_option maxHeartbeats 1000000 in
theorem can_any (w : World) (y0 y1 y2 y3 y4 y5 y6 y7 y8 y9 : Int) :
    Calls Tryd.prog 28 #[.agg #[.int .i64 y0, .int .i64 y1, .int .i64 y2, .int .i64 y3, .int .i64 y4, .int .i64 y5, .int .i64 y6, .int .i64 y7, .int .i64 y8, .int .i64 y9]] w fun e w' => e = .returned (.bool (ancB y0 y1 y2 y3 y4 y7 y8 y9)) ∧ Below w.heap.size w w' := by
  obtain ⟨R1, hR1⟩ : ∃ R, R = [y0, y1, y3, y8].all (inN 1) := ⟨_, rfl⟩
  obtain ⟨R2, hR2⟩ : ∃ R, R = [y2, y4, y7, y9].all (inN 0) := ⟨_, rfl⟩
  have hR : ancB y0 y1 y2 y3 y4 y7 y8 y9 = (R1 && R2) := by rw [hR1, hR2]; rfl
  rw [hR]
  have HR1 := hidn hR1
  have HR2 := hidn hR2
  clear hR hR1 hR2
  go_enter Tryd.func28, Tryd.ntmps28
  go_wp2_with fail
  refine (areFrom_any _ 1 _ 0 4 4 [y0, y1, y3, y8] rfl (by omega) ?_).mono ?_
  · exact ints_at _ _ (by simp [World.size_alloc]) [y0, y1, y3, y8] _ _
  rintro e w1 ⟨rfl, rfl⟩
  rw [← HR1.out]
  cases R1 with
  | false =>
    go_wp2
    go_ret
    exact ⟨rfl, below2 _ _ _⟩
  | true =>
    go_wp2_with fail
    refine (areFrom_any _ 0 _ 0 4 4 [y2, y4, y7, y9] rfl (by omega) ?_).mono ?_
    · exact ints_at _ _ (by simp [World.size_alloc]) [y2, y4, y7, y9] _ _
    rintro e w2 ⟨rfl, rfl⟩
    rw [← HR2.out]
    cases R2 with
    | false =>
      go_wp2
      go_ret
      exact ⟨rfl, below3 _ _ _ _⟩
    | true =>
      go_wp2
      go_ret
      exact ⟨rfl, below3 _ _ _ _⟩
end Go.Proofs.YtidlogeeophogaaDoor
