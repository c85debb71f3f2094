/- block.Decode. -/
import Derived.Test.YtfgfkifdokeefaaDoorMh
namespace Go.Proofs.YtfgfkifdokeefaaDoor
open Go.RowKit Go.Joins
set_option linter.unusedVariables false

theorem ft_below1 (w : World) (o : Obj) : Below w.heap.size w (w.alloc o) := (Below.refl _ w).alloc (Nat.le_refl _) _

/-- How many parents bytes say. -/
def ftN (zs : List Nat) : Nat := zs.getD 56 0

def ftCan (zs : List Nat) : Bool := bCan (mN zs 0) (mN zs 1) (mN zs 2) (mN zs 3) (mN zs 4) (mN zs 5) (mN zs 6) (mNs (zs.drop 57) (ftN zs))

def ftOK (zs : List Nat) (len : Nat) : Bool := decide (57 ≤ len) && decide (len = 57 + 8 * ftN zs) && ftCan zs

def DecNo (w : World) (e : Ending) (w' : World) : Prop := e = .returned (.tuple #[.agg #[.int .i64 0, .int .i64 0, .int .i64 0, .int .i64 0, .int .i64 0, .int .i64 0, .int .i64 0, .slice none 0 0], .int .i64 5]) ∧ Below w.heap.size w w'

def DecYes (w : World) (zs : List Nat) (e : Ending) (w' : World) : Prop := ∃ a c, e = .returned (.tuple #[.agg #[.int .i64 (mN zs 0), .int .i64 (mN zs 1), .int .i64 (mN zs 2), .int .i64 (mN zs 3), .int .i64 (mN zs 4), .int .i64 (mN zs 5), .int .i64 (mN zs 6), .slice a (ftN zs) c], .int .i64 0]) ∧ Ils w' a (ftN zs) (mNs (zs.drop 57) (ftN zs)) ∧ Below w.heap.size w w'

theorem bsTake {w : World} {b off len : Nat} {zs : List Nat} (h : Bs w (some ⟨b, off, none⟩) len zs) (k : Nat) (hk : k ≤ len) : Bs w (some ⟨b, off, none⟩) k (zs.take k) := by
  obtain ⟨h1, h2, h3, h4, h5⟩ := h
  refine ⟨by rw [List.length_take, h1]; omega, by omega, fun x hx => h3 x (List.mem_of_mem_take hx), (fun e => by cases e), fun x hx j hj => ?_⟩
  cases hx
  rw [h5 _ rfl j (by omega)]
  simp [List.getD_eq_getElem?_getD, hj]

theorem mN_take (zs : List Nat) (j : Nat) (hj : j < 7) : mN (zs.take 56) j = mN zs j := by
  unfold mN
  rw [List.drop_take, List.take_take, Nat.min_eq_left (by omega)]

theorem mNs7 (zs : List Nat) : mNs (zs.take 56) 7 = [mN zs 0, mN zs 1, mN zs 2, mN zs 3, mN zs 4, mN zs 5, mN zs 6] := by
  have h : (List.range 7) = [0, 1, 2, 3, 4, 5, 6] := by decide
  unfold mNs
  rw [h]
  simp only [List.map_cons, List.map_nil]
  rw [mN_take zs 0 (by omega), mN_take zs 1 (by omega), mN_take zs 2 (by omega), mN_take zs 3 (by omega), mN_take zs 4 (by omega), mN_take zs 5 (by omega), mN_take zs 6 (by omega)]

theorem ils_own {w : World} {base m : Nat} {v : Value} {xs : List Int} (h : w.ownsRow base 3 1 v m (vi xs)) (hl : xs.length = m) (hm : m ≤ 100000) : ∃ a c, v = .slice a m c ∧ Ils w a m xs := by
  rcases h.2 with ⟨h1, h2⟩ | ⟨g, cap, cur, h1, _⟩
  · refine ⟨none, 0, by rw [h1, h2], hl, by unfold maxLen; omega, fun _ => h2, fun x hx => by cases hx⟩
  · refine ⟨_, _, h1, hl, by unfold maxLen; omega, (fun e => by cases e), fun x hx j b hj => ?_⟩
    cases hx
    subst h1
    refine h.cells (g := g) rfl j (.int .i64 b) ?_
    unfold vi
    rw [List.getElem?_map, hj]
    rfl

theorem mNs_length (zs : List Nat) (m : Nat) : (mNs zs m).length = m := by simp [mNs]

theorem ft_rest {w : World} {b off len : Nat} {zs : List Nat} (h : Bs w (some ⟨b, off, none⟩) len zs) (k : Nat) (hk : k ≤ len) (cap : Nat) (hc : len ≤ cap) : Bs w (some ⟨b, if cap = k then off else off + k, none⟩) (len - k) (zs.drop k) := by
  by_cases e : cap = k
  · rw [if_pos e]; exact h.end (by omega)
  · rw [if_neg e]; exact h.from k hk

theorem dec_no (w : World) (a : Option Addr) (len cap : Nat) (zs : List Nat) (hB : Bs w a len zs) (hc : len ≤ cap) (hno : ¬ (57 ≤ len ∧ len = 57 + 8 * ftN zs)) : Calls Tryd.prog 6 #[.slice a len cap] w (DecNo w) := by
  have hm := hB.2.1
  unfold maxLen at hm
  by_cases h57 : len < 57
  · have h1 : (len : Int) < 57 := by omega
    clear hB hno
    go_enter Tryd.func6, Tryd.ntmps6
    go_wp2_with fail
    exact bodyPost_ret (v := .tuple #[.agg #[.int .i64 0, .int .i64 0, .int .i64 0, .int .i64 0, .int .i64 0, .int .i64 0, .int .i64 0, .slice none 0 0], .int .i64 5]) (bk_rowtmp rfl _ _ w.heap.size 24 #[.int .i64 0, .int .i64 0, .int .i64 0, .int .i64 0, .int .i64 0, .int .i64 0, .int .i64 0, .slice none 0 0] (0, 0) _ rfl (heap_alloc_new _ _) Tryd.underlying24 rfl (by kernel_rfl) _ rfl) rfl ⟨rfl, (Below.refl _ w).alloc (Nat.le_refl _) _⟩
  · have h1 : ¬ (len : Int) < 57 := by omega
    obtain ⟨b, off, rfl, hb, hcc⟩ := hB.pos (by omega)
    have c56 := hcc 56 (by omega)
    have hz : zs.getD 56 0 < 256 := by
      rw [List.getD_eq_getElem?_getD, List.getElem?_eq_getElem (by rw [hB.1]; omega)]
      exact hB.2.2.1 _ (List.getElem_mem _)
    obtain ⟨z, hzz⟩ : ∃ z, z = zs.getD 56 0 := ⟨_, rfl⟩
    have hne : len ≠ 57 + 8 * z := fun e => hno ⟨by omega, by rw [ftN, ← hzz]; exact e⟩
    rw [← hzz] at c56 hz
    have hw1 : IntKind.i64.wrap (z : Int) = (z : Int) := by rw [IntKind.wrap_i64]; omega
    have h56l : (56 : Int) < (len : Int) := by omega
    have h56n : 56 < len := by omega
    have hne2 : ((len : Int) != 57 + (z : Int) * 8) = true := by simp; omega
    clear hzz hB hno hcc hne
    have c56' : (w.alloc (.cells #[.int .i64 0, .int .i64 0, .int .i64 0, .int .i64 0, .int .i64 0, .int .i64 0, .int .i64 0, .slice none 0 0] 24)).cell? ⟨b, off + 56, none⟩ = some (.int .u8 (z : Int)) := (ft_below1 w _).cell (p := ⟨b, off + 56, none⟩) hb |>.trans c56
    go_enter Tryd.func6, Tryd.ntmps6
    go_wp2_with fail
    exact bodyPost_ret (v := .tuple #[.agg #[.int .i64 0, .int .i64 0, .int .i64 0, .int .i64 0, .int .i64 0, .int .i64 0, .int .i64 0, .slice none 0 0], .int .i64 5]) (bk_rowtmp rfl _ _ w.heap.size 24 #[.int .i64 0, .int .i64 0, .int .i64 0, .int .i64 0, .int .i64 0, .int .i64 0, .int .i64 0, .slice none 0 0] (0, 0) _ rfl (heap_alloc_new _ _) Tryd.underlying24 rfl (by kernel_rfl) _ rfl) rfl ⟨rfl, (Below.refl _ w).alloc (Nat.le_refl _) _⟩
end Go.Proofs.YtfgfkifdokeefaaDoor
