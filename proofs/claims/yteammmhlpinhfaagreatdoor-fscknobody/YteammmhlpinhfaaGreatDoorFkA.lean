/- fsck: a manifest's bytes, and the blocks that bytes say, plainly. -/
import Derived.Test.YteammmhlpinhfaaGreatDoorPlH
import Derived.Test.YteammmhlpinhfaaGreatDoorBytes
namespace Go.Proofs.YteammmhlpinhfaaGreatDoor
open Go.RowKit
set_option linter.unusedVariables false

def mU (x : Int) : Nat := (x % 18446744073709551616).toNat
def mW (xs : List Int) : List Nat := (xs.map fun x => putB (mU x) 8).flatten

theorem mU_lt (x : Int) : mU x < 18446744073709551616 := by unfold mU; omega
theorem mWrap (x : Int) : IntKind.u64.wrap x = (mU x : Int) := by rw [IntKind.wrap_u64]; unfold mU; omega
theorem mW_snoc (xs : List Int) (x : Int) : mW (xs ++ [x]) = mW xs ++ putB (mU x) 8 := by simp [mW]
theorem mW_cons (xs : List Int) (x : Int) : mW (x :: xs) = putB (mU x) 8 ++ mW xs := by simp [mW]
theorem mW_length : ∀ xs : List Int, (mW xs).length = 8 * xs.length
  | [] => rfl
  | x :: r => by rw [mW_cons, List.length_append, putB_length, mW_length r, List.length_cons]; omega
theorem mW_lt (xs : List Int) : ∀ y ∈ mW xs, y < 256 := by
  intro y hy
  simp only [mW, List.mem_flatten, List.mem_map] at hy
  obtain ⟨l, ⟨x, _, rfl⟩, h⟩ := hy
  exact putB_lt 8 _ y h
theorem mW_part : ∀ (xs : List Int) (j : Nat) (x : Int), xs[j]? = some x → ((mW xs).drop (j * 8)).take 8 = putB (mU x) 8
  | [], j, x, h => by simp at h
  | y :: r, 0, x, h => by
    simp at h
    subst h
    rw [mW_cons, Nat.zero_mul, List.drop_zero, List.take_append_of_le_length (by rw [putB_length]; omega), List.take_of_length_le (by rw [putB_length]; omega)]
  | y :: r, j + 1, x, h => by
    rw [mW_cons, show (j + 1) * 8 = 8 + j * 8 from by omega, ← List.drop_drop, List.drop_left' (putB_length 8 _)]
    exact mW_part r j x (by simpa using h)

/-- A number that bytes say. -/
def mN (zs : List Nat) (j : Nat) : Int := IntKind.i64.wrap ((getB 0 ((zs.drop (j * 8)).take 8) : Nat) : Int)

theorem mN_words (xs : List Int) (j : Nat) (x : Int) (t : List Nat) (h : xs[j]? = some x) (h1 : -9223372036854775808 ≤ x) (h2 : x ≤ 9223372036854775807) : mN (mW xs ++ t) j = x := by
  have hj : j < xs.length := (List.getElem?_eq_some_iff.1 h).1
  unfold mN
  rw [List.drop_append_of_le_length (by rw [mW_length]; omega), List.take_append_of_le_length (by rw [List.length_drop, mW_length]; omega), mW_part xs j x h, getB_putB, Nat.mod_eq_of_lt (by exact mU_lt x)]
  unfold mU
  simp only [IntKind.wrap_i64]
  omega

def Fo.seven (f : Fo) : List Int := [f.nu, f.rk, f.ge, f.lv, f.bt, f.mn, f.mx]
def Fo.bare (f : Fo) : Fo := { f with pa := none, pl := 0, pc := 0, ps := [] }
def foB (zs : List Nat) : Fo := ⟨mN zs 0, mN zs 2, mN zs 3, mN zs 1, mN zs 5, mN zs 6, mN zs 4, none, 0, 0, []⟩
def manT (l : List Fo) : List Nat := (l.map fun f => mW f.seven).flatten
def manB (l : List Fo) : List Nat := putB l.length 4 ++ manT l

theorem manT_cons (f : Fo) (l : List Fo) : manT (f :: l) = mW f.seven ++ manT l := rfl
theorem manT_snoc (l : List Fo) (f : Fo) : manT (l ++ [f]) = manT l ++ mW f.seven := by simp [manT]
theorem manT_length : ∀ l : List Fo, (manT l).length = 56 * l.length
  | [] => rfl
  | f :: r => by rw [manT_cons, List.length_append, mW_length, manT_length r, List.length_cons]; simp only [Fo.seven, List.length_cons, List.length_nil]; omega
theorem manB_length (l : List Fo) : (manB l).length = 4 + 56 * l.length := by rw [manB, List.length_append, putB_length, manT_length]
theorem manT_lt (l : List Fo) : ∀ y ∈ manT l, y < 256 := by
  intro y hy
  simp only [manT, List.mem_flatten, List.mem_map] at hy
  obtain ⟨q, ⟨f, _, rfl⟩, h⟩ := hy
  exact mW_lt _ y h
theorem manB_lt (l : List Fo) : ∀ y ∈ manB l, y < 256 := by
  intro y hy
  rcases List.mem_append.1 hy with h | h
  · exact putB_lt 4 _ y h
  · exact manT_lt l y h

/-- The blocks that bytes say: so many. -/
def fosB (zs : List Nat) (n : Nat) : List Fo := (List.range n).map fun i => foB (zs.drop (i * 56))

theorem fosB_length (zs : List Nat) (n : Nat) : (fosB zs n).length = n := by simp [fosB]
theorem fosB_succ (zs : List Nat) (n : Nat) : fosB zs (n + 1) = fosB zs n ++ [foB (zs.drop (n * 56))] := by simp [fosB, List.range_succ]
theorem fosB_cons (zs : List Nat) (n : Nat) : fosB zs (n + 1) = foB zs :: fosB (zs.drop 56) n := by
  simp only [fosB, List.range_succ_eq_map, List.map_cons, List.map_map, Nat.zero_mul, List.drop_zero]
  congr 1
  apply List.map_congr_left
  intro i _
  simp only [Function.comp, List.drop_drop]
  rw [show (i + 1) * 56 = 56 + i * 56 from by omega]

def wfF (f : Fo) : Prop := ∀ x ∈ f.seven, -9223372036854775808 ≤ x ∧ x ≤ 9223372036854775807

theorem foB_man (f : Fo) (t : List Nat) (h : wfF f) : foB (mW f.seven ++ t) = f.bare := by
  have q : ∀ (j : Nat) (x : Int), f.seven[j]? = some x → mN (mW f.seven ++ t) j = x := fun j x hx =>
    mN_words _ j x t hx (h x (List.mem_of_getElem? hx)).1 (h x (List.mem_of_getElem? hx)).2
  unfold foB Fo.bare
  rw [q 0 f.nu rfl, q 1 f.rk rfl, q 2 f.ge rfl, q 3 f.lv rfl, q 4 f.bt rfl, q 5 f.mn rfl, q 6 f.mx rfl]

theorem fosB_man : ∀ l : List Fo, (∀ f ∈ l, wfF f) → fosB (manT l) l.length = l.map Fo.bare
  | [], _ => rfl
  | f :: r, h => by
    have e : (manT (f :: r)).drop 56 = manT r := by rw [manT_cons, List.drop_left' (by rw [mW_length]; rfl)]
    rw [List.length_cons, fosB_cons, e, fosB_man r (fun x hx => h x (List.mem_cons_of_mem _ hx)), manT_cons, foB_man f _ (h f (by simp)), List.map_cons]

/-- What bytes say, if they are a manifest's. -/
def manN (zs : List Nat) : Nat := getB 0 (zs.take 4)
def manOk (zs : List Nat) : Bool := decide (4 ≤ zs.length) && decide (manN zs ≤ 1000) && decide (zs.length = 4 + manN zs * 56)
def readL (zs : List Nat) : List Fo := fosB (zs.drop 4) (manN zs)

theorem manN_man (l : List Fo) (h : l.length ≤ 1000) : manN (manB l) = l.length := by
  unfold manN manB
  rw [List.take_left' (putB_length 4 _), getB_putB, Nat.mod_eq_of_lt (by omega)]
theorem manOk_man (l : List Fo) (h : l.length ≤ 1000) : manOk (manB l) = true := by
  unfold manOk
  rw [manN_man l h, manB_length]
  simp
  omega
theorem readL_man (l : List Fo) (h : l.length ≤ 1000) (hw : ∀ f ∈ l, wfF f) : readL (manB l) = l.map Fo.bare := by
  unfold readL
  rw [manN_man l h]
  unfold manB
  rw [List.drop_left' (putB_length 4 _), fosB_man l hw]
theorem manOk_more (l : List Fo) (h : l.length ≤ 1000) : manOk (manB l ++ [0]) = false := by
  have e : manN (manB l ++ [0]) = l.length := by
    unfold manN manB
    rw [List.append_assoc, List.take_left' (putB_length 4 _), getB_putB, Nat.mod_eq_of_lt (by omega)]
  unfold manOk
  rw [e, List.length_append, manB_length]
  simp
  omega

theorem bare_rk (l : List Fo) (k : Nat) (f : Fo) : rkOk (l.map Fo.bare) k f.bare = rkOk l k f := by
  unfold rkOk
  cases k with
  | zero => rfl
  | succ j =>
    simp only [List.getElem?_map]
    cases l[j]? <;> rfl

theorem pc_bare (l : List Fo) : pcL (l.map Fo.bare) = pcL l := by
  have e : ∀ k, pcAt (l.map Fo.bare) k = pcAt l k := by
    intro k
    unfold pcAt
    rw [List.getElem?_map]
    cases l[k]? with
    | none => rfl
    | some f =>
      simp only [Option.map_some]
      rw [bare_rk]
      rfl
  unfold pcL pcTo
  rw [List.length_map, List.map_map]
  congr 1
  congr 1
  exact funext e

end Go.Proofs.YteammmhlpinhfaaGreatDoor
