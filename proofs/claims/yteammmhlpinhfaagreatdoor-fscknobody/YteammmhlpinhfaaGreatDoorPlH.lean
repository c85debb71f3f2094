/- Which blocks may be, plainly; the document's Can. -/
import Derived.Test.YteammmhlpinhfaaGreatDoorPlG
namespace Go.Proofs.YteammmhlpinhfaaGreatDoor
open Go.RowKit Go.Joins
set_option linter.unusedVariables false

def rkOk (l : List Fo) (i : Nat) (f : Fo) : Bool := match i with
  | 0 => true
  | j + 1 => match l[j]? with
    | some g => decide (g.rk < f.rk)
    | none => true

def pcAt (l : List Fo) (i : Nat) : Bool := match l[i]? with
  | some f => standF f && rkOk l i f
  | none => true

def pcTo (l : List Fo) (k : Nat) : Bool := (List.range k).all (pcAt l)

def nodupB : List Int → Bool
  | [] => true
  | x :: t => !(t.contains x) && nodupB t

def pcL (l : List Fo) : Bool := pcTo l l.length && nodupB (l.map Fo.nu)

theorem nodupB_iff (xs : List Int) : nodupB xs = true ↔ xs.Nodup := by
  induction xs with
  | nil => simp [nodupB]
  | cons x t ih => simp [nodupB, ih, List.nodup_cons]

theorem pcTo_succ (l : List Fo) (k : Nat) : pcTo l (k + 1) = (pcTo l k && pcAt l k) := by
  unfold pcTo; rw [List.range_succ, List.all_append]; simp

theorem pcAt_of {l : List Fo} {k : Nat} {f : Fo} (h : l[k]? = some f) : pcAt l k = (standF f && rkOk l k f) := by unfold pcAt; rw [h]

theorem pcL_false {l : List Fo} {k : Nat} {f : Fo} (h : l[k]? = some f) (hf : (standF f && rkOk l k f) = false) : pcL l = false := by
  have hk : k < l.length := (List.getElem?_eq_some_iff.1 h).1
  unfold pcL
  have : pcTo l l.length = false := by
    rw [Bool.eq_false_iff]
    intro e
    have := List.all_eq_true.1 e k (List.mem_range.2 hk)
    rw [pcAt_of h, hf] at this
    cases this
  rw [this]
  rfl

theorem rkOk_succ {l : List Fo} {k : Nat} {f g : Fo} (h : l[k]? = some g) : rkOk l (k + 1) f = decide (g.rk < f.rk) := by simp [rkOk, h]

/-- No block ahead of this one has its number. -/
def freshTo (l : List Fo) (k : Nat) : Prop := ∀ i j f g, i < j → j < k → l[i]? = some f → l[j]? = some g → f.nu ≠ g.nu

theorem freshTo_all {l : List Fo} (h : freshTo l l.length) : nodupB (l.map Fo.nu) = true := by
  rw [nodupB_iff, List.Nodup, List.pairwise_iff_getElem]
  intro i j hi hj hij
  rw [List.length_map] at hi hj
  rw [List.getElem_map, List.getElem_map]
  exact h i j _ _ hij hj (List.getElem?_eq_getElem hi) (List.getElem?_eq_getElem hj)

theorem pcdup_false {l : List Fo} {i j : Nat} {f g : Fo} (hij : i < j) (hi : l[i]? = some f) (hj : l[j]? = some g) (e : f.nu = g.nu) : pcL l = false := by
  have : nodupB (l.map Fo.nu) = false := by
    rw [Bool.eq_false_iff]
    intro h
    rw [nodupB_iff, List.Nodup, List.pairwise_iff_getElem] at h
    have h1 := (List.getElem?_eq_some_iff.1 hi)
    have h2 := (List.getElem?_eq_some_iff.1 hj)
    obtain ⟨h1a, h1b⟩ := h1
    obtain ⟨h2a, h2b⟩ := h2
    have := h i j (by rw [List.length_map]; exact h1a) (by rw [List.length_map]; exact h2a) hij
    rw [List.getElem_map, List.getElem_map, h1b, h2b] at this
    exact this e
  unfold pcL
  rw [this, Bool.and_false]

theorem pcL_true {l : List Fo} (h1 : pcTo l l.length = true) (h2 : freshTo l l.length) : pcL l = true := by
  unfold pcL; rw [h1, freshTo_all h2]; rfl

theorem standF_true {f : Fo} (h : standF f = true) : numB f.nu = true ∧ numB f.rk = true ∧ numB f.ge = true ∧ 1 ≤ f.lv ∧ f.lv ≤ 3 ∧ 0 ≤ f.bt ∧ f.bt ≤ 2147483647 ∧ f.mn ≤ f.mx := by
  simp only [standF, Bool.and_eq_true, decide_eq_true_eq] at h
  obtain ⟨⟨⟨⟨⟨⟨⟨h0, h1⟩, h2⟩, h3⟩, h4⟩, h5⟩, h6⟩, h7⟩ := h
  exact ⟨h0, h1, h2, h3, h4, h5, h6, h7⟩

theorem standF_false {f : Fo} (h : standF f = false) :
    numB f.nu = false ∨ (numB f.nu = true ∧ numB f.rk = false) ∨ (numB f.nu = true ∧ numB f.rk = true ∧ numB f.ge = false) ∨ (numB f.nu = true ∧ numB f.rk = true ∧ numB f.ge = true ∧ f.lv < 1) ∨
    (numB f.nu = true ∧ numB f.rk = true ∧ numB f.ge = true ∧ 1 ≤ f.lv ∧ 3 < f.lv) ∨ (numB f.nu = true ∧ numB f.rk = true ∧ numB f.ge = true ∧ 1 ≤ f.lv ∧ f.lv ≤ 3 ∧ f.bt < 0) ∨
    (numB f.nu = true ∧ numB f.rk = true ∧ numB f.ge = true ∧ 1 ≤ f.lv ∧ f.lv ≤ 3 ∧ 0 ≤ f.bt ∧ 2147483647 < f.bt) ∨
    (numB f.nu = true ∧ numB f.rk = true ∧ numB f.ge = true ∧ 1 ≤ f.lv ∧ f.lv ≤ 3 ∧ 0 ≤ f.bt ∧ f.bt ≤ 2147483647 ∧ f.mx < f.mn) := by
  have h' : ¬ (numB f.nu = true ∧ numB f.rk = true ∧ numB f.ge = true ∧ 1 ≤ f.lv ∧ f.lv ≤ 3 ∧ 0 ≤ f.bt ∧ f.bt ≤ 2147483647 ∧ f.mn ≤ f.mx) := by
    rintro ⟨h0, h1, h2, h3, h4, h5, h6, h7⟩
    simp [standF, h0, h1, h2, h3, h4, h5, h6, h7] at h
  cases h0 : numB f.nu with
  | false => exact .inl rfl
  | true =>
    cases h1 : numB f.rk with
    | false => exact .inr (.inl ⟨rfl, rfl⟩)
    | true =>
      cases h2 : numB f.ge with
      | false => exact .inr (.inr (.inl ⟨rfl, rfl, rfl⟩))
      | true =>
        have h2' : ¬ (1 ≤ f.lv ∧ f.lv ≤ 3 ∧ 0 ≤ f.bt ∧ f.bt ≤ 2147483647 ∧ f.mn ≤ f.mx) := fun e => h' ⟨h0, h1, h2, e⟩
        simp only [true_and, reduceCtorEq, and_false, false_or]
        omega

end Go.Proofs.YteammmhlpinhfaaGreatDoor
