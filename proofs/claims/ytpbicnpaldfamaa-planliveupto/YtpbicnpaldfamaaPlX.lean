/- What is live, in plain words. -/
import Derived.Test.YtpbicnpaldfamaaPlW
namespace Go.Proofs.Ytpbicnpaldfamaa
open Go.RowKit Go.Joins
set_option linter.unusedVariables false

/-- Neither is a parent of the other. -/
def Rk (x y : Fo) : Prop := x.nu ∉ y.ps ∧ y.nu ∉ x.ps

def Rs (x y : Fo) : Prop := x.rk ≤ y.rk

theorem mem_heirs {l : List Fo} {gen : Int} {n j : Nat} {o : Fo} {p : Int} (hj : j < n) (ho : l[j]? = some o) (hg : o.ge ≤ gen) (hp : p ∈ o.ps) : (p, o.nu, (j : Int)) ∈ heirsTo l gen n := by
  unfold heirsTo
  refine List.mem_flatMap.2 ⟨j, List.mem_range.2 hj, ?_⟩
  unfold heirsAt
  rw [ho]
  simp only [hg, if_true]
  exact List.mem_map.2 ⟨p, hp, rfl⟩

theorem heirs_mem {l : List Fo} {gen : Int} {n : Nat} {e : Int × Int × Int} (h : e ∈ heirsTo l gen n) : ∃ j o, j < n ∧ l[j]? = some o ∧ e.1 ∈ o.ps ∧ e.2 = (o.nu, (j : Int)) := by
  unfold heirsTo at h
  obtain ⟨j, hj, he⟩ := List.mem_flatMap.1 h
  unfold heirsAt at he
  cases ho : l[j]? with
  | none => rw [ho] at he; cases he
  | some o =>
    rw [ho] at he
    simp only at he
    split at he
    · obtain ⟨p, hp, rfl⟩ := List.mem_map.1 he
      exact ⟨j, o, List.mem_range.1 hj, ho, hp, rfl⟩
    · cases he

theorem mem_getE {E : List (Int × Int × Int)} {p : Int} {b : Int × Int} : b ∈ getE E p ↔ (p, b) ∈ E := by
  unfold getE
  constructor
  · intro h
    obtain ⟨e, he, rfl⟩ := List.mem_map.1 h
    obtain ⟨h1, h2⟩ := List.mem_filter.1 he
    have h3 : e.1 = p := by simpa using h2
    rw [← h3]
    exact h1
  · intro h
    exact List.mem_map.2 ⟨(p, b), List.mem_filter.2 ⟨h, by simp⟩, rfl⟩

theorem replG_false {G : List (Int × Int)} {nu i : Int} : replG G nu i = false ↔ ∀ b ∈ G, b = (nu, i) := by
  unfold replG
  rw [List.any_eq_false]
  constructor
  · intro h b hb
    have := h b hb
    simp at this
    exact Prod.ext this.1 this.2
  · intro h b hb
    rw [h b hb]
    simp

theorem liveAt_mem {l : List Fo} {gen fl : Int} {E : List (Int × Int × Int)} {k : Nat} {x : Fo} (h : x ∈ liveAt l gen fl E k) : l[k]? = some x ∧ x.ge ≤ gen ∧ ¬ (x.mx < fl ∧ x.bt ≠ 0) ∧ replG (getE E x.nu) x.nu (k : Int) = false := by
  unfold liveAt at h
  cases ho : l[k]? with
  | none => rw [ho] at h; cases h
  | some o =>
    rw [ho] at h
    simp only at h
    split at h
    · rename_i hc
      rw [List.mem_singleton.1 h]
      exact ⟨rfl, hc⟩
    · cases h

theorem liveTo_mem {l : List Fo} {gen fl : Int} {E : List (Int × Int × Int)} {n : Nat} {x : Fo} (h : x ∈ liveTo l gen fl E n) : ∃ k, k < n ∧ x ∈ liveAt l gen fl E k := by
  obtain ⟨k, hk, hx⟩ := List.mem_flatMap.1 h
  exact ⟨k, List.mem_range.1 hk, hx⟩

theorem live_apart {l : List Fo} {gen fl : Int} {n i j : Nat} {x y : Fo} (hj : j < n) (hx : x ∈ liveAt l gen fl (heirsTo l gen n) i) (hy : y ∈ liveAt l gen fl (heirsTo l gen n) j) (hij : i ≠ j) : x.nu ∉ y.ps := by
  intro hp
  obtain ⟨hx1, hx2, hx3, hx4⟩ := liveAt_mem hx
  obtain ⟨hy1, hy2, hy3, hy4⟩ := liveAt_mem hy
  have h1 := mem_heirs hj hy1 hy2 hp
  have h2 := replG_false.1 hx4 _ (mem_getE.2 h1)
  simp only [Prod.mk.injEq] at h2
  omega

theorem live_pairs (l : List Fo) (gen fl : Int) (n : Nat) : ∀ k, k ≤ n → (liveTo l gen fl (heirsTo l gen n) k).Pairwise Rk
  | 0, _ => List.Pairwise.nil
  | k + 1, hk => by
    rw [liveTo_succ, List.pairwise_append]
    refine ⟨live_pairs l gen fl n k (by omega), ?_, ?_⟩
    · unfold liveAt
      split
      · split
        · exact List.pairwise_singleton _ _
        · exact List.Pairwise.nil
      · exact List.Pairwise.nil
    · intro x hx y hy
      obtain ⟨i, hi, hx⟩ := liveTo_mem hx
      exact ⟨live_apart (by omega) hx hy (by omega), live_apart (by omega) hy hx (by omega)⟩

/-- The same values: what is said of values holds of both. -/
theorem pv_mem {l m : List Fo} (h : l.map Fo.pv = m.map Fo.pv) {x : Fo} (hx : x ∈ l) : ∃ y ∈ m, y.pv = x.pv := by
  have : x.pv ∈ m.map Fo.pv := by rw [← h]; exact List.mem_map.2 ⟨x, hx, rfl⟩
  obtain ⟨y, hy, he⟩ := List.mem_map.1 this
  exact ⟨y, hy, he⟩

abbrev PVt := Int × Int × Int × Int × Int × Int × Int × List Int

theorem pv_pairs {l m : List Fo} (h : l.map Fo.pv = m.map Fo.pv) (hm : m.Pairwise Rk) : l.Pairwise Rk := by
  have h1 : (m.map Fo.pv).Pairwise (fun (x y : PVt) => x.1 ∉ y.2.2.2.2.2.2.2 ∧ y.1 ∉ x.2.2.2.2.2.2.2) := List.pairwise_map.2 hm
  rw [← h, List.pairwise_map] at h1
  exact h1

theorem pv_sorted {l m : List Fo} (h : l.map Fo.pv = m.map Fo.pv) (hm : m.Pairwise Rs) : l.Pairwise Rs := by
  have h1 : (m.map Fo.pv).Pairwise (fun (x y : PVt) => x.2.2.2.1 ≤ y.2.2.2.1) := List.pairwise_map.2 hm
  rw [← h, List.pairwise_map] at h1
  exact h1

theorem sort_pairs {l : List Fo} (h : l.Pairwise Rk) : (sortE l).Pairwise Rk := ((sortE_perm l).pairwise_iff (fun h => ⟨h.2, h.1⟩)).2 h

theorem insRev_sorted : ∀ (R : List Fo) (f : Fo), R.Pairwise (fun x y => y.rk ≤ x.rk) → (insRev R f).Pairwise (fun x y => y.rk ≤ x.rk)
  | [], f, _ => List.pairwise_singleton _ _
  | x :: t, f, h => by
    rw [List.pairwise_cons] at h
    show (if f.rk < x.rk then x :: insRev t f else f :: x :: t).Pairwise _
    split
    · rename_i hf
      rw [List.pairwise_cons]
      refine ⟨fun y hy => ?_, insRev_sorted t f h.2⟩
      rcases List.mem_cons.1 ((insRev_perm t f).mem_iff.1 hy) with e | e
      · rw [e]; omega
      · exact h.1 y e
    · rename_i hf
      rw [List.pairwise_cons, List.pairwise_cons]
      refine ⟨fun y hy => ?_, h.1, h.2⟩
      rcases List.mem_cons.1 hy with e | e
      · rw [e]; omega
      · have := h.1 y e; omega

theorem insE_sorted {L : List Fo} (f : Fo) (h : L.Pairwise Rs) : (insE L f).Pairwise Rs := by
  unfold insE
  rw [List.pairwise_reverse]
  exact insRev_sorted _ f (List.pairwise_reverse.2 h)

theorem sortE_sorted (M : List Fo) : (sortE M).Pairwise Rs := by
  have key : ∀ (M A : List Fo), A.Pairwise Rs → (M.foldl insE A).Pairwise Rs := by
    intro M
    induction M with
    | nil => intro A h; exact h
    | cons x t ih => intro A h; exact ih _ (insE_sorted x h)
  exact key M [] List.Pairwise.nil

theorem sortE_id {M : List Fo} (h : M.Pairwise Rs) : sortE M = M := by
  have key : ∀ (M A : List Fo), (A ++ M).Pairwise Rs → M.foldl insE A = A ++ M := by
    intro M
    induction M with
    | nil => intro A h; simp
    | cons x t ih =>
      intro A h
      have hx : ∀ y ∈ A, y.rk ≤ x.rk := fun y hy => (List.pairwise_append.1 h).2.2 y hy x (by simp)
      have e := insE_at A [] x (fun y hy => by cases hy) (fun y hy => by
        have := hx y (List.mem_of_getLast? hy)
        omega)
      rw [List.append_nil] at e
      show t.foldl insE (insE A x) = _
      rw [e, ih (A ++ [x]) (by simpa using h)]
      simp
  exact key M [] h

theorem again_at {M : List Fo} {gen fl : Int} {n k : Nat} (hn : M.length = n) (hP : M.Pairwise Rk) (hK : ∀ d ∈ M, d.ge ≤ gen ∧ ¬ (d.mx < fl ∧ d.bt ≠ 0)) {d : Fo} (hd : M[k]? = some d) : liveAt M gen fl (heirsTo M gen n) k = [d] := by
  unfold liveAt
  rw [hd]
  have hm := List.mem_of_getElem? hd
  refine if_pos ⟨(hK d hm).1, (hK d hm).2, replG_false.2 fun b hb => ?_⟩
  obtain ⟨j, o, hj, ho, hp, he⟩ := heirs_mem (mem_getE.1 hb)
  simp only at hp he
  by_cases hjk : j = k
  · subst hjk
    rw [hd] at ho
    injection ho with ho
    rw [he, ho]
  · exfalso
    obtain ⟨h1, h1'⟩ := List.getElem?_eq_some_iff.1 hd
    obtain ⟨h2, h2'⟩ := List.getElem?_eq_some_iff.1 ho
    have hp2 := List.pairwise_iff_getElem.1 hP
    rcases Nat.lt_or_gt_of_ne hjk with hlt | hlt
    · have := (hp2 j k h2 h1 hlt).2
      rw [h1', h2'] at this
      exact this hp
    · have := (hp2 k j h1 h2 hlt).1
      rw [h1', h2'] at this
      exact this hp

theorem again_all {M : List Fo} {gen fl : Int} {n : Nat} (hn : M.length = n) (hP : M.Pairwise Rk) (hK : ∀ d ∈ M, d.ge ≤ gen ∧ ¬ (d.mx < fl ∧ d.bt ≠ 0)) : liveTo M gen fl (heirsTo M gen n) n = M := by
  have key : ∀ k, k ≤ n → liveTo M gen fl (heirsTo M gen n) k = M.take k := by
    intro k
    induction k with
    | zero => intro _; rfl
    | succ k ih =>
      intro hk
      obtain ⟨d, hd⟩ : ∃ d, M[k]? = some d := ⟨_, List.getElem?_eq_getElem (by omega)⟩
      rw [liveTo_succ, ih (by omega), again_at hn hP hK hd, List.take_add_one, hd]
      rfl
  rw [key n (Nat.le_refl _), ← hn, List.take_length]

end Go.Proofs.Ytpbicnpaldfamaa
