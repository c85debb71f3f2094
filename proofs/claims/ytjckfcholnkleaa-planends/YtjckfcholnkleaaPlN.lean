/- PlanEnds, plainly. -/
import Derived.Test.YtjckfcholnkleaaPlJ
namespace Go.Proofs.Ytjckfcholnkleaa
open Go.RowKit Go.Joins
set_option linter.unusedVariables false

theorem pcL_iff (l : List Fo) : pcL l = true ↔ (∀ f ∈ l, standF f = true) ∧ l.Pairwise (fun f g => f.rk < g.rk) ∧ (l.map Fo.nu).Nodup := by
  unfold pcL
  rw [Bool.and_eq_true, nodupB_iff]
  have key : pcTo l l.length = true ↔ (∀ f ∈ l, standF f = true) ∧ l.Pairwise (fun f g => f.rk < g.rk) := by
    unfold pcTo
    rw [List.all_eq_true]
    constructor
    · intro h
      have hst : ∀ i f, l[i]? = some f → standF f = true ∧ rkOk l i f = true := fun i f hf => by
        have := h i (List.mem_range.2 (List.getElem?_eq_some_iff.1 hf).1)
        rw [pcAt_of hf, Bool.and_eq_true] at this
        exact this
      refine ⟨fun f hf => ?_, ?_⟩
      · obtain ⟨i, hi⟩ := List.mem_iff_getElem?.1 hf
        exact (hst i f hi).1
      · rw [List.pairwise_iff_getElem]
        intro i j hi hj hij
        induction j with
        | zero => omega
        | succ j ih =>
          have h2 := (hst (j + 1) _ (List.getElem?_eq_getElem hj)).2
          rw [rkOk_succ (List.getElem?_eq_getElem (by omega : j < l.length))] at h2
          have h3 := of_decide_eq_true h2
          by_cases e : i = j
          · subst e; exact h3
          · have := ih (by omega) (by omega)
            omega
    · rintro ⟨h1, h2⟩ i hi
      rw [List.mem_range] at hi
      have hf := List.getElem?_eq_getElem hi
      rw [pcAt_of hf, Bool.and_eq_true]
      refine ⟨h1 _ (List.getElem_mem hi), ?_⟩
      cases i with
      | zero => rfl
      | succ j =>
        rw [rkOk_succ (List.getElem?_eq_getElem (by omega : j < l.length))]
        exact decide_eq_true (List.pairwise_iff_getElem.1 h2 j (j + 1) (by omega) hi (by omega))
  rw [key, and_assoc]

theorem merge_split (l : List Fo) : mergeL l = [] ∨ ∃ A f g x B, l = A ++ f :: g :: x :: B ∧ okM f g x = true ∧ mergeL l = [f.nu, g.nu, x.nu] := by
  induction l with
  | nil => exact .inl rfl
  | cons a t ih =>
    match t, ih with
    | [], _ => exact .inl rfl
    | [_], _ => exact .inl rfl
    | g :: x :: B, ih =>
      cases hk : okM a g x with
      | true => exact .inr ⟨[], a, g, x, B, rfl, hk, by simp [mergeL, hk]⟩
      | false =>
        have e : mergeL (a :: g :: x :: B) = mergeL (g :: x :: B) := by simp [mergeL, hk]
        rw [e]
        rcases ih with h | ⟨A, f, g', x', B', h1, h2, h3⟩
        · exact .inl h
        · exact .inr ⟨a :: A, f, g', x', B', by rw [h1]; rfl, h2, h3⟩

/-- The blocks of PlanEnds, and the next number. -/
def EndI (L : List Fo) (nx : Int) : Prop := pcL L = true ∧ ∀ d ∈ L, d.nu < nx

theorem okM_lv {f g x : Fo} (h : okM f g x = true) : f.lv = g.lv ∧ g.lv = x.lv ∧ f.lv < 3 := by
  simp only [okM, Bool.and_eq_true, decide_eq_true_eq] at h
  exact ⟨h.1.1, h.1.2, h.2⟩

theorem end_ok {A B : List Fo} {f g x : Fo} {nx : Int} (h : EndI (A ++ f :: g :: x :: B) nx) (hk : okM f g x = true) (h1 : 1 ≤ nx) (h2 : nx ≤ 1000) : okMg [f, g, x] nx 2 = true := by
  have hp := (pcL_iff _).1 h.1
  have hs : [f, g, x].Sublist (A ++ f :: g :: x :: B) := (List.sublist_append_of_sublist_right (List.Sublist.cons_cons f (List.Sublist.cons_cons g (List.Sublist.cons_cons x (List.nil_sublist B)))))
  have hc : pcL [f, g, x] = true := (pcL_iff _).2 ⟨fun d hd => hp.1 d (hs.subset hd), hp.2.1.sublist hs, hp.2.2.sublist (hs.map _)⟩
  simp only [okMg, hc, canMergeL_three, hk, numB]
  simp
  omega

theorem end_first {A B : List Fo} {f g x : Fo} {nx : Int} (h : EndI (A ++ f :: g :: x :: B) nx) : ∀ j d, j < A.length → (A ++ f :: g :: x :: B)[j]? = some d → (d.nu == f.nu) = false := by
  intro j d hj hd
  have hp := ((pcL_iff _).1 h.1).2.2
  rw [List.map_append, List.map_cons, List.nodup_append] at hp
  rw [List.getElem?_append_left hj] at hd
  have := hp.2.2 d.nu (List.mem_map.2 ⟨d, List.mem_of_getElem? hd, rfl⟩) f.nu (List.mem_cons_self ..)
  simpa using this

theorem end_next {A B : List Fo} {f g x d : Fo} {nx : Int} (h : EndI (A ++ f :: g :: x :: B) nx) (hk : okM f g x = true) (h1 : 1 ≤ nx) (h2 : nx ≤ 1000) (hd : d.nu = nx ∧ d.ge = 2 ∧ d.lv = f.lv + 1 ∧ d.rk = x.rk ∧ d.mn = 0 ∧ d.mx = 0 ∧ d.bt = 0) : EndI (A ++ d :: B) (nx + 1) := by
  obtain ⟨d1, d2, d3, d4, d5, d6, d7⟩ := hd
  have hp := (pcL_iff _).1 h.1
  obtain ⟨k1, k2, k3⟩ := okM_lv hk
  have hx := hp.1 x (by simp)
  have hf := hp.1 f (by simp)
  have hsx := standF_true hx
  have hsf := standF_true hf
  refine ⟨(pcL_iff _).2 ⟨?_, ?_, ?_⟩, ?_⟩
  · intro y hy
    rcases List.mem_append.1 hy with hy | hy
    · exact hp.1 y (List.mem_append_left _ hy)
    · rcases List.mem_cons.1 hy with rfl | hy
      · have a1 : numB y.nu = true := by rw [d1]; simp [numB]; omega
        have a2 : numB y.rk = true := by rw [d4]; exact hsx.2.1
        have a3 : numB y.ge = true := by rw [d2]; simp [numB]
        simp only [standF, a1, a2, a3, d3, d5, d6, d7]
        simp
        omega
      · exact hp.1 y (List.mem_append_right _ (by simp [hy]))
  · have hr := hp.2.1
    rw [List.pairwise_append] at hr ⊢
    obtain ⟨r1, r2, r3⟩ := hr
    rw [List.pairwise_cons, List.pairwise_cons, List.pairwise_cons] at r2
    refine ⟨r1, ?_, ?_⟩
    · rw [List.pairwise_cons]
      exact ⟨fun y hy => by rw [d4]; exact r2.2.2.1 y hy, r2.2.2.2⟩
    · intro y hy z hz
      rcases List.mem_cons.1 hz with rfl | hz
      · rw [d4]; exact r3 y hy x (by simp)
      · exact r3 y hy z (by simp [hz])
  · have hn := hp.2.2
    rw [List.map_append, List.map_cons, List.map_cons, List.map_cons, List.nodup_append, List.nodup_cons, List.nodup_cons, List.nodup_cons] at hn
    rw [List.map_append, List.map_cons, List.nodup_append, List.nodup_cons]
    have hlt : ∀ y ∈ A ++ f :: g :: x :: B, y.nu < nx := h.2
    refine ⟨hn.1, ⟨?_, hn.2.1.2.2.2⟩, ?_⟩
    · intro hm
      obtain ⟨y, hy, e⟩ := List.mem_map.1 hm
      have := hlt y (List.mem_append_right _ (by simp [hy]))
      omega
    · intro a ha b hb
      rcases List.mem_cons.1 hb with rfl | hb
      · obtain ⟨y, hy, rfl⟩ := List.mem_map.1 ha
        have := hlt y (List.mem_append_left _ hy)
        omega
      · exact hn.2.2 a ha b (by simp [hb])
  · intro y hy
    rcases List.mem_append.1 hy with hy | hy
    · have := h.2 y (List.mem_append_left _ hy); omega
    · rcases List.mem_cons.1 hy with rfl | hy
      · omega
      · have := h.2 y (List.mem_append_right _ (by simp [hy])); omega

/-- The footer that PlanEnds makes of a level. -/
def endF (k : Nat) (v : Int) : Fo := ⟨(k : Int) + 1, 1, v, (k : Int) + 1, 0, 0, 0, none, 0, 0, []⟩

theorem endI_snoc {L : List Fo} {k : Nat} {v : Int} (h : EndI L ((k : Int) + 1)) (hr : ∀ d ∈ L, d.rk < (k : Int) + 1) (hk : k ≤ 1000) (h1 : 1 ≤ v) (h2 : v ≤ 3) : EndI (L ++ [endF k v]) ((k : Int) + 1 + 1) ∧ ∀ d ∈ L ++ [endF k v], d.rk < (k : Int) + 1 + 1 := by
  have hp := (pcL_iff _).1 h.1
  refine ⟨⟨(pcL_iff _).2 ⟨?_, ?_, ?_⟩, ?_⟩, ?_⟩
  · intro y hy
    rcases List.mem_append.1 hy with hy | hy
    · exact hp.1 y hy
    · rw [List.mem_singleton.1 hy]
      have a1 : numB ((k : Int) + 1) = true := by simp only [numB, Bool.and_eq_true, decide_eq_true_eq]; omega
      have a2 : numB 1 = true := rfl
      show (numB ((k : Int) + 1) && numB ((k : Int) + 1) && numB 1 && decide (1 ≤ v) && decide (v ≤ 3) && decide ((0 : Int) ≤ 0) && decide ((0 : Int) ≤ 2147483647) && decide ((0 : Int) ≤ 0)) = true
      rw [a1, a2, decide_eq_true h1, decide_eq_true h2]
      rfl
  · rw [List.pairwise_append]
    exact ⟨hp.2.1, List.pairwise_singleton _ _, fun y hy z hz => by rw [List.mem_singleton.1 hz]; exact hr y hy⟩
  · rw [List.map_append, List.nodup_append]
    refine ⟨hp.2.2, by simp, ?_⟩
    intro a ha b hb
    simp only [List.map_cons, List.map_nil, List.mem_singleton] at hb
    obtain ⟨y, hy, rfl⟩ := List.mem_map.1 ha
    have := h.2 y hy
    rw [hb]
    simp only [endF]
    omega
  · intro y hy
    rcases List.mem_append.1 hy with hy | hy
    · have := h.2 y hy; omega
    · rw [List.mem_singleton.1 hy]; simp only [endF]; omega
  · intro y hy
    rcases List.mem_append.1 hy with hy | hy
    · have := hr y hy; omega
    · rw [List.mem_singleton.1 hy]; simp only [endF]; omega

end Go.Proofs.Ytjckfcholnkleaa
