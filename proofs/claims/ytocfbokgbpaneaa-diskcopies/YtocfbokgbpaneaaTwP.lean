/- Files as a plain list of names and extents, held against the plain state. -/
import Derived.Test.YtocfbokgbpaneaaTwA
import Derived.Sort.Walk0
namespace Go.Proofs.Ytocfbokgbpaneaa
open Go.RowKit Go.Maps
set_option linter.unusedVariables false

abbrev Vw := List (ByteArray × List Ext)

def findV (V : Vw) (s : ByteArray) : List Ext := ((V.find? fun p => decide (p.1 = s)).map Prod.snd).getD []

theorem ba_ext {a b : ByteArray} (h : a.data.toList = b.data.toList) : a = b := by
  cases a; cases b
  simp at h
  rw [h]

theorem ba_of (l : List UInt8) : (ByteArray.mk l.toArray).data.toList = l := by simp

theorem keyV_inj : ∀ {V : Vw}, (V.map Prod.fst).Nodup → ∀ {p q}, p ∈ V → q ∈ V → p.1 = q.1 → p = q
  | [], _, p, q, hp, _, _ => by cases hp
  | a :: V, hn, p, q, hp, hq, e => by
    rw [List.map_cons, List.nodup_cons] at hn
    rcases List.mem_cons.1 hp with h1 | h1
    · rcases List.mem_cons.1 hq with h2 | h2
      · rw [h1, h2]
      · exact absurd (List.mem_map.2 ⟨q, h2, by rw [← e, h1]⟩) hn.1
    · rcases List.mem_cons.1 hq with h2 | h2
      · exact absurd (List.mem_map.2 ⟨p, h1, by rw [e, h2]⟩) hn.1
      · exact keyV_inj hn.2 h1 h2 e

theorem findV_mem {V : Vw} (hn : (V.map Prod.fst).Nodup) {s : ByteArray} {l : List Ext} (h : (s, l) ∈ V) : findV V s = l := by
  unfold findV
  cases hf : V.find? fun p => decide (p.1 = s) with
  | none => have := List.find?_eq_none.1 hf _ h; simp at this
  | some p =>
    have h1 := List.find?_some hf
    have h2 := List.mem_of_find?_eq_some hf
    have h3 : p.1 = s := by simpa using h1
    have h4 := keyV_inj hn h2 h h3
    rw [h4]
    rfl

theorem findV_none {V : Vw} {s : ByteArray} (h : ∀ p ∈ V, p.1 ≠ s) : findV V s = [] := by
  unfold findV
  rw [List.find?_eq_none.2 (fun p hp => by simpa using h p hp)]
  rfl

theorem findV_ne {V : Vw} {s : ByteArray} (h : findV V s ≠ []) : (s, findV V s) ∈ V := by
  unfold findV at h ⊢
  cases hf : V.find? fun p => decide (p.1 = s) with
  | none => rw [hf] at h; exact absurd rfl h
  | some p =>
    have h1 : p.1 = s := by simpa using List.find?_some hf
    have h2 := List.mem_of_find?_eq_some hf
    rw [← h1]
    exact h2

theorem findV_congr {V V' : Vw} (hn : (V.map Prod.fst).Nodup) (hn' : (V'.map Prod.fst).Nodup) {s : ByteArray} (h : ∀ l, (s, l) ∈ V ↔ (s, l) ∈ V') : findV V s = findV V' s := by
  by_cases hx : ∃ l, (s, l) ∈ V
  · obtain ⟨l, hl⟩ := hx
    rw [findV_mem hn hl, findV_mem hn' ((h l).1 hl)]
  · rw [findV_none (fun p hp e => hx ⟨p.2, by rw [← e]; exact hp⟩), findV_none (fun p hp e => hx ⟨p.2, (h _).2 (by rw [← e]; exact hp)⟩)]

def sumV (V : Vw) : Nat := (V.map fun p => p.2.length).sum

def ltB (a b : ByteArray × List Ext) : Prop := a.1.data.toList < b.1.data.toList

/-- A list of files is what the plain state holds. -/
structure RelV (V : Vw) (room : Int) (st : St) : Prop where
  ext : ∀ s : ByteArray, st.M s.data.toList = findV V s
  free : st.free = room - (sumV V : Int)
  free0 : 0 ≤ st.free
  room0 : 0 ≤ room
  room1 : room ≤ 100000
  fuse0 : -1 ≤ st.fuse
  fuse1 : st.fuse ≤ 9223372036854775807
  name : ∀ p ∈ V, nameB p.1.data.toList = true
  full : ∀ p ∈ V, p.2 ≠ []
  rise : V.Pairwise ltB

theorem riseV_nodup {V : Vw} (h : V.Pairwise ltB) : (V.map Prod.fst).Nodup :=
  List.pairwise_map.2 (h.imp fun {a b} hab e => by
    unfold ltB at hab
    rw [e] at hab
    exact List.lt_irrefl _ hab)

theorem RelV.key {V : Vw} {room : Int} {st : St} (h : RelV V room st) : (V.map Prod.fst).Nodup := riseV_nodup h.rise

theorem RelV.sum {V : Vw} {room : Int} {st : St} (h : RelV V room st) : sumV V ≤ 100000 := by
  have := h.free; have := h.free0; have := h.room1; omega

theorem sumV_mem : ∀ {V : Vw} {p}, p ∈ V → p.2.length ≤ sumV V
  | a :: V, p, hp => by
    unfold sumV
    rw [List.map_cons, List.sum_cons]
    rcases List.mem_cons.1 hp with rfl | hp
    · omega
    · have := sumV_mem hp; unfold sumV at this; omega

theorem sumV_len : ∀ {V : Vw}, (∀ p ∈ V, p.2 ≠ []) → V.length ≤ sumV V
  | [], _ => Nat.zero_le _
  | a :: V, h => by
    have h1 := sumV_len (V := V) (fun p hp => h p (List.mem_cons_of_mem _ hp))
    have h2 : 0 < a.2.length := List.length_pos_iff.2 (h a (by simp))
    unfold sumV at h1 ⊢
    rw [List.map_cons, List.sum_cons, List.length_cons]
    omega

theorem RelV.len {V : Vw} {room : Int} {st : St} (h : RelV V room st) (nm : List UInt8) : (st.M nm).length ≤ 100000 := by
  have h1 := h.ext ⟨nm.toArray⟩
  rw [ba_of] at h1
  rw [h1]
  by_cases he : findV V ⟨nm.toArray⟩ = []
  · rw [he]; exact Nat.zero_le _
  · have := sumV_mem (findV_ne he); have := h.sum
    show (findV V ⟨nm.toArray⟩).length ≤ _
    simp only at *
    omega

theorem RelV.free1 {V : Vw} {room : Int} {st : St} (h : RelV V room st) : st.free ≤ 100000 := by
  have := h.free; have := h.room1; omega

theorem RelV.turn {V : Vw} {room : Int} {st : St} (h : RelV V room st) (fu : Int) (h0 : -1 ≤ fu) (h1 : fu ≤ 9223372036854775807) : RelV V room ⟨st.M, st.free, fu⟩ :=
  ⟨h.ext, h.free, h.free0, h.room0, h.room1, h0, h1, h.name, h.full, h.rise⟩

theorem mem_setV {V : Vw} {k : Nat} {p x : ByteArray × List Ext} (h : x ∈ V.set k p) : (∃ j, j ≠ k ∧ V[j]? = some x) ∨ x = p := by
  obtain ⟨j, hj⟩ := List.mem_iff_getElem?.1 h
  by_cases e : k = j
  · subst e
    rw [List.getElem?_set_self (by have := (List.getElem?_eq_some_iff.1 hj).1; simpa using this)] at hj
    exact .inr (Option.some.inj hj).symm
  · rw [List.getElem?_set_ne e] at hj
    exact .inl ⟨j, fun e' => e e'.symm, hj⟩

theorem sumV_set : ∀ (V : Vw) (k : Nat) (p q : ByteArray × List Ext), V[k]? = some p → sumV (V.set k q) + p.2.length = sumV V + q.2.length
  | a :: V, 0, p, q, h => by
    obtain rfl : a = p := by simpa using h
    simp [sumV]; omega
  | a :: V, k + 1, p, q, h => by
    have := sumV_set V k p q (by simpa using h)
    unfold sumV at this ⊢
    rw [List.set_cons_succ, List.map_cons, List.sum_cons, List.map_cons, List.sum_cons]
    omega

theorem pairwise_set {V : Vw} (h : V.Pairwise ltB) {k : Nat} {p q : ByteArray × List Ext} (hk : V[k]? = some p) (e : q.1 = p.1) : (V.set k q).Pairwise ltB := by
  have h1 : (V.set k q).map Prod.fst = V.map Prod.fst := by
    rw [List.map_set, e]
    refine List.ext_getElem? fun j => ?_
    by_cases hj : k = j
    · subst hj
      rw [List.getElem?_set_self (by simpa using (List.getElem?_eq_some_iff.1 hk).1), List.getElem?_map, hk]
      rfl
    · rw [List.getElem?_set_ne hj]
  have h2 : (V.map Prod.fst).Pairwise (fun a b => a.data.toList < b.data.toList) := List.pairwise_map.2 h
  rw [← h1] at h2
  have h3 := (List.pairwise_map (f := Prod.fst) (R := fun a b : ByteArray => a.data.toList < b.data.toList) (l := V.set k q)).1 h2
  exact h3

/-- A file's extents are other ones. -/
theorem RelV.upd {V : Vw} {room : Int} {st : St} (h : RelV V room st) {k : Nat} {s : ByteArray} {l : List Ext} (hk : V[k]? = some (s, l)) (l' : List Ext) (hl : l' ≠ []) (fr fu : Int) (hfr : fr = st.free + (l.length : Int) - (l'.length : Int)) (hfr0 : 0 ≤ fr) (h0 : -1 ≤ fu) (h1 : fu ≤ 9223372036854775807) :
    RelV (V.set k (s, l')) room ⟨Go.Proofs.Ytocfbokgbpaneaa.upd st.M s.data.toList l', fr, fu⟩ := by
  have hr := pairwise_set h.rise hk (q := (s, l')) rfl
  have hkl := (List.getElem?_eq_some_iff.1 hk).1
  have hmem : (s, l') ∈ V.set k (s, l') := List.mem_iff_getElem?.2 ⟨k, List.getElem?_set_self hkl⟩
  refine ⟨fun t => ?_, ?_, hfr0, h.room0, h.room1, h0, h1, fun p hp => ?_, fun p hp => ?_, hr⟩
  · by_cases e : t = s
    · subst e
      rw [findV_mem (riseV_nodup hr) hmem]
      exact upd_same _ _ _
    · show Go.Proofs.Ytocfbokgbpaneaa.upd st.M s.data.toList l' t.data.toList = _
      rw [upd_other _ _ _ _ (fun e' => e (ba_ext e')), h.ext t]
      refine findV_congr h.key (riseV_nodup hr) fun m => ⟨fun hm => ?_, fun hm => ?_⟩
      · obtain ⟨j, hj⟩ := List.mem_iff_getElem?.1 hm
        refine List.mem_iff_getElem?.2 ⟨j, ?_⟩
        rw [List.getElem?_set_ne (fun e' => ?_)]
        · exact hj
        · subst e'
          rw [hk] at hj
          cases hj
          exact e rfl
      · rcases mem_setV hm with ⟨j, _, hj⟩ | hx
        · exact List.mem_of_getElem? hj
        · cases hx; exact absurd rfl e
  · have h2 := sumV_set V k _ (s, l') hk
    have h3 := h.free
    simp only at h2
    show fr = room - (sumV (V.set k (s, l')) : Int)
    omega
  · rcases mem_setV hp with ⟨j, _, hj⟩ | rfl
    · exact h.name p (List.mem_of_getElem? hj)
    · exact h.name (s, l) (List.mem_of_getElem? hk)
  · rcases mem_setV hp with ⟨j, _, hj⟩ | rfl
    · exact h.full p (List.mem_of_getElem? hj)
    · exact hl

theorem sumV_app (A B : Vw) : sumV (A ++ B) = sumV A + sumV B := by simp [sumV]

theorem sumV_cons (p : ByteArray × List Ext) (B : Vw) : sumV (p :: B) = p.2.length + sumV B := by simp [sumV]

/-- A file is taken away. -/
theorem RelV.del {V : Vw} {room : Int} {st : St} (h : RelV V room st) {k : Nat} {s : ByteArray} {l : List Ext} (hk : V[k]? = some (s, l)) (fu : Int) (h0 : -1 ≤ fu) (h1 : fu ≤ 9223372036854775807) :
    RelV (V.take k ++ V.drop (k + 1)) room ⟨Go.Proofs.Ytocfbokgbpaneaa.upd st.M s.data.toList [], st.free + (l.length : Int), fu⟩ := by
  have hkl := (List.getElem?_eq_some_iff.1 hk).1
  have hV : V = V.take k ++ (s, l) :: V.drop (k + 1) := by
    have e : V[k] = (s, l) := (List.getElem?_eq_some_iff.1 hk).2
    rw [← e, List.getElem_cons_drop, List.take_append_drop]
  have hsub : List.Sublist (V.take k ++ V.drop (k + 1)) V := by
    conv => rhs; rw [hV]
    exact List.Sublist.append (List.Sublist.refl _) (List.sublist_cons_self _ _)
  have hr := h.rise.sublist hsub
  have hno : ∀ p ∈ V.take k ++ V.drop (k + 1), p.1 ≠ s := by
    intro p hp e
    have hn := h.key
    rw [hV, List.map_append, List.map_cons, List.nodup_append] at hn
    obtain ⟨_, hn2, hn3⟩ := hn
    rw [List.nodup_cons] at hn2
    rcases List.mem_append.1 hp with hp | hp
    · exact hn3 p.1 (List.mem_map.2 ⟨p, hp, rfl⟩) s (by simp) e
    · exact hn2.1 (List.mem_map.2 ⟨p, hp, e⟩)
  have hs2 : sumV V = sumV (V.take k ++ V.drop (k + 1)) + l.length := by
    conv => lhs; rw [hV]
    rw [sumV_app, sumV_cons, sumV_app]
    simp only
    omega
  refine ⟨fun t => ?_, ?_, ?_, h.room0, h.room1, h0, h1, fun p hp => h.name p (hsub.subset hp), fun p hp => h.full p (hsub.subset hp), hr⟩
  · by_cases e : t = s
    · subst e
      rw [findV_none hno]
      exact upd_same _ _ _
    · show Go.Proofs.Ytocfbokgbpaneaa.upd st.M s.data.toList [] t.data.toList = _
      rw [upd_other _ _ _ _ (fun e' => e (ba_ext e')), h.ext t]
      refine findV_congr h.key (riseV_nodup hr) fun m => ⟨fun hm => ?_, fun hm => hsub.subset hm⟩
      rw [hV] at hm
      rcases List.mem_append.1 hm with hm | hm
      · exact List.mem_append_left _ hm
      · rcases List.mem_cons.1 hm with hm | hm
        · cases hm; exact absurd rfl e
        · exact List.mem_append_right _ hm
  · have := h.free
    show st.free + (l.length : Int) = room - (sumV (V.take k ++ V.drop (k + 1)) : Int)
    omega
  · have := h.free0
    show 0 ≤ st.free + (l.length : Int)
    omega

/-- A new file. -/
theorem RelV.ins {V : Vw} {room : Int} {st : St} (h : RelV V room st) {k : Nat} {s : ByteArray} (x : Ext) (hs : nameB s.data.toList = true) (hnew : ∀ p ∈ V, p.1 ≠ s) (hk : k ≤ V.length) (hlo : ∀ j p, j < k → V[j]? = some p → p.1.data.toList < s.data.toList) (hhi : ∀ p, V[k]? = some p → ¬ p.1.data.toList < s.data.toList) (fr fu : Int) (hfr : fr = st.free - 1) (hfr0 : 0 ≤ fr) (h0 : -1 ≤ fu) (h1 : fu ≤ 9223372036854775807) :
    RelV (V.take k ++ (s, [x]) :: V.drop k) room ⟨Go.Proofs.Ytocfbokgbpaneaa.upd st.M s.data.toList [x], fr, fu⟩ := by
  have hV : V.take k ++ V.drop k = V := List.take_append_drop k V
  have hlo2 : ∀ p ∈ V.take k, ltB p (s, [x]) := by
    intro p hp
    obtain ⟨j, hj⟩ := List.mem_iff_getElem?.1 hp
    have hjk : j < k := by have := (List.getElem?_eq_some_iff.1 hj).1; rw [List.length_take] at this; omega
    rw [List.getElem?_take, if_pos hjk] at hj
    exact hlo j p hjk hj
  have hhi2 : ∀ p ∈ V.drop k, ltB (s, [x]) p := by
    intro p hp
    obtain ⟨j, hj⟩ := List.mem_iff_getElem?.1 hp
    rw [List.getElem?_drop] at hj
    obtain ⟨q, hq⟩ : ∃ q, V[k]? = some q := ⟨_, List.getElem?_eq_getElem (by have := (List.getElem?_eq_some_iff.1 hj).1; omega)⟩
    have h2 : s.data.toList < q.1.data.toList := by
      have h3 := hhi q hq
      have h4 : q.1 ≠ s := hnew q (List.mem_of_getElem? hq)
      rcases List.le_total s.data.toList q.1.data.toList with h5 | h5
      · rcases Decidable.em (s.data.toList < q.1.data.toList) with h6 | h6
        · exact h6
        · exact absurd (ba_ext (List.le_antisymm (List.not_lt.1 h6) h5)) h4
      · exact absurd (ba_ext (List.le_antisymm h5 (List.not_lt.1 h3))) h4
    by_cases e : j = 0
    · subst e
      rw [Nat.add_zero, hq] at hj
      cases hj
      exact h2
    · have h3 := List.pairwise_iff_getElem.1 h.rise k (k + j) (List.getElem?_eq_some_iff.1 hq).1 (List.getElem?_eq_some_iff.1 hj).1 (by omega)
      rw [(List.getElem?_eq_some_iff.1 hq).2, (List.getElem?_eq_some_iff.1 hj).2] at h3
      exact List.lt_trans h2 h3
  have hr : (V.take k ++ (s, [x]) :: V.drop k).Pairwise ltB := by
    have h2 := h.rise
    rw [← hV, List.pairwise_append] at h2
    obtain ⟨a1, a2, a3⟩ := h2
    rw [List.pairwise_append]
    refine ⟨a1, List.pairwise_cons.2 ⟨hhi2, a2⟩, fun a ha b hb => ?_⟩
    rcases List.mem_cons.1 hb with rfl | hb
    · exact hlo2 a ha
    · exact a3 a ha b hb
  have hmm : ∀ p, p ∈ V.take k ++ (s, [x]) :: V.drop k ↔ p ∈ V ∨ p = (s, [x]) := by
    intro p
    rw [List.mem_append, List.mem_cons]
    constructor
    · rintro (hp | hp | hp)
      · exact .inl (List.mem_of_mem_take hp)
      · exact .inr hp
      · exact .inl (List.mem_of_mem_drop hp)
    · rintro (hp | hp)
      · rw [← hV, List.mem_append] at hp
        rcases hp with hp | hp
        · exact .inl hp
        · exact .inr (.inr hp)
      · exact .inr (.inl hp)
  refine ⟨fun t => ?_, ?_, hfr0, h.room0, h.room1, h0, h1, fun p hp => ?_, fun p hp => ?_, hr⟩
  · by_cases e : t = s
    · subst e
      rw [findV_mem (riseV_nodup hr) ((hmm (t, [x])).2 (.inr rfl))]
      exact upd_same _ _ _
    · show Go.Proofs.Ytocfbokgbpaneaa.upd st.M s.data.toList [x] t.data.toList = _
      rw [upd_other _ _ _ _ (fun e' => e (ba_ext e')), h.ext t]
      refine findV_congr h.key (riseV_nodup hr) fun m => ⟨fun hm => (hmm _).2 (.inl hm), fun hm => ?_⟩
      rcases (hmm _).1 hm with hm | hm
      · exact hm
      · cases hm; exact absurd rfl e
  · have h2 := h.free
    have h3 : sumV V = sumV (V.take k) + sumV (V.drop k) := by rw [← sumV_app, hV]
    show fr = room - (sumV (V.take k ++ (s, [x]) :: V.drop k) : Int)
    rw [sumV_app, sumV_cons]
    simp only [List.length_singleton]
    omega
  · rcases (hmm _).1 hp with hp | rfl
    · exact h.name p hp
    · exact hs
  · rcases (hmm _).1 hp with hp | rfl
    · exact h.full p hp
    · simp

/-- Each file's extents are other ones, as many. -/
theorem RelV.all {V : Vw} {room : Int} {st : St} (h : RelV V room st) (g : List UInt8 → List Ext → List Ext) (hg : ∀ s l, (g s l).length = l.length) (fu : Int) (h0 : -1 ≤ fu) (h1 : fu ≤ 9223372036854775807) :
    RelV (V.map fun p => (p.1, g p.1.data.toList p.2)) room ⟨fun s => g s (st.M s), st.free, fu⟩ := by
  have hk : ((V.map fun p => (p.1, g p.1.data.toList p.2)).map Prod.fst) = V.map Prod.fst := by rw [List.map_map]; rfl
  have hr : (V.map fun p => (p.1, g p.1.data.toList p.2)).Pairwise ltB := List.pairwise_map.2 h.rise
  have hg0 : ∀ s, g s [] = [] := fun s => List.length_eq_zero_iff.1 (hg s [])
  refine ⟨fun t => ?_, ?_, h.free0, h.room0, h.room1, h0, h1, fun p hp => ?_, fun p hp => ?_, hr⟩
  · show g t.data.toList (st.M t.data.toList) = _
    rw [h.ext t]
    by_cases he : findV V t = []
    · rw [he, hg0]
      by_cases hx : ∃ p ∈ V, p.1 = t
      · obtain ⟨p, hp, rfl⟩ := hx
        have := findV_mem h.key (s := p.1) (l := p.2) hp
        rw [he] at this
        exact absurd this.symm (h.full p hp)
      · rw [findV_none]
        intro q hq e
        obtain ⟨p, hp, rfl⟩ := List.mem_map.1 hq
        exact hx ⟨p, hp, e⟩
    · have := findV_ne he
      rw [findV_mem (riseV_nodup hr) (List.mem_map.2 ⟨_, this, rfl⟩)]
  · have := h.free
    show st.free = room - (sumV (V.map fun p => (p.1, g p.1.data.toList p.2)) : Int)
    have e : sumV (V.map fun p => (p.1, g p.1.data.toList p.2)) = sumV V := by
      unfold sumV
      rw [List.map_map]
      congr 1
      refine List.map_congr_left fun p _ => ?_
      exact hg _ _
    rw [e]
    exact this
  · obtain ⟨q, hq, rfl⟩ := List.mem_map.1 hp
    exact h.name q hq
  · obtain ⟨q, hq, rfl⟩ := List.mem_map.1 hp
    intro e
    have h2 := congrArg List.length e
    rw [show (q.1, g q.1.data.toList q.2).2 = g q.1.data.toList q.2 from rfl, hg] at h2
    exact h.full q hq (List.length_eq_zero_iff.1 h2)
end Go.Proofs.Ytocfbokgbpaneaa
