/- Files as a plain list of names and extents, held against the plain state. -/
import Derived.Test.YtdppolelakbbiaaGreatDoorMo
import Derived.Sort.Walk0
import Derived.Test.YtdppolelakbbiaaGreatDoorMb
import Derived.Test.YtdppolelakbbiaaGreatDoorStrClone
import Derived.Test.YtdppolelakbbiaaGreatDoorDrawn
namespace Go.Proofs.YtdppolelakbbiaaGreatDoor
open Go.RowKit Go.Maps
set_option linter.unusedVariables false
abbrev Vw := List (ByteArray × List Ext)
def findV (V : Vw) (s : ByteArray) : List Ext := ((V.find? fun p => decide (p.1 = s)).map Prod.snd).getD []
theorem ba_ext {a b : ByteArray} (h : a.data.toList = b.data.toList) : a = b := by
 cases a; cases b
 simp at h
 rw [h]
theorem ba_of (l : List UInt8) : (ByteArray.mk l.toArray).data.toList = l := by simp
theorem keyV_inj : ∀ {V : Vw}, (V.map Prod.fst).Nodup → ∀ {p q}, p ∈ V → q ∈ V → p.1 = q.1 → p = q
 | [], _, p, q, hp, _, _ => by cases hp
 | a :: V, hn, p, q, hp, hq, e => by
  rw [List.map_cons, List.nodup_cons] at hn
  rcases List.mem_cons.1 hp with h1 | h1
  ·
   rcases List.mem_cons.1 hq with h2 | h2
   ·
    rw [h1, h2]
   ·
    exact absurd (List.mem_map.2 ⟨q, h2, by rw [← e, h1]⟩) hn.1
  ·
   rcases List.mem_cons.1 hq with h2 | h2
   ·
    exact absurd (List.mem_map.2 ⟨p, h1, by rw [e, h2]⟩) hn.1
   ·
    exact keyV_inj hn.2 h1 h2 e
theorem findV_mem {V : Vw} (hn : (V.map Prod.fst).Nodup) {s : ByteArray} {l : List Ext} (h : (s, l) ∈ V) : findV V s = l := by
 unfold findV
 cases hf : V.find? fun p => decide (p.1 = s) with
 | none => have := List.find?_eq_none.1 hf _ h; simp at this
 | some p =>
  have h1 := List.find?_some hf
  have h2 := List.mem_of_find?_eq_some hf
  have h3 : p.1 = s := by simpa using h1
  have h4 := keyV_inj hn h2 h h3
  rw [h4]
  rfl
theorem findV_none {V : Vw} {s : ByteArray} (h : ∀ p ∈ V, p.1 ≠ s) : findV V s = [] := by
 unfold findV
 rw [List.find?_eq_none.2 (fun p hp => by simpa using h p hp)]
 rfl
theorem findV_ne {V : Vw} {s : ByteArray} (h : findV V s ≠ []) : (s, findV V s) ∈ V := by
 unfold findV at h ⊢
 cases hf : V.find? fun p => decide (p.1 = s) with
 | none => rw [hf] at h; exact absurd rfl h
 | some p =>
  have h1 : p.1 = s := by simpa using List.find?_some hf
  have h2 := List.mem_of_find?_eq_some hf
  rw [← h1]
  exact h2
theorem findV_congr {V V' : Vw} (hn : (V.map Prod.fst).Nodup) (hn' : (V'.map Prod.fst).Nodup) {s : ByteArray} (h : ∀ l, (s, l) ∈ V ↔ (s, l) ∈ V') : findV V s = findV V' s := by
 by_cases hx : ∃ l, (s, l) ∈ V
 ·
  obtain ⟨l, hl⟩ := hx
  rw [findV_mem hn hl, findV_mem hn' ((h l).1 hl)]
 ·
  rw [findV_none (fun p hp e => hx ⟨p.2, by rw [← e]; exact hp⟩), findV_none (fun p hp e => hx ⟨p.2, (h _).2 (by rw [← e]; exact hp)⟩)]
def sumV (V : Vw) : Nat := (V.map fun p => p.2.length).sum
def ltB (a b : ByteArray × List Ext) : Prop := a.1.data.toList < b.1.data.toList
structure RelV (V : Vw) (room : Int) (st : St) : Prop where
 ext : ∀ s : ByteArray, st.M s.data.toList = findV V s
 free : st.free = room - (sumV V : Int)
 free0 : 0 ≤ st.free
 room0 : 0 ≤ room
 room1 : room ≤ 100000
 fuse0 : -1 ≤ st.fuse
 fuse1 : st.fuse ≤ 9223372036854775807
 name : ∀ p ∈ V, nameB p.1.data.toList = true
 full : ∀ p ∈ V, p.2 ≠ []
 rise : V.Pairwise ltB
theorem riseV_nodup {V : Vw} (h : V.Pairwise ltB) : (V.map Prod.fst).Nodup :=
 List.pairwise_map.2 (h.imp fun {a b} hab e => by
  unfold ltB at hab
  rw [e] at hab
  exact List.lt_irrefl _ hab)
theorem RelV.key {V : Vw} {room : Int} {st : St} (h : RelV V room st) : (V.map Prod.fst).Nodup := riseV_nodup h.rise
theorem RelV.sum {V : Vw} {room : Int} {st : St} (h : RelV V room st) : sumV V ≤ 100000 := by
 have := h.free; have := h.free0; have := h.room1; omega
theorem sumV_mem : ∀ {V : Vw} {p}, p ∈ V → p.2.length ≤ sumV V
 | a :: V, p, hp => by
  unfold sumV
  rw [List.map_cons, List.sum_cons]
  rcases List.mem_cons.1 hp with rfl | hp
  ·
   omega
  ·
   have := sumV_mem hp; unfold sumV at this; omega
theorem sumV_len : ∀ {V : Vw}, (∀ p ∈ V, p.2 ≠ []) → V.length ≤ sumV V
 | [], _ => Nat.zero_le _
 | a :: V, h => by
  have h1 := sumV_len (V := V) (fun p hp => h p (List.mem_cons_of_mem _ hp))
  have h2 : 0 < a.2.length := List.length_pos_iff.2 (h a (by simp))
  unfold sumV at h1 ⊢
  rw [List.map_cons, List.sum_cons, List.length_cons]
  omega
theorem RelV.len {V : Vw} {room : Int} {st : St} (h : RelV V room st) (nm : List UInt8) : (st.M nm).length ≤ 100000 := by
 have h1 := h.ext ⟨nm.toArray⟩
 rw [ba_of] at h1
 rw [h1]
 by_cases he : findV V ⟨nm.toArray⟩ = []
 ·
  rw [he]; exact Nat.zero_le _
 ·
  have := sumV_mem (findV_ne he); have := h.sum
  show (findV V ⟨nm.toArray⟩).length ≤ _
  simp only at *
  omega
theorem RelV.free1 {V : Vw} {room : Int} {st : St} (h : RelV V room st) : st.free ≤ 100000 := by
 have := h.free; have := h.room1; omega
theorem RelV.turn {V : Vw} {room : Int} {st : St} (h : RelV V room st) (fu : Int) (h0 : -1 ≤ fu) (h1 : fu ≤ 9223372036854775807) : RelV V room ⟨st.M, st.free, fu⟩ :=
 ⟨h.ext, h.free, h.free0, h.room0, h.room1, h0, h1, h.name, h.full, h.rise⟩
theorem mem_setV {V : Vw} {k : Nat} {p x : ByteArray × List Ext} (h : x ∈ V.set k p) : (∃ j, j ≠ k ∧ V[j]? = some x) ∨ x = p := by
 obtain ⟨j, hj⟩ := List.mem_iff_getElem?.1 h
 by_cases e : k = j
 ·
  subst e
  rw [List.getElem?_set_self (by have := (lQ4.1 hj).1; simpa using this)] at hj
  exact .inr (lQ5 hj).symm
 ·
  rw [List.getElem?_set_ne e] at hj
  exact .inl ⟨j, fun e' => e e'.symm, hj⟩
theorem sumV_set : ∀ (V : Vw) (k : Nat) (p q : ByteArray × List Ext), V[k]? = some p → sumV (V.set k q) + p.2.length = sumV V + q.2.length
 | a :: V, 0, p, q, h => by
  obtain rfl : a = p := by simpa using h
  simp [sumV]; omega
 | a :: V, k + 1, p, q, h => by
  have := sumV_set V k p q (by simpa using h)
  unfold sumV at this ⊢
  rw [List.set_cons_succ, List.map_cons, List.sum_cons, List.map_cons, List.sum_cons]
  omega
theorem pairwise_set {V : Vw} (h : V.Pairwise ltB) {k : Nat} {p q : ByteArray × List Ext} (hk : V[k]? = some p) (e : q.1 = p.1) : (V.set k q).Pairwise ltB := by
 have h1 : (V.set k q).map Prod.fst = V.map Prod.fst := by
  rw [List.map_set, e]
  refine List.ext_getElem? fun j => ?_
  by_cases hj : k = j
  ·
   subst hj
   rw [List.getElem?_set_self (by simpa using (lQ4.1 hk).1), List.getElem?_map, hk]
   rfl
  ·
   rw [List.getElem?_set_ne hj]
 have h2 : (V.map Prod.fst).Pairwise (fun a b => a.data.toList < b.data.toList) := List.pairwise_map.2 h
 rw [← h1] at h2
 have h3 := (List.pairwise_map (f := Prod.fst) (R := fun a b : ByteArray => a.data.toList < b.data.toList) (l := V.set k q)).1 h2
 exact h3
theorem RelV.upd {V : Vw} {room : Int} {st : St} (h : RelV V room st) {k : Nat} {s : ByteArray} {l : List Ext} (hk : V[k]? = some (s, l)) (l' : List Ext) (hl : l' ≠ []) (fr fu : Int) (hfr : fr = st.free + (l.length : Int) - (l'.length : Int)) (hfr0 : 0 ≤ fr) (h0 : -1 ≤ fu) (h1 : fu ≤ 9223372036854775807) :
  RelV (V.set k (s, l')) room ⟨Go.Proofs.YtdppolelakbbiaaGreatDoor.upd st.M s.data.toList l', fr, fu⟩ := by
 have hr := pairwise_set h.rise hk (q := (s, l')) rfl
 have hkl := (lQ4.1 hk).1
 have hmem : (s, l') ∈ V.set k (s, l') := List.mem_iff_getElem?.2 ⟨k, List.getElem?_set_self hkl⟩
 refine ⟨fun t => ?_, ?_, hfr0, h.room0, h.room1, h0, h1, fun p hp => ?_, fun p hp => ?_, hr⟩
 ·
  by_cases e : t = s
  ·
   subst e
   rw [findV_mem (riseV_nodup hr) hmem]
   exact upd_same _ _ _
  ·
   show Go.Proofs.YtdppolelakbbiaaGreatDoor.upd st.M s.data.toList l' t.data.toList = _
   rw [upd_other _ _ _ _ (fun e' => e (ba_ext e')), h.ext t]
   refine findV_congr h.key (riseV_nodup hr) fun m => ⟨fun hm => ?_, fun hm => ?_⟩
   ·
    obtain ⟨j, hj⟩ := List.mem_iff_getElem?.1 hm
    refine List.mem_iff_getElem?.2 ⟨j, ?_⟩
    rw [List.getElem?_set_ne (fun e' => ?_)]
    ·
     exact hj
    ·
     subst e'
     rw [hk] at hj
     cases hj
     exact e rfl
   ·
    rcases mem_setV hm with ⟨j, _, hj⟩ | hx
    ·
     exact lQ7 hj
    ·
     cases hx; exact absurd rfl e
 ·
  have h2 := sumV_set V k _ (s, l') hk
  have h3 := h.free
  simp only at h2
  show fr = room - (sumV (V.set k (s, l')) : Int)
  omega
 ·
  rcases mem_setV hp with ⟨j, _, hj⟩ | rfl
  ·
   exact h.name p (lQ7 hj)
  ·
   exact h.name (s, l) (lQ7 hk)
 ·
  rcases mem_setV hp with ⟨j, _, hj⟩ | rfl
  ·
   exact h.full p (lQ7 hj)
  ·
   exact hl
theorem sumV_app (A B : Vw) : sumV (A ++ B) = sumV A + sumV B := by simp [sumV]
theorem sumV_cons (p : ByteArray × List Ext) (B : Vw) : sumV (p :: B) = p.2.length + sumV B := by simp [sumV]
theorem RelV.del {V : Vw} {room : Int} {st : St} (h : RelV V room st) {k : Nat} {s : ByteArray} {l : List Ext} (hk : V[k]? = some (s, l)) (fu : Int) (h0 : -1 ≤ fu) (h1 : fu ≤ 9223372036854775807) :
  RelV (V.take k ++ V.drop (k + 1)) room ⟨Go.Proofs.YtdppolelakbbiaaGreatDoor.upd st.M s.data.toList [], st.free + (l.length : Int), fu⟩ := by
 have hkl := (lQ4.1 hk).1
 have hV : V = V.take k ++ (s, l) :: V.drop (k + 1) := by
  have e : V[k] = (s, l) := (lQ4.1 hk).2
  rw [← e, List.getElem_cons_drop, List.take_append_drop]
 have hsub : List.Sublist (V.take k ++ V.drop (k + 1)) V := by
  conv => rhs; rw [hV]
  exact List.Sublist.append (List.Sublist.refl _) (List.sublist_cons_self _ _)
 have hr := h.rise.sublist hsub
 have hno : ∀ p ∈ V.take k ++ V.drop (k + 1), p.1 ≠ s := by
  intro p hp e
  have hn := h.key
  rw [hV, List.map_append, List.map_cons, List.nodup_append] at hn
  obtain ⟨_, hn2, hn3⟩ := hn
  rw [List.nodup_cons] at hn2
  rcases List.mem_append.1 hp with hp | hp
  ·
   exact hn3 p.1 (List.mem_map.2 ⟨p, hp, rfl⟩) s (by simp) e
  ·
   exact hn2.1 (List.mem_map.2 ⟨p, hp, e⟩)
 have hs2 : sumV V = sumV (V.take k ++ V.drop (k + 1)) + l.length := by
  conv => lhs; rw [hV]
  rw [sumV_app, sumV_cons, sumV_app]
  simp only
  omega
 refine ⟨fun t => ?_, ?_, ?_, h.room0, h.room1, h0, h1, fun p hp => h.name p (hsub.subset hp), fun p hp => h.full p (hsub.subset hp), hr⟩
 ·
  by_cases e : t = s
  ·
   subst e
   rw [findV_none hno]
   exact upd_same _ _ _
  ·
   show Go.Proofs.YtdppolelakbbiaaGreatDoor.upd st.M s.data.toList [] t.data.toList = _
   rw [upd_other _ _ _ _ (fun e' => e (ba_ext e')), h.ext t]
   refine findV_congr h.key (riseV_nodup hr) fun m => ⟨fun hm => ?_, fun hm => hsub.subset hm⟩
   rw [hV] at hm
   rcases List.mem_append.1 hm with hm | hm
   ·
    exact List.mem_append_left _ hm
   ·
    rcases List.mem_cons.1 hm with hm | hm
    ·
     cases hm; exact absurd rfl e
    ·
     exact List.mem_append_right _ hm
 ·
  have := h.free
  show st.free + (l.length : Int) = room - (sumV (V.take k ++ V.drop (k + 1)) : Int)
  omega
 ·
  have := h.free0
  show 0 ≤ st.free + (l.length : Int)
  omega
theorem RelV.ins {V : Vw} {room : Int} {st : St} (h : RelV V room st) {k : Nat} {s : ByteArray} (x : Ext) (hs : nameB s.data.toList = true) (hnew : ∀ p ∈ V, p.1 ≠ s) (hk : k ≤ V.length) (hlo : ∀ j p, j < k → V[j]? = some p → p.1.data.toList < s.data.toList) (hhi : ∀ p, V[k]? = some p → ¬ p.1.data.toList < s.data.toList) (fr fu : Int) (hfr : fr = st.free - 1) (hfr0 : 0 ≤ fr) (h0 : -1 ≤ fu) (h1 : fu ≤ 9223372036854775807) :
  RelV (V.take k ++ (s, [x]) :: V.drop k) room ⟨Go.Proofs.YtdppolelakbbiaaGreatDoor.upd st.M s.data.toList [x], fr, fu⟩ := by
 have hV : V.take k ++ V.drop k = V := List.take_append_drop k V
 have hlo2 : ∀ p ∈ V.take k, ltB p (s, [x]) := by
  intro p hp
  obtain ⟨j, hj⟩ := List.mem_iff_getElem?.1 hp
  have hjk : j < k := by have := (lQ4.1 hj).1; rw [List.length_take] at this; omega
  rw [List.getElem?_take, if_pos hjk] at hj
  exact hlo j p hjk hj
 have hhi2 : ∀ p ∈ V.drop k, ltB (s, [x]) p := by
  intro p hp
  obtain ⟨j, hj⟩ := List.mem_iff_getElem?.1 hp
  rw [List.getElem?_drop] at hj
  obtain ⟨q, hq⟩ : ∃ q, V[k]? = some q := ⟨_, lQ6 (by have := (lQ4.1 hj).1; omega)⟩
  have h2 : s.data.toList < q.1.data.toList := by
   have h3 := hhi q hq
   have h4 : q.1 ≠ s := hnew q (lQ7 hq)
   rcases List.le_total s.data.toList q.1.data.toList with h5 | h5
   ·
    rcases Decidable.em (s.data.toList < q.1.data.toList) with h6 | h6
    ·
     exact h6
    ·
     exact absurd (ba_ext (List.le_antisymm (List.not_lt.1 h6) h5)) h4
   ·
    exact absurd (ba_ext (List.le_antisymm h5 (List.not_lt.1 h3))) h4
  by_cases e : j = 0
  ·
   subst e
   rw [Nat.add_zero, hq] at hj
   cases hj
   exact h2
  ·
   have h3 := List.pairwise_iff_getElem.1 h.rise k (k + j) (lQ4.1 hq).1 (lQ4.1 hj).1 (by omega)
   rw [(lQ4.1 hq).2, (lQ4.1 hj).2] at h3
   exact List.lt_trans h2 h3
 have hr : (V.take k ++ (s, [x]) :: V.drop k).Pairwise ltB := by
  have h2 := h.rise
  rw [← hV, List.pairwise_append] at h2
  obtain ⟨a1, a2, a3⟩ := h2
  rw [List.pairwise_append]
  refine ⟨a1, List.pairwise_cons.2 ⟨hhi2, a2⟩, fun a ha b hb => ?_⟩
  rcases List.mem_cons.1 hb with rfl | hb
  ·
   exact hlo2 a ha
  ·
   exact a3 a ha b hb
 have hmm : ∀ p, p ∈ V.take k ++ (s, [x]) :: V.drop k ↔ p ∈ V ∨ p = (s, [x]) := by
  intro p
  rw [List.mem_append, List.mem_cons]
  constructor
  ·
   rintro (hp | hp | hp)
   ·
    exact .inl (List.mem_of_mem_take hp)
   ·
    exact .inr hp
   ·
    exact .inl (List.mem_of_mem_drop hp)
  ·
   rintro (hp | hp)
   ·
    rw [← hV, List.mem_append] at hp
    rcases hp with hp | hp
    ·
     exact .inl hp
    ·
     exact .inr (.inr hp)
   ·
    exact .inr (.inl hp)
 refine ⟨fun t => ?_, ?_, hfr0, h.room0, h.room1, h0, h1, fun p hp => ?_, fun p hp => ?_, hr⟩
 ·
  by_cases e : t = s
  ·
   subst e
   rw [findV_mem (riseV_nodup hr) ((hmm (t, [x])).2 (.inr rfl))]
   exact upd_same _ _ _
  ·
   show Go.Proofs.YtdppolelakbbiaaGreatDoor.upd st.M s.data.toList [x] t.data.toList = _
   rw [upd_other _ _ _ _ (fun e' => e (ba_ext e')), h.ext t]
   refine findV_congr h.key (riseV_nodup hr) fun m => ⟨fun hm => (hmm _).2 (.inl hm), fun hm => ?_⟩
   rcases (hmm _).1 hm with hm | hm
   ·
    exact hm
   ·
    cases hm; exact absurd rfl e
 ·
  have h2 := h.free
  have h3 : sumV V = sumV (V.take k) + sumV (V.drop k) := by rw [← sumV_app, hV]
  show fr = room - (sumV (V.take k ++ (s, [x]) :: V.drop k) : Int)
  rw [sumV_app, sumV_cons]
  simp only [List.length_singleton]
  omega
 ·
  rcases (hmm _).1 hp with hp | rfl
  ·
   exact h.name p hp
  ·
   exact hs
 ·
  rcases (hmm _).1 hp with hp | rfl
  ·
   exact h.full p hp
  ·
   simp
theorem RelV.all {V : Vw} {room : Int} {st : St} (h : RelV V room st) (g : List UInt8 → List Ext → List Ext) (hg : ∀ s l, (g s l).length = l.length) (fu : Int) (h0 : -1 ≤ fu) (h1 : fu ≤ 9223372036854775807) :
  RelV (V.map fun p => (p.1, g p.1.data.toList p.2)) room ⟨fun s => g s (st.M s), st.free, fu⟩ := by
 have hk : ((V.map fun p => (p.1, g p.1.data.toList p.2)).map Prod.fst) = V.map Prod.fst := by rw [List.map_map]; rfl
 have hr : (V.map fun p => (p.1, g p.1.data.toList p.2)).Pairwise ltB := List.pairwise_map.2 h.rise
 have hg0 : ∀ s, g s [] = [] := fun s => List.length_eq_zero_iff.1 (hg s [])
 refine ⟨fun t => ?_, ?_, h.free0, h.room0, h.room1, h0, h1, fun p hp => ?_, fun p hp => ?_, hr⟩
 ·
  show g t.data.toList (st.M t.data.toList) = _
  rw [h.ext t]
  by_cases he : findV V t = []
  ·
   rw [he, hg0]
   by_cases hx : ∃ p ∈ V, p.1 = t
   ·
    obtain ⟨p, hp, rfl⟩ := hx
    have := findV_mem h.key (s := p.1) (l := p.2) hp
    rw [he] at this
    exact absurd this.symm (h.full p hp)
   ·
    rw [findV_none]
    intro q hq e
    obtain ⟨p, hp, rfl⟩ := List.mem_map.1 hq
    exact hx ⟨p, hp, e⟩
  ·
   have := findV_ne he
   rw [findV_mem (riseV_nodup hr) (List.mem_map.2 ⟨_, this, rfl⟩)]
 ·
  have := h.free
  show st.free = room - (sumV (V.map fun p => (p.1, g p.1.data.toList p.2)) : Int)
  have e : sumV (V.map fun p => (p.1, g p.1.data.toList p.2)) = sumV V := by
   unfold sumV
   rw [List.map_map]
   congr 1
   refine List.map_congr_left fun p _ => ?_
   exact hg _ _
  rw [e]
  exact this
 ·
  obtain ⟨q, hq, rfl⟩ := List.mem_map.1 hp
  exact h.name q hq
 ·
  obtain ⟨q, hq, rfl⟩ := List.mem_map.1 hp
  intro e
  have h2 := congrArg List.length e
  rw [show (q.1, g q.1.data.toList q.2).2 = g q.1.data.toList q.2 from rfl, hg] at h2
  exact h.full q hq (List.length_eq_zero_iff.1 h2)
end Go.Proofs.YtdppolelakbbiaaGreatDoor

namespace Go.Proofs.YtdppolelakbbiaaGreatDoor
open Go.RowKit Go.Maps
set_option linter.unusedVariables false
structure Yc where
 x : Ext
 q0 : Nat × Nat
 q1 : Nat × Nat
 q2 : Nat × Nat
 q3 : Nat × Nat
abbrev im (q : Nat × Nat) : Value := .slice (some ⟨q.1, 0, none⟩) 128 q.2
def Yc.cells (c : Yc) : List Value := [im c.q0, im c.q1, im c.q2, im c.q3, .bool c.x.waits]
structure Yf where
 name : ByteArray
 g : Nat
 c : Nat
 l : List Yc
def Yf.row (f : Yf) : Value := .slice (some ⟨f.g, 0, none⟩) f.l.length f.c
def Yf.cells (f : Yf) : List Value := [.string f.name, f.row]
def cellsR (R : List Yf) : List Value := R.flatMap Yf.cells
def cellsC (l : List Yc) : List Value := l.flatMap Yc.cells
def Im (w : World) (q : Nat × Nat) (zs : List Nat) : Prop := w.ownsRow 0 5 1 (im q) 128 (vb zs)
structure RyOf (w : World) (y : Nat) (F : Nat → Prop) (fa : Option Addr) (fc : Nat) (R : List Yf) (room fuse : Int) : Prop where
 disk : w.heap[y]? = some (.cells #[.int .i64 room, .slice fa R.length fc, .int .i64 fuse] 127 (0, 0))
 files : w.ownsRow 0 143 2 (.slice fa R.length fc) R.length (cellsR R)
 rows : ∀ f ∈ R, w.ownsRow 0 140 5 f.row f.l.length (cellsC f.l)
 ims : ∀ f ∈ R, ∀ c ∈ f.l, Im w c.q0 c.x.rd ∧ Im w c.q1 c.x.dur ∧ Im w c.q2 c.x.syn ∧ Im w c.q3 c.x.wri
 ok : ∀ f ∈ R, f.name.size ≤ 24 ∧ f.l ≠ [] ∧ ∀ c ∈ f.l, c.x.ok
 apart : (R.map Yf.g).Nodup
 fy : F y
 ff : ∀ x, fa = some x → F x.block
 fr : ∀ f ∈ R, F f.g
 fi : ∀ f ∈ R, ∀ c ∈ f.l, F c.q0.1 ∧ F c.q1.1 ∧ F c.q2.1 ∧ F c.q3.1
theorem cellsR_length (R : List Yf) : (cellsR R).length = R.length * 2 := by
 unfold cellsR
 induction R with
 | nil => rfl
 | cons f r ih => rw [List.flatMap_cons, List.length_append, ih, List.length_cons]; simp [Yf.cells]; omega
theorem cellsC_length (l : List Yc) : (cellsC l).length = l.length * 5 := by
 unfold cellsC
 induction l with
 | nil => rfl
 | cons f r ih => rw [List.flatMap_cons, List.length_append, ih, List.length_cons]; simp [Yc.cells]; omega
theorem cellsR_at : ∀ (R : List Yf) (k : Nat) (f : Yf), R[k]? = some f → ∀ j < 2, (cellsR R)[k * 2 + j]? = f.cells[j]?
 | a :: r, 0, f, h, j, hj => by
  obtain rfl : a = f := by simpa using h
  show (a.cells ++ cellsR r)[0 * 2 + j]? = _
  rw [List.getElem?_append_left (by show 0 * 2 + j < 2; omega), Nat.zero_mul, Nat.zero_add]
 | a :: r, k + 1, f, h, j, hj => by
  show (a.cells ++ cellsR r)[(k + 1) * 2 + j]? = _
  rw [List.getElem?_append_right (by show 2 ≤ _; omega), show (k + 1) * 2 + j - a.cells.length = k * 2 + j from by show (k + 1) * 2 + j - 2 = _; omega]
  exact cellsR_at r k f (by simpa using h) j hj
theorem cellsC_at : ∀ (R : List Yc) (k : Nat) (f : Yc), R[k]? = some f → ∀ j < 5, (cellsC R)[k * 5 + j]? = f.cells[j]?
 | a :: r, 0, f, h, j, hj => by
  obtain rfl : a = f := by simpa using h
  show (a.cells ++ cellsC r)[0 * 5 + j]? = _
  rw [List.getElem?_append_left (by show 0 * 5 + j < 5; omega), Nat.zero_mul, Nat.zero_add]
 | a :: r, k + 1, f, h, j, hj => by
  show (a.cells ++ cellsC r)[(k + 1) * 5 + j]? = _
  rw [List.getElem?_append_right (by show 5 ≤ _; omega), show (k + 1) * 5 + j - a.cells.length = k * 5 + j from by show (k + 1) * 5 + j - 5 = _; omega]
  exact cellsC_at r k f (by simpa using h) j hj
theorem own_other {w w' : World} {base e size n : Nat} {v : Value} {xs : List Value} (h : w.ownsRow base e size v n xs) (hb : ∀ g, v.ownBlock = some g → w'.heap[g]? = w.heap[g]?) : w'.ownsRow base e size v n xs := by
 obtain ⟨hl, h1⟩ := h
 refine ⟨hl, ?_⟩
 rcases h1 with h1 | ⟨g, cap, cur, hv, hg, hh, r⟩
 ·
  exact .inl h1
 ·
  exact .inr ⟨g, cap, cur, hv, hg, (hb g (by rw [hv]; rfl)).trans hh, r⟩
theorem slice_own {a : Option Addr} {n c g : Nat} (h : (Value.slice a n c).ownBlock = some g) : ∃ x, a = some x ∧ x.block = g := by
 cases a with
 | none => cases h
 | some x =>
  obtain ⟨b, off, sp⟩ := x
  exact ⟨_, rfl, by simpa [Value.ownBlock] using h⟩
theorem RyOf.other {w w' : World} {y : Nat} {F : Nat → Prop} {fa : Option Addr} {fc : Nat} {R : List Yf} {room fuse : Int} (h : RyOf w y F fa fc R room fuse) (hb : ∀ k, F k → w'.heap[k]? = w.heap[k]?) : RyOf w' y F fa fc R room fuse where
 disk := (hb y h.fy).trans h.disk
 files := own_other h.files (fun g hg => by obtain ⟨x, hx, e⟩ := slice_own hg; rw [← e]; exact hb _ (h.ff x hx))
 rows := fun f hf => own_other (h.rows f hf) (fun g hg => by
  obtain rfl : f.g = g := by simpa [Yf.row, Value.ownBlock] using hg
  exact hb _ (h.fr f hf))
 ims := fun f hf c hc => by
  obtain ⟨a0, a1, a2, a3⟩ := h.ims f hf c hc
  obtain ⟨b0, b1, b2, b3⟩ := h.fi f hf c hc
  exact ⟨own_other a0 (fun g hg => by cases hg; exact hb _ b0), own_other a1 (fun g hg => by cases hg; exact hb _ b1), own_other a2 (fun g hg => by cases hg; exact hb _ b2), own_other a3 (fun g hg => by cases hg; exact hb _ b3)⟩
 ok := h.ok
 apart := h.apart
 fy := h.fy
 ff := h.ff
 fr := h.fr
 fi := h.fi
theorem own_lt {w : World} {base e size n : Nat} {v : Value} {xs : List Value} (h : w.ownsRow base e size v n xs) (g : Nat) (hg : v.ownBlock = some g) : g < w.heap.size := (h.lt g hg).2
theorem RyOf.below {w w' : World} {y : Nat} {F : Nat → Prop} {fa : Option Addr} {fc : Nat} {R : List Yf} {room fuse : Int} (h : RyOf w y F fa fc R room fuse) (hF : ∀ k, F k → k < w.heap.size) (hb : Below w.heap.size w w') : RyOf w' y F fa fc R room fuse :=
 h.other (fun k hk => hb.block k (hF k hk))
theorem RyOf.at {w : World} {y : Nat} {F : Nat → Prop} {fa : Option Addr} {fc : Nat} {R : List Yf} {room fuse : Int} (h : RyOf w y F fa fc R room fuse) {k : Nat} {f : Yf} (hk : R[k]? = some f) :
  ∃ g, fa = some ⟨g, 0, none⟩ ∧ F g ∧ w.cell? ⟨g, k * 2, none⟩ = some (.string f.name) ∧ w.cell? ⟨g, k * 2 + 1, none⟩ = some f.row := by
 have hlt := (lQ4.1 hk).1
 rcases h.files.2 with ⟨_, h0⟩ | ⟨g, cap, cur, hv, _, hg, _⟩
 ·
  omega
 ·
  obtain ⟨rfl, _, _⟩ : fa = some ⟨g, 0, none⟩ ∧ R.length = R.length ∧ fc = cap := by simpa using hv
  have hc := h.files.cells (g := g) rfl
  refine ⟨g, rfl, h.ff _ rfl, ?_, ?_⟩
  ·
   have h1 := hc (k * 2 + 0) (.string f.name) (by rw [cellsR_at R k f hk 0 (by omega)]; rfl)
   rw [add_none] at h1
   simpa using h1
  ·
   have h1 := hc (k * 2 + 1) f.row (by rw [cellsR_at R k f hk 1 (by omega)]; rfl)
   rw [add_none] at h1
   simpa using h1
theorem RyOf.ext {w : World} {y : Nat} {F : Nat → Prop} {fa : Option Addr} {fc : Nat} {R : List Yf} {room fuse : Int} (h : RyOf w y F fa fc R room fuse) {f : Yf} (hf : f ∈ R) {i : Nat} {c : Yc} (hi : f.l[i]? = some c) :
  w.cell? ⟨f.g, i * 5, none⟩ = some (im c.q0) ∧ w.cell? ⟨f.g, i * 5 + 1, none⟩ = some (im c.q1) ∧ w.cell? ⟨f.g, i * 5 + 2, none⟩ = some (im c.q2) ∧ w.cell? ⟨f.g, i * 5 + 3, none⟩ = some (im c.q3) ∧ w.cell? ⟨f.g, i * 5 + 4, none⟩ = some (.bool c.x.waits) := by
 have hc := (h.rows f hf).cells (g := f.g) rfl
 have key : ∀ j v, j < 5 → c.cells[j]? = some v → w.cell? ⟨f.g, i * 5 + j, none⟩ = some v := fun j v hj hv => by
  have h1 := hc (i * 5 + j) v (by rw [cellsC_at f.l i c hi j hj]; exact hv)
  rw [add_none] at h1
  simpa using h1
 exact ⟨key 0 _ (by omega) rfl, key 1 _ (by omega) rfl, key 2 _ (by omega) rfl, key 3 _ (by omega) rfl, key 4 _ (by omega) rfl⟩
def placeY (R : List Yf) (s : ByteArray) : Option Nat := R.findIdx? fun f => decide (f.name = s)
def placeI (R : List Yf) (s : ByteArray) : Int := match placeY R s with | some k => (k : Int) | none => -1
theorem place_yes {R : List Yf} {s : ByteArray} {k : Nat} {f : Yf} (hk : R[k]? = some f) (hs : f.name = s) (hno : ∀ j < k, ∀ f', R[j]? = some f' → f'.name ≠ s) : placeY R s = some k := by
 unfold placeY
 rw [List.findIdx?_eq_some_iff_getElem]
 have hlt := (lQ4.1 hk).1
 refine ⟨hlt, ?_, fun j hj => ?_⟩
 ·
  have e : R[k] = f := (lQ4.1 hk).2
  simp [e, hs]
 ·
  have := hno j hj R[j] (lQ6 (by omega))
  simpa using this
theorem place_no {R : List Yf} {s : ByteArray} (hno : ∀ j < R.length, ∀ f', R[j]? = some f' → f'.name ≠ s) : placeY R s = none := by
 unfold placeY
 rw [List.findIdx?_eq_none_iff]
 intro f hf
 obtain ⟨j, hj, e⟩ := List.mem_iff_getElem.1 hf
 have := hno j hj f (by rw [lQ6 hj, e])
 simpa using this
theorem place_at {R : List Yf} {s : ByteArray} {k : Nat} (h : placeY R s = some k) : ∃ f, R[k]? = some f ∧ f.name = s := by
 unfold placeY at h
 obtain ⟨hk, hp, _⟩ := List.findIdx?_eq_some_iff_getElem.1 h
 exact ⟨R[k], lQ6 hk, by simpa using hp⟩
theorem str_eq_dec (a b : ByteArray) : (a.toList == b.toList) = decide (a = b) := by
 rw [ByteArray.toList_eq, ByteArray.toList_eq]
 by_cases h : a = b
 ·
  subst h; simp
 ·
  rw [decide_eq_false h]
  refine beq_eq_false_iff_ne.2 fun e => h ?_
  cases a; cases b
  simp at e
  rw [e]
set_option maxHeartbeats 2000000 in
theorem place_any (w : World) (y : Nat) (F : Nat → Prop) (fa : Option Addr) (fc : Nat) (R : List Yf) (room fuse : Int) (h : RyOf w y F fa fc R room fuse) (hF : ∀ k, F k → k < w.heap.size) (s : ByteArray) (hR : R.length ≤ 1000000) :
  Calls Tryz.prog 104 #[.pointer (some ⟨y, 0, none⟩), .string s] w fun e w' => e = .returned (.int .i64 (placeI R s)) ∧ Below w.heap.size w w' := by
 have H := hidn h
 have HF := hidn hF
 have c1 : w.cell? ⟨y, 1, none⟩ = some (.slice fa R.length fc) := by rw [cell_of_row _ _ _ _ _ _ h.disk]; rfl
 obtain ⟨n, hn⟩ : ∃ n, n = R.length := ⟨_, rfl⟩
 rw [← hn] at c1 hR
 have HN := hidn hn
 clear h hF hn
 go_enter Tryz.func104, Tryz.ntmps104
 go_wp2_with fail
 clear c1
 go_loopw [12] (fun iv wr => ∃ k : Nat, k ≤ n ∧ iv = .int .i64 (k : Int) ∧ Hid (∀ j < k, ∀ f', R[j]? = some f' → f'.name ≠ s) ∧ Hid (Below w.heap.size w wr)) (fun iv _ => n - (intOf iv).toNat)
 case atStart => exact ⟨0, Nat.zero_le _, rfl, hidn (fun j hj => by omega), hidn (Below.refl _ _)⟩
 case round =>
  obtain ⟨k, hk, rfl, HNo, HB⟩ := hrel
  by_cases hlt : k < n
  ·
   have hlt2 : (k : Int) < (n : Int) := by omega
   obtain ⟨f, hf⟩ : ∃ f, R[k]? = some f := ⟨_, lQ6 (by rw [← HN.out]; exact hlt)⟩
   obtain ⟨g, hfa, hFg, hc0, hc1⟩ := (H.out.below HF.out HB.out).at hf
   subst hfa
   obtain ⟨nm, hnm⟩ : ∃ nm, nm = f.name := ⟨_, rfl⟩
   obtain ⟨fv, hfv⟩ : ∃ fv, fv = f.row := ⟨_, rfl⟩
   rw [← hnm] at hc0
   rw [← hfv] at hc1
   have HFK := hidn hf
   have HNM := hidn hnm
   have hse := str_eq_dec nm s
   have hfvs : ∃ fg fl fcc, fv = .slice fg fl fcc := ⟨_, _, _, hfv⟩
   obtain ⟨fg, fl, fcc, rfl⟩ := hfvs
   clear hf hnm hfv hFg
   by_cases hs : nm = s
   ·
    have hse' : (nm.toList == s.toList) = true := by rw [hse]; simpa using hs
    have HE := hidn hs
    clear hse hs
    go_wp2
    go_ret
    have hp : placeI R s = (k : Int) := by
     unfold placeI
     rw [place_yes HFK.out (by rw [← HNM.out]; exact HE.out) HNo.out]
    rw [hp]
    exact ⟨rfl, HB.out.alloc HB.out.size _⟩
   ·
    have hse' : (nm.toList == s.toList) = false := by rw [hse]; simpa using hs
    have HNo2 : Hid (∀ j < k + 1, ∀ f', R[j]? = some f' → f'.name ≠ s) := hidn (fun j hj f' hf' => by
     by_cases e : j = k
     ·
      subst e
      rw [HFK.out] at hf'
      cases hf'
      rw [← HNM.out]
      exact hs
     ·
      exact HNo.out j (by omega) f' hf')
    clear hse hs
    go_wp2
    go_roundw
    case rel => exact ⟨k + 1, hlt, by simp, HNo2, hidn (HB.out.alloc HB.out.size _)⟩
    case measure => simp [intOf]; omega
  ·
   have hlt2 : ¬ (k : Int) < (n : Int) := by omega
   have hkn : k = n := by omega
   have hp : placeI R s = -1 := by
    unfold placeI
    rw [place_no (fun j hj => HNo.out j (by rw [hkn, HN.out]; exact hj))]
   have HP := hidn hp
   clear hp hkn
   go_wp2
   go_ret
   rw [HP.out]
   exact ⟨rfl, HB.out⟩
end Go.Proofs.YtdppolelakbbiaaGreatDoor
