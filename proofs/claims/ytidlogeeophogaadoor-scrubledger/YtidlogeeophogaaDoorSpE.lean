/- Spots sorted: slices.SortFunc by scrub.compareSpots. -/
import Derived.Test.YtidlogeeophogaaDoorSpD
import Derived.Test.YtidlogeeophogaaDoorSpShelf
import Derived.Shelf.SlSortCmp.WholeK
namespace Go.Proofs.YtidlogeeophogaaDoor.Sp
open Go.RowKit Go.Joins Go.Shelf Go.Sort
set_option linter.unusedVariables false
set_option linter.unusedSimpArgs false

instance : Inhabited Spt := ⟨⟨⟨#[]⟩, 0⟩⟩

/-- Nothing but one block has changed. -/
def Kb (r : Nat) (w w' : World) : Prop := w'.os = w.os ∧ w'.tape = w.tape ∧ w'.output = w.output ∧ w.heap.size ≤ w'.heap.size ∧ ∀ k, k < w.heap.size → k ≠ r → w'.heap[k]? = w.heap[k]?

theorem Kb.refl (r : Nat) (w : World) : Kb r w w := ⟨rfl, rfl, rfl, Nat.le_refl _, fun _ _ _ => rfl⟩

theorem Kb.trans {r : Nat} {a b c : World} (h : Kb r a b) (k : Kb r b c) : Kb r a c :=
  ⟨k.1.trans h.1, k.2.1.trans h.2.1, k.2.2.1.trans h.2.2.1, Nat.le_trans h.2.2.2.1 k.2.2.2.1, fun i hi hn => (k.2.2.2.2 i (Nat.lt_of_lt_of_le hi h.2.2.2.1) hn).trans (h.2.2.2.2 i hi hn)⟩

theorem Kb.setCell {r : Nat} {a w : World} (h : Kb r a w) (o : Nat) (u : Value) : Kb r a (w.setCell ⟨r, o, none⟩ u) :=
  h.trans ⟨rfl, rfl, rfl, by simp [World.setCell], fun k _ hk => Below.heap_setCell _ _ _ _ hk⟩

theorem Kb.setCells {r : Nat} {a : World} (vs : List Value) : ∀ {w : World} (h : Kb r a w) (o : Nat), Kb r a (w.setCells r o vs) := by
  induction vs with
  | nil => intro w h o; exact h
  | cons v t ih => intro w h o; exact ih (h.setCell o v) (o + 1)

theorem Kb.drew {r : Nat} {a w : World} (h : Kb r a w) : Kb r a w.drew := h.trans ⟨rfl, rfl, rfl, Nat.le_refl _, fun _ _ _ => rfl⟩

theorem Kb.below {r n : Nat} {w w' : World} (h : Kb r w w') (hn : n ≤ w.heap.size) (hr : n ≤ r) : Below n w w' :=
  ⟨h.1, h.2.1, h.2.2.1, h.2.2.2.1, fun i hi => h.2.2.2.2 i (by omega) (by omega)⟩

theorem own_blk {w : World} {base e size g n c : Nat} {xs : List Value} (h : w.ownsRow base e size (.slice (some ⟨g, 0, none⟩) n c) n xs) : base ≤ g ∧ n ≤ c ∧ ∃ cur, w.heap[g]? = some (.cells cur e (0, 0)) := by
  rcases h.2 with ⟨h1, _⟩ | ⟨g', cap, cur, h1, hb, hg, hnc, hcm, hcs, htk⟩
  · cases h1
  · cases h1
    exact ⟨hb, hnc, cur, hg⟩

theorem less_str (x y : Spt) : lessS x y = true ↔ (Op.bytesLess x.nm.toList y.nm.toList = true ∨ (x.nm = y.nm ∧ x.ix < y.ix)) := by
  unfold lessS
  simp

theorem lessS_irr (x : Spt) : lessS x x = false := by
  rw [Bool.eq_false_iff, Ne, less_str]
  rintro (h | ⟨_, h⟩)
  · rw [less_irrefl] at h; cases h
  · omega

theorem lessS_trans {x y z : Spt} (h1 : lessS x y = true) (h2 : lessS y z = true) : lessS x z = true := by
  rw [less_str] at *
  rcases h1 with h1 | ⟨e1, h1⟩
  · rcases h2 with h2 | ⟨e2, h2⟩
    · exact .inl (less_trans _ _ _ h1 h2)
    · rw [← e2]; exact .inl h1
  · rcases h2 with h2 | ⟨e2, h2⟩
    · rw [e1]; exact .inl h2
    · exact .inr ⟨e1.trans e2, by omega⟩

theorem lessS_total {x y : Spt} (h1 : lessS x y = false) (h2 : lessS y x = false) : x = y := by
  rw [Bool.eq_false_iff, Ne, less_str] at h1 h2
  have e : x.nm = y.nm := toL_inj (less_total _ _ (by rw [Bool.eq_false_iff]; exact fun h => h1 (.inl h)) (by rw [Bool.eq_false_iff]; exact fun h => h2 (.inl h)))
  have h3 : ¬ x.ix < y.ix := fun h => h1 (.inr ⟨e, h⟩)
  have h4 : ¬ y.ix < x.ix := fun h => h2 (.inr ⟨e.symm, h⟩)
  obtain ⟨xn, xi⟩ := x
  obtain ⟨yn, yi⟩ := y
  simp only at e h3 h4
  rw [e, show xi = yi from by omega]

theorem lessS_asymm {x y : Spt} (h : lessS x y = true) : lessS y x = false := by
  rw [Bool.eq_false_iff]
  intro h2
  have := lessS_trans h h2
  rw [lessS_irr] at this; cases this

theorem cmpP_lt (x y : Spt) : ltOf cmpP x y = lessS x y := by
  unfold ltOf
  rw [Bool.eq_iff_iff, decide_eq_true_iff]
  exact cmpP_less x y

theorem cmpP_swo : SWO (ltOf cmpP) where
  irrefl x := by rw [cmpP_lt]; exact lessS_irr x
  trans x y z h1 h2 := by rw [cmpP_lt] at *; exact lessS_trans h1 h2
  ntrans x y z h1 h2 := by
    rw [cmpP_lt] at *
    rw [Bool.eq_false_iff]
    intro h3
    by_cases h4 : lessS y x = true
    · have := lessS_trans h4 h3
      rw [h2] at this; cases this
    · have e := lessS_total h1 (by simpa using h4)
      rw [e, h2] at h3; cases h3

theorem flat_spt (l : List Spt) (i : Nat) (h : i < l.length * 2) : (fvs l)[i]? = some (flatK Spt.cells 2 l.toArray)[i]! := by
  rw [get_flatK _ _ _ _ (by simpa using h)]
  have hj : i / 2 < l.length := by omega
  have hd : l[i / 2]? = some l[i / 2] := List.getElem?_eq_getElem hj
  have e : l.toArray[i / 2]! = l[i / 2] := by simp [hj]
  rw [e]
  generalize l[i / 2] = d at hd
  have hc : d.cells[i % 2]? = some d.cells[i % 2]! := by
    rcases Nat.mod_two_eq_zero_or_one i with h0 | h0 <;> rw [h0] <;> rfl
  have := fvs_get l (i / 2) d hd (i % 2) _ hc
  rw [show i / 2 * 2 + i % 2 = i from by omega] at this
  exact this

theorem holds_spots {w : World} {B g n cap : Nat} {l : List Spt} (ho : w.ownsRow B 25 2 (.slice (some ⟨g, 0, none⟩) n cap) n (fvs l)) : HoldsK Spt.cells 2 w g 0 l.toArray := by
  have hn := ho.1
  rw [fvs_length] at hn
  obtain ⟨_, _, cur, hcur⟩ := own_blk ho
  intro j hj
  rw [size_flatK] at hj
  simp at hj
  refine ⟨?_, unfrozen_of_block hcur _⟩
  have := ho.cells (g := g) rfl j _ (flat_spt l j hj)
  rw [add_none] at this
  exact this

/-- None stands behind a lesser one. -/
def SrtS (l : List Spt) : Prop := l.Pairwise (fun a b => lessS b a = false)

set_option maxHeartbeats 2000000 in
theorem sortS_any (B g n cap : Nat) (l : List Spt) (w : World) (hn : n ≤ 1000000) (ho : w.ownsRow B 25 2 (.slice (some ⟨g, 0, none⟩) n cap) n (fvs l)) :
    Calls Tryd.prog 35 #[.slice (some ⟨g, 0, none⟩) n cap, .func (.func 36) #[] #[]] w fun e w' => e = .returned (.tuple #[]) ∧ ∃ l' : List Spt, l'.Perm l ∧ SrtS l' ∧ w'.ownsRow B 25 2 (.slice (some ⟨g, 0, none⟩) n cap) n (fvs l') ∧ Kb g w w' := by
  have hl := ho.1
  rw [fvs_length] at hl
  obtain rfl : l.length = n := by omega
  have hH := holds_spots ho
  have eg : ∀ args w, (callFunc 36 args).run Tryd.prog w = .ok (.enter 36 args) w := enters_of Tryd.func36 (by kernel_rfl) rfl
  obtain ⟨g', cap', cur, hv, hBg, hcur, hnc, hcm, hcs, htk⟩ := ho.2.resolve_left (fun h => by cases h.1)
  cases hv
  have hblk : g < w.heap.size := (Array.getElem?_eq_some_iff.1 hcur).1
  have hsz : l.toArray.size = l.length := by simp
  have hcon := AnyQ.slices_SortFunc Tryd.sortSpot 2 Tryd.isAgg25 Tryd.sizeOf25 Spt.cells (fun _ => rfl) (fun x v hv => by simp [Spt.cells] at hv; rcases hv with rfl | rfl <;> rfl) cmpP cmpP_swo 36 #[] g 0 cap l.toArray w eg (fun _ _ _ _ x y => compareSpots_any x y _) hH hblk (by rw [hsz]; omega)
  rw [hsz] at hcon
  refine hcon.mono ?_
  rintro e w' ⟨rfl, d', m, os, hp, hs, rfl⟩
  obtain ⟨hps, _, hpp⟩ := hp
  rw [hsz] at hps
  have hdl : d'.toList.length = l.length := by simpa using hps
  refine ⟨rfl, d'.toList, ?_, ?_, ?_, ?_⟩
  · have e1 : (d'.extract 0 l.length).toList = d'.toList := by
      have : d'.extract 0 l.length = d' := by rw [← hps]; simp
      rw [this]
    have e2 : (l.toArray.extract 0 l.length).toList = l := by simp
    rw [e1, e2] at hpp
    exact hpp
  · unfold SrtS
    rw [List.pairwise_iff_getElem]
    intro i j hi hj hij
    have := hs i j (Nat.zero_le _) hij (by omega)
    rw [cmpP_lt] at this
    have hi2 : i < d'.size := by omega
    have hj2 : j < d'.size := by omega
    rw [getElem!_pos d' j hj2, getElem!_pos d' i hi2] at this
    simpa only [Array.getElem_toList] using this
  · refine ⟨by rw [fvs_length, hdl], .inr ⟨g, cap, putCells id 0 (flatK Spt.cells 2 d') cur, rfl, hBg, ?_, hnc, hcm, by simpa [putCells] using hcs, ?_⟩⟩
    · unfold sortWorldK putRowK putRow
      rw [heap_grow_old _ _ (by simp [mapBlock, ahead]; exact hblk)]
      simp [mapBlock, ahead, Array.getElem?_modify, hcur, onCells]
    · apply List.ext_getElem?
      intro i
      rw [List.getElem?_take]
      by_cases hi : i < l.length * 2
      · rw [if_pos hi]
        have hi2 : i < d'.toList.length * 2 := by omega
        have hc : i < cur.size := by
          rw [hcs]
          have : l.length * 2 ≤ cap * 2 := Nat.mul_le_mul_right _ hnc
          omega
        have h3 := flat_spt d'.toList i hi2
        rw [h3]
        have hf : i < (flatK Spt.cells 2 d').size := by rw [size_flatK]; omega
        simp only [putCells, Array.getElem?_toList, Array.getElem?_mapIdx, Array.getElem?_eq_getElem hc, Option.map_some]
        rw [if_pos ⟨Nat.zero_le _, by omega⟩]
        simp
      · rw [if_neg hi]
        exact (List.getElem?_eq_none (by rw [fvs_length]; omega)).symm
  · refine ⟨rfl, rfl, rfl, ?_, fun k hk hkg => ?_⟩
    · unfold sortWorldK putRowK putRow
      simp [mapBlock, ahead, grow]
    · unfold sortWorldK putRowK putRow
      rw [heap_grow_old _ _ (by simp [mapBlock, ahead]; exact hk)]
      simp [mapBlock, ahead, Array.getElem?_modify, Ne.symm hkg]

end Go.Proofs.YtidlogeeophogaaDoor.Sp
