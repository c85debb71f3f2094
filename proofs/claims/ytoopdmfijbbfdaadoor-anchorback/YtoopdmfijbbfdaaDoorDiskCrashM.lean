/- The disk's Crash: what it leaves. -/
import Derived.Test.YtoopdmfijbbfdaaDoorDiskKept
namespace Go.Proofs.YtoopdmfijbbfdaaDoor
open Go.RowKit Go.Maps
set_option linter.unusedVariables false

def clampK (k : Int) : Nat := (if (128 : Int) < (if k < 0 then (0 : Int) else k) then (128 : Int) else (if k < 0 then (0 : Int) else k)).toNat
theorem clampK_eq (k : Int) : (if (128 : Int) < (if k < 0 then (0 : Int) else k) then (128 : Int) else (if k < 0 then (0 : Int) else k)) = (clampK k : Int) := by
  unfold clampK
  split <;> split <;> omega
/-- What a crash that keeps k bytes leaves of an extent. -/
def Ext.fell (k : Int) (x : Ext) : Ext := if x.waits then x.crashed (clampK k) else x
def fellL (kf : Int → Int) (l : List Ext) : List Ext := l.mapIdx fun i x => x.fell (kf i)
def fellTo (kf : Int → Int) (l : List Ext) (k : Nat) : List Ext := fellL kf (l.take k) ++ l.drop k
theorem fellL_length (kf : Int → Int) (l : List Ext) : (fellL kf l).length = l.length := by simp [fellL]
theorem fellTo_zero (kf : Int → Int) (l : List Ext) : fellTo kf l 0 = l := by simp [fellTo, fellL]
theorem fellTo_all (kf : Int → Int) (l : List Ext) : fellTo kf l l.length = fellL kf l := by simp [fellTo]
theorem fellTo_at (kf : Int → Int) (l : List Ext) (k : Nat) (hk : k < l.length) : (fellTo kf l k)[k]? = some l[k] := by
  unfold fellTo
  rw [List.getElem?_append_right (by rw [fellL_length]; simp; omega), fellL_length]
  simp [Nat.min_eq_left (Nat.le_of_lt hk), List.getElem?_drop]
theorem fellL_snoc (kf : Int → Int) (l : List Ext) (x : Ext) : fellL kf (l ++ [x]) = fellL kf l ++ [x.fell (kf l.length)] := by
  simp [fellL, List.mapIdx_append]
theorem fellTo_step (kf : Int → Int) (l : List Ext) (k : Nat) (hk : k < l.length) : (fellTo kf l k).set k (l[k].fell (kf k)) = fellTo kf l (k + 1) := by
  unfold fellTo
  rw [List.set_append_right _ _ (by rw [fellL_length]; simp; omega), fellL_length, List.length_take, Nat.min_eq_left (by omega), Nat.sub_self, List.drop_eq_getElem_cons hk, List.set_cons_zero, List.take_succ_eq_append_getElem hk, fellL_snoc, List.append_assoc, List.length_take, Nat.min_eq_left (by omega)]
  rfl
theorem fellTo_idle (kf : Int → Int) (l : List Ext) (k : Nat) (hk : k < l.length) (hw : l[k].waits = false) : fellTo kf l (k + 1) = fellTo kf l k := by
  rw [← fellTo_step kf l k hk, show l[k].fell (kf k) = l[k] by simp [Ext.fell, hw], set_at (fellTo_at kf l k hk)]
/-- The files while the crash goes through them: those that are left are as they were. -/
def fellBut (kf : List UInt8 → Int → Int) (M : List UInt8 → List Ext) (left : Lit → Bool) : List UInt8 → List Ext := fun s => if left (.string s) then M s else fellL (kf s) (M s)
theorem fellL_nil (kf : Int → Int) {l : List Ext} : fellL kf l = [] ↔ l = [] := by
  constructor
  · intro h
    have := fellL_length kf l
    rw [h] at this
    exact List.length_eq_zero_iff.1 this.symm
  · rintro rfl; rfl

theorem Keeps.grown {F : Nat → Prop} {w w1 w2 : World} {q : Nat} (h : Keeps F w w1) (hg : w1.grownBy w2 (some q)) (hq : F q ∨ w.heap.size ≤ q) : Keeps F w w2 :=
  ⟨hg.os.trans h.os, hg.tape.trans h.tape, hg.output.trans h.output, Nat.le_trans h.size hg.size, fun i hi hn => (hg.block i (Nat.lt_of_lt_of_le hi h.size) (fun e => by
    have e' : i = q := Option.some.inj e
    subst e'
    rcases hq with hq | hq
    · exact hn hq
    · omega)).trans (h.block i hi hn)⟩

section
variable {w : World} {d N : Nat} {F : Nat → Prop} {M : List UInt8 → List Ext} {free fuse : Int} {bm : Nat} {D : DataW Unit} {G C : List UInt8 → Nat}
/-- As 'put', with the sharper word on the world. -/
theorem DiskIs.put2 (h : DiskIs w d F N M free fuse bm D G C) (s : List UInt8) (i : Nat) (x : Ext) (hx : (M s)[i]? = some x) (o : Nat) (ho : i * 385 = o) (k : Nat) (cs : List Value) (y : Ext) (hy : y.ok) (hk : k + cs.length ≤ 385) (hsp : splice x.cells k cs = y.cells) :
    DiskIs (w.setCells (G s) (o + k) cs) d F N (upd M s ((M s).set i y)) free fuse bm D G C ∧ w.grownBy (w.setCells (G s) (o + k) cs) (some (G s)) := by
  refine ⟨(h.put s i x hx o ho k cs y hy hk hsp).1, ?_⟩
  obtain ⟨hi, he⟩ := List.getElem?_eq_some_iff.1 hx
  obtain ⟨_, hrow, hok⟩ := h.2.2.2.2.2.1 s (ne_of_at hx)
  subst ho
  have hl : (cellsE (M s)).length = (M s).length * 385 := cellsE_length hok
  exact (own_storedAll (w := w) cs (i * 385 + k) _ w hrow (by rw [hl]; have : (i + 1) * 385 ≤ (M s).length * 385 := Nat.mul_le_mul_right _ hi; omega)).2
theorem crash_ext (h : DiskIs w d F N M free fuse bm D G C) (s : List UInt8) (i : Nat) (x : Ext) (hx : (M s)[i]? = some x) (o : Nat) (ho : i * 385 = o) (k : Int) (hw : x.waits = true) :
    Calls Tryd.prog 48 #[.pointer (some ⟨G s, o, none⟩), .int .i64 k] w fun e w' => e = .returned (.tuple #[]) ∧ DiskIs w' d F N (upd M s ((M s).set i (x.fell k))) free fuse bm D G C ∧ w.grownBy w' (some (G s)) := by
  obtain ⟨p1, p2, p3, p4, p5, p6⟩ := h.parts s i x hx o ho
  refine (crash_run w (G s) o (clampK k) k _ rfl (clampK_eq k) x.wri p6.2.2.1 p3 (by simpa using h.thereAt s i x hx o ho 0 128 (by omega)) (h.thereAt s i x hx o ho 384 1 (by omega))).mono ?_
  rintro e w' ⟨rfl, rfl⟩
  have hb : Below w.heap.size w w.drew := (Below.refl _ _).drew
  have h0 := h.below hb
  have hm : clampK k ≤ 128 := by
    have := clampK_eq k
    split at this <;> omega
  have hy := Ext.crashed_ok p6 (clampK k)
  obtain ⟨h1, g1⟩ := h0.put2 s i x hx o ho 0 (vb (x.wri.take (clampK k))) { x with dur := x.wri.take (clampK k) ++ x.dur.drop (clampK k) } ⟨hy.1, p6.2⟩ (by rw [length_vb, List.length_take, p6.2.2.1]; omega) (by
    have e1 : (vb (x.wri.take (clampK k))).length = clampK k := by rw [length_vb, List.length_take, p6.2.2.1]; omega
    unfold splice
    rw [e1, List.take_zero, List.nil_append, Nat.zero_add]
    unfold Ext.cells
    rw [List.drop_append_of_le_length (by rw [length_vb, p6.1.1]; exact hm), ← List.append_assoc]
    congr 1
    simp [vb])
  have hx2 : (upd M s ((M s).set i { x with dur := x.wri.take (clampK k) ++ x.dur.drop (clampK k) }) s)[i]? = some { x with dur := x.wri.take (clampK k) ++ x.dur.drop (clampK k) } := by
    obtain ⟨hi, _⟩ := List.getElem?_eq_some_iff.1 hx
    rw [upd_same, List.getElem?_set_self hi]
  obtain ⟨h2, g2⟩ := h1.put2 s i _ hx2 o ho 384 [.bool false] (x.crashed (clampK k)) hy (by simp) (cells_waits (x := { x with dur := x.wri.take (clampK k) ++ x.dur.drop (clampK k) }) ⟨hy.1, p6.2⟩ false)
  rw [upd_upd, upd_same, List.set_set] at h2
  have e : x.fell k = x.crashed (clampK k) := by simp [Ext.fell, hw]
  rw [e]
  have g0 : w.grownBy w.drew (some (G s)) := ⟨rfl, rfl, rfl, Nat.le_refl _, fun _ _ _ => rfl⟩
  exact ⟨rfl, h2, (g0.trans g1).trans g2⟩
/-- A row's block is no map's, and no loop's. -/
theorem DiskIs.row_not (h : DiskIs w d F N M free fuse bm D G C) (s : List UInt8) (hs : M s ≠ []) {b : Nat} {es : Array MapEntry} {clock : Nat} (hb : w.heap[b]? = some (.map es clock)) : b ≠ G s := by
  rintro rfl
  rcases (h.2.2.2.2.2.1 s hs).2.1.2 with ⟨hv, _⟩ | ⟨g', c', cur, hv, _, hh, _⟩
  · cases hv
  · cases hv
    rw [hb] at hh
    cases hh
theorem DiskIs.row_cells (h : DiskIs w d F N M free fuse bm D G C) (s : List UInt8) (hs : M s ≠ []) : ∃ cur, w.heap[G s]? = some (.cells cur 72 (0, 0)) := by
  rcases (h.2.2.2.2.2.1 s hs).2.1.2 with ⟨hv, _⟩ | ⟨g', c', cur, hv, _, hh, _⟩
  · cases hv
  · cases hv
    exact ⟨cur, hh⟩
theorem ranges_not {P : Program} {kT : TypeId} {R : Value → Option (DataW Unit × List MemPlace)} {b r n cnt : Nat} {left : Lit → Bool} (h : w.ranges P kT R b r n D left cnt) {g : Nat} {cur : Array Value} {t : TypeId} (hg : w.heap[g]? = some (.cells cur t (0, 0))) : b ≠ g ∧ r ≠ g := by
  obtain ⟨es, clock, since, seen, c0, h1, _, _, _, h2, _⟩ := h
  refine ⟨?_, ?_⟩
  · rintro rfl
    rw [hg] at h1
    cases h1
  · rintro rfl
    rw [hg] at h2
    cases h2
theorem KeptMap.not {b : Nat} {kf : List UInt8 → Int → Int} (h : KeptMap w b kf) {g : Nat} {cur : Array Value} {t : TypeId} (hg : w.heap[g]? = some (.cells cur t (0, 0))) : b ≠ g := by
  obtain ⟨N, D, ⟨es, clock, h1, _⟩, _⟩ := h
  rintro rfl
  rw [hg] at h1
  cases h1
end
end Go.Proofs.YtoopdmfijbbfdaaDoor
