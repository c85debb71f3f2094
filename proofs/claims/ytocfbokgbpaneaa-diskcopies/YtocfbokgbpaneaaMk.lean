/- The document's disk: an extent turned; Write over an extent that is there. -/
import Derived.Test.YtocfbokgbpaneaaRyC
import Derived.Test.YtocfbokgbpaneaaMe
namespace Go.Proofs.Ytocfbokgbpaneaa
open Go.RowKit Go.Maps
set_option linter.unusedVariables false

theorem block_setY {w : World} {g : Nat} {cur : Array Value} {e : TypeId} (hh : w.heap[g]? = some (.cells cur e (0, 0))) (j : Nat) (v : Value) : (w.setCell ⟨g, j, none⟩ v).heap[g]? = some (.cells (cur.setIfInBounds j v) e (0, 0)) := by
  rw [setCell_eq_setRow _ _ _ _ _ _ _ hh]
  exact setRow_heap _ _ _ _ _ _ hh

theorem own_putY {w : World} {base e size n g c : Nat} {xs : List Value} (h : w.ownsRow base e size (.slice (some ⟨g, 0, none⟩) n c) n xs) (j : Nat) (v : Value) : (w.setCell ⟨g, j, none⟩ v).ownsRow base e size (.slice (some ⟨g, 0, none⟩) n c) n (xs.set j v) := by
  obtain ⟨hl, h1⟩ := h
  refine ⟨by simpa using hl, ?_⟩
  rcases h1 with ⟨h1, _⟩ | ⟨g', c', cur, hv, hg, hh, hn, hc, hs, ht⟩
  · cases h1
  · cases hv
    refine .inr ⟨g, c, cur.setIfInBounds j v, rfl, hg, block_setY hh j v, hn, hc, by simpa using hs, ?_⟩
    rw [← ht, Array.toList_setIfInBounds]
    apply List.ext_getElem?
    intro i
    rw [List.getElem?_take, List.getElem?_set, List.getElem?_set, List.getElem?_take]
    simp only [List.length_take, Array.length_toList]
    by_cases h1 : i < n * size <;> by_cases h2 : j = i
    · subst h2
      have h3 : j < cur.size := by
        rw [hs]; exact Nat.lt_of_lt_of_le h1 (Nat.mul_le_mul_right _ hn)
      simp [h1, h3]
      omega
    · simp [h1, h2]
    · subst h2
      simp [h1]
      omega
    · simp [h1, h2]

/-- An extent's cells, one of them set. -/
theorem cellsC_set : ∀ (l : List Yc) (i : Nat) (c c' : Yc) (j : Nat) (v : Value), l[i]? = some c → j < 5 → c'.cells = c.cells.set j v → (cellsC l).set (i * 5 + j) v = cellsC (l.set i c')
  | a :: r, 0, c, c', j, v, h, hj, hc => by
    obtain rfl : a = c := by simpa using h
    show (a.cells ++ cellsC r).set (0 * 5 + j) v = c'.cells ++ cellsC r
    rw [List.set_append_left _ _ (by show 0 * 5 + j < 5; omega), hc, Nat.zero_mul, Nat.zero_add]
  | a :: r, i + 1, c, c', j, v, h, hj, hc => by
    show (a.cells ++ cellsC r).set ((i + 1) * 5 + j) v = a.cells ++ cellsC (r.set i c')
    rw [List.set_append_right _ _ (by show 5 ≤ _; omega), show (i + 1) * 5 + j - a.cells.length = i * 5 + j from by show (i + 1) * 5 + j - 5 = _; omega, cellsC_set r i c c' j v (by simpa using h) hj hc]

theorem row_put {w : World} {f : Yf} {l : List Yc} (hl : l.length = f.l.length) (h : w.ownsRow 0 57 5 f.row f.l.length (cellsC l)) {i : Nat} {c c' : Yc} (hi : l[i]? = some c) (j : Nat) (hj : j < 5) (v : Value) (hc : c'.cells = c.cells.set j v) : (w.setCell ⟨f.g, i * 5 + j, none⟩ v).ownsRow 0 57 5 f.row f.l.length (cellsC (l.set i c')) := by
  rw [← cellsC_set l i c c' j v hi hj hc]
  exact own_putY h (i * 5 + j) v

def setF (f : Yf) (i : Nat) (c' : Yc) : Yf := { f with l := f.l.set i c' }

theorem setF_row (f : Yf) (i : Nat) (c' : Yc) : (setF f i c').row = f.row := by simp [setF, Yf.row]

theorem cellsR_set (R : List Yf) (k : Nat) (f f' : Yf) (hk : R[k]? = some f) (h : f'.cells = f.cells) : cellsR (R.set k f') = cellsR R := by
  induction R generalizing k with
  | nil => rfl
  | cons a r ih =>
    cases k with
    | zero =>
      obtain rfl : a = f := by simpa using hk
      show f'.cells ++ cellsR r = a.cells ++ cellsR r
      rw [h]
    | succ k =>
      show a.cells ++ cellsR (r.set k f') = a.cells ++ cellsR r
      rw [ih k (by simpa using hk)]

theorem mem_setY {R : List Yf} {k : Nat} {f' x : Yf} (h : x ∈ R.set k f') : (∃ j, j ≠ k ∧ R[j]? = some x) ∨ x = f' := by
  obtain ⟨j, hj⟩ := List.mem_iff_getElem?.1 h
  rw [List.getElem?_set] at hj
  by_cases e : k = j
  · rw [if_pos e] at hj
    split at hj
    · exact .inr (Option.some.inj hj).symm
    · cases hj
  · rw [if_neg e] at hj
    exact .inl ⟨j, Ne.symm e, hj⟩

theorem mem_setC {l : List Yc} {i : Nat} {c' x : Yc} (h : x ∈ l.set i c') : x ∈ l ∨ x = c' := List.mem_or_eq_of_mem_set h

theorem map_setG (R : List Yf) (k : Nat) (f f' : Yf) (hk : R[k]? = some f) (h : f'.g = f.g) : (R.set k f').map Yf.g = R.map Yf.g := by
  apply List.ext_getElem?
  intro j
  rw [List.getElem?_map, List.getElem?_map, List.getElem?_set]
  by_cases e : k = j
  · subst e
    have := (List.getElem?_eq_some_iff.1 hk).1
    rw [if_pos rfl, if_pos this, hk]
    simp [h]
  · rw [if_neg e]

theorem nodup_ne {R : List Yf} (h : (R.map Yf.g).Nodup) {j k : Nat} {a b : Yf} (hj : R[j]? = some a) (hk : R[k]? = some b) (hne : j ≠ k) : a.g ≠ b.g := by
  intro e
  have h1 := (List.getElem?_eq_some_iff.1 hj)
  have h2 := (List.getElem?_eq_some_iff.1 hk)
  have hj' : j < (R.map Yf.g).length := by rw [List.length_map]; exact h1.1
  have hk' : k < (R.map Yf.g).length := by rw [List.length_map]; exact h2.1
  have hp := List.pairwise_iff_getElem.1 h
  rcases Nat.lt_or_gt_of_ne hne with hlt | hlt
  · exact hp j k hj' hk' hlt (by simp [h1.2, h2.2, e])
  · exact hp k j hk' hj' hlt (by simp [h1.2, h2.2, e])

/-- One extent is another one. -/
theorem RyOf.turnC {w w' : World} {y : Nat} {F F' : Nat → Prop} {fa : Option Addr} {fc : Nat} {R : List Yf} {room fuse : Int} (h : RyOf w y F fa fc R room fuse) {k : Nat} {f : Yf} (hk : R[k]? = some f) (i : Nat) (c' : Yc)
    (hrow : w'.ownsRow 0 57 5 f.row f.l.length (cellsC (f.l.set i c'))) (hb : ∀ b, F b → b ≠ f.g → w'.heap[b]? = w.heap[b]?)
    (him : Im w' c'.q0 c'.x.rd ∧ Im w' c'.q1 c'.x.dur ∧ Im w' c'.q2 c'.x.syn ∧ Im w' c'.q3 c'.x.wri) (hok : c'.x.ok) (hFF : ∀ b, F b → F' b) (hF' : F' c'.q0.1 ∧ F' c'.q1.1 ∧ F' c'.q2.1 ∧ F' c'.q3.1) :
    RyOf w' y F' fa fc (R.set k (setF f i c')) room fuse := by
  have hm := List.mem_of_getElem? hk
  have hrf := h.rows f hm
  have hne : ∀ {base e size n : Nat} {v : Value} {xs : List Value} (ho : w.ownsRow base e size v n xs) (g : Nat), v.ownBlock = some g → (57 : Nat) ≠ e → g ≠ f.g := fun ho g hg he => Ne.symm (own_ne2 hrf ho (g := f.g) rfl hg he)
  have hold : ∀ f2 ∈ R, ∀ c ∈ f2.l, Im w' c.q0 c.x.rd ∧ Im w' c.q1 c.x.dur ∧ Im w' c.q2 c.x.syn ∧ Im w' c.q3 c.x.wri := fun f2 h2 c hc => by
    obtain ⟨a0, a1, a2, a3⟩ := h.ims f2 h2 c hc
    obtain ⟨b0, b1, b2, b3⟩ := h.fi f2 h2 c hc
    exact ⟨own_other a0 (fun g hg => by cases hg; exact hb _ b0 (hne a0 _ rfl tyDF.2.2.2.2.2)), own_other a1 (fun g hg => by cases hg; exact hb _ b1 (hne a1 _ rfl tyDF.2.2.2.2.2)), own_other a2 (fun g hg => by cases hg; exact hb _ b2 (hne a2 _ rfl tyDF.2.2.2.2.2)), own_other a3 (fun g hg => by cases hg; exact hb _ b3 (hne a3 _ rfl tyDF.2.2.2.2.2))⟩
  have hkl := (List.getElem?_eq_some_iff.1 hk).1
  refine ⟨?_, ?_, ?_, ?_, ?_, ?_, hFF _ h.fy, fun x hx => hFF _ (h.ff x hx), ?_, ?_⟩
  · rw [List.length_set]
    have hy : y ≠ f.g := Ne.symm (own_ne hrf (g := f.g) rfl h.disk (Ne.symm tyDF.2.1))
    exact (hb y h.fy hy).trans h.disk
  · rw [List.length_set, cellsR_set R k f _ hk (by simp [Yf.cells, setF_row]; rfl)]
    refine own_other h.files (fun g hg => ?_)
    obtain ⟨x, hx, e⟩ := slice_own hg
    exact hb g (by rw [← e]; exact h.ff x hx) (hne h.files g hg (Ne.symm tyDF.2.2.2.1))
  · intro f2 h2
    rcases mem_setY h2 with ⟨j, hj, h3⟩ | rfl
    · have h3m := List.mem_of_getElem? h3
      exact own_other (h.rows f2 h3m) (fun g hg => by
        obtain rfl : f2.g = g := by simpa [Yf.row, Value.ownBlock] using hg
        exact hb _ (h.fr f2 h3m) (nodup_ne h.apart h3 hk hj))
    · rw [setF_row]
      show w'.ownsRow 0 _ 5 f.row (f.l.set i c').length (cellsC (f.l.set i c'))
      rw [List.length_set]
      exact hrow
  · intro f2 h2 c hc
    rcases mem_setY h2 with ⟨j, hj, h3⟩ | rfl
    · exact hold f2 (List.mem_of_getElem? h3) c hc
    · rcases mem_setC hc with hc | rfl
      · exact hold f hm c hc
      · exact him
  · intro f2 h2
    rcases mem_setY h2 with ⟨j, hj, h3⟩ | rfl
    · exact h.ok f2 (List.mem_of_getElem? h3)
    · obtain ⟨a, b, c⟩ := h.ok f hm
      refine ⟨a, ?_, fun x hx => ?_⟩
      · intro e
        apply b
        have : (f.l.set i c').length = 0 := by rw [show f.l.set i c' = [] from e]; rfl
        rw [List.length_set] at this
        exact List.length_eq_zero_iff.1 this
      · rcases mem_setC hx with hx | rfl
        · exact c x hx
        · exact hok
  · rw [map_setG R k f (setF f i c') hk rfl]
    exact h.apart
  · intro f2 h2
    rcases mem_setY h2 with ⟨j, hj, h3⟩ | rfl
    · exact hFF _ (h.fr f2 (List.mem_of_getElem? h3))
    · exact hFF _ (h.fr f hm)
  · intro f2 h2 c hc
    rcases mem_setY h2 with ⟨j, hj, h3⟩ | rfl
    · obtain ⟨b0, b1, b2, b3⟩ := h.fi f2 (List.mem_of_getElem? h3) c hc
      exact ⟨hFF _ b0, hFF _ b1, hFF _ b2, hFF _ b3⟩
    · rcases mem_setC hc with hc | rfl
      · obtain ⟨b0, b1, b2, b3⟩ := h.fi f hm c hc
        exact ⟨hFF _ b0, hFF _ b1, hFF _ b2, hFF _ b3⟩
      · exact hF'

theorem nameB_size {s : ByteArray} (h : nameB s.data.toList = true) : 1 ≤ s.size ∧ s.size ≤ 24 := by
  unfold nameB at h
  rw [Bool.and_eq_true] at h
  have h1 := of_decide_eq_true h.1
  have e : s.data.toList.length = s.size := Array.length_toList
  rw [e] at h1
  exact h1

/-- What a change of the document's disk leaves: the disk, all else kept. -/
def RyPost (w : World) (y : Nat) (F : Nat → Prop) (R' : List Yf → Prop) (room fuse' : Int) (v : Int) (e : Ending) (w' : World) : Prop :=
  e = .returned (.int .i64 v) ∧ ∃ F' fa' fc' R2, RyOf w' y F' fa' fc' R2 room fuse' ∧ R' R2 ∧ Gr F F' w w'

/-- What is told of a list of files: names and extents. -/
def viewY (R : List Yf) : List (ByteArray × List Ext) := R.map fun f => (f.name, f.l.map Yc.x)

set_option maxHeartbeats 1000000 in
theorem writeY_arg (w : World) (y : Nat) (F : Nat → Prop) (fa : Option Addr) (fc : Nat) (R : List Yf) (room fuse : Int) (h : RyOf w y F fa fc R room fuse) (hF : ∀ k, F k → k < w.heap.size) (s : ByteArray) (hs : s.size ≤ maxLen) (hR : R.length ≤ 1000000) (i : Int) (n : Nat) (HN : Hid (n = (extY R s).length)) (a : Option Addr) (len cap : Nat) (hlen : len ≤ maxLen)
    (hbad : nameB s.data.toList = false ∨ len ≠ 128 ∨ i < 0 ∨ (n : Int) < i) :
    Calls Try.prog 16 #[.pointer (some ⟨y, 0, none⟩), .string s, .int .i64 i, .slice a len cap] w fun e w' => e = .returned (.int .i64 1) ∧ Below w.heap.size w w' := by
  have HNm := hidn (isNameY_any w s hs)
  have HE := hidn (extentsY_any w y F fa fc R room fuse h hF s hR n HN)
  unfold maxLen at hlen
  cases hnb : nameB s.data.toList with
  | false =>
    rw [hnb] at HNm
    clear hbad hnb
    go_enter Try.func16, Try.ntmps16
    go_wp2_with fail
    refine HNm.out.mono ?_
    rintro e w1 ⟨rfl, rfl⟩
    go_wp2
    go_ret
    exact ⟨rfl, Below.refl _ _⟩
  | true =>
    rw [hnb] at HNm
    by_cases h1 : len = 128
    · subst h1
      by_cases h2 : i < 0
      · have e2 : decide (i < 0) = true := by simpa using h2
        clear hbad hnb h2
        go_enter Try.func16, Try.ntmps16
        go_wp2_with fail
        refine HNm.out.mono ?_
        rintro e w1 ⟨rfl, rfl⟩
        go_wp2
        go_ret
        exact ⟨rfl, Below.refl _ _⟩
      · have e2 : decide (i < 0) = false := by simpa using h2
        have e3 : decide ((n : Int) < i) = true := by
          rcases hbad with h | h | h | h
          · rw [hnb] at h; cases h
          · exact absurd rfl h
          · exact absurd h h2
          · simpa using h
        clear hbad hnb h2
        go_enter Try.func16, Try.ntmps16
        go_wp2_with fail
        refine HNm.out.mono ?_
        rintro e w1 ⟨rfl, rfl⟩
        go_wp2_with fail
        refine HE.out.mono ?_
        rintro e w2 ⟨rfl, hb2⟩
        go_wp2
        go_ret
        exact ⟨rfl, hb2⟩
    · have e1 : ((len : Int) != 128) = true := by simp; omega
      clear hbad hnb h1
      go_enter Try.func16, Try.ntmps16
      go_wp2_with fail
      refine HNm.out.mono ?_
      rintro e w1 ⟨rfl, rfl⟩
      go_wp2
      go_ret
      exact ⟨rfl, Below.refl _ _⟩

set_option maxHeartbeats 1000000 in
theorem writeY_dead (w : World) (y : Nat) (F : Nat → Prop) (fa : Option Addr) (fc : Nat) (R : List Yf) (room : Int) (h : RyOf w y F fa fc R room 0) (hF : ∀ k, F k → k < w.heap.size) (s : ByteArray) (hs : nameB s.data.toList = true) (hR : R.length ≤ 1000000) (i n : Nat) (HN : Hid (n = (extY R s).length)) (hin : i ≤ n) (a : Option Addr) (cap : Nat) :
    Calls Try.prog 16 #[.pointer (some ⟨y, 0, none⟩), .string s, .int .i64 (i : Int), .slice a 128 cap] w fun e w' => e = .returned (.int .i64 31) ∧ Below w.heap.size w w' := by
  have HNm := hidn (isNameY_any w s (by have := nameB_size hs; unfold maxLen; omega))
  rw [hs] at HNm
  have HE := hidn (extentsY_any w y F fa fc R room 0 h hF s hR n HN)
  have e2 : decide ((i : Int) < 0) = false := by simp
  have e3 : decide ((n : Int) < (i : Int)) = false := by simp; omega
  have H := hidn h
  have HF := hidn hF
  clear h hF hs
  go_enter Try.func16, Try.ntmps16
  go_wp2_with fail
  refine HNm.out.mono ?_
  rintro e w1 ⟨rfl, rfl⟩
  go_wp2_with fail
  refine HE.out.mono ?_
  rintro e w2 ⟨rfl, hb2⟩
  go_wp2_with fail
  refine (stops_yes _ y F fa fc R room (H.out.below HF.out hb2)).mono ?_
  rintro e w3 ⟨rfl, rfl⟩
  go_wp2
  go_ret
  exact ⟨rfl, hb2⟩
end Go.Proofs.Ytocfbokgbpaneaa

namespace Go.Proofs.Ytocfbokgbpaneaa
open Go.RowKit Go.Maps
set_option linter.unusedVariables false

set_option maxRecDepth 100000 in
set_option maxHeartbeats 4000000 in
theorem writeY_old (w : World) (y : Nat) (F : Nat → Prop) (fa : Option Addr) (fc : Nat) (R : List Yf) (room fuse : Int) (h : RyOf w y F fa fc R room fuse) (hF : ∀ k, F k → k < w.heap.size) (s : ByteArray) (hs : nameB s.data.toList = true) (hR : R.length ≤ 1000000) (hr0 : 0 ≤ room) (hr1 : room ≤ 100000) (hsm : sumL R ≤ 100000) (hf0 : fuse ≠ 0) (hf1 : -1 ≤ fuse) (hf2 : fuse ≤ 9223372036854775807) (i : Nat) (ba cap : Nat) (boff : Nat) (zs : List Nat) (hB : BsF F w (some ⟨ba, boff, none⟩) 128 zs) (n : Nat) (HN : Hid (n = (extY R s).length)) (hin : i < n) (k : Nat) (f : Yf) (c : Yc) (hp : placeY R s = some k) (hk : R[k]? = some f) (hc : f.l[i]? = some c) :
    Calls Try.prog 16 #[.pointer (some ⟨y, 0, none⟩), .string s, .int .i64 (i : Int), .slice (some ⟨ba, boff, none⟩) 128 cap] w (RyPost w y F (fun R2 => ∃ c', c'.x = c.x.wrote zs ∧ R2 = R.set k (setF f i c')) room (burnt fuse) 0) := by
  have HNm := hidn (isNameY_any w s (by have := nameB_size hs; unfold maxLen; omega))
  rw [hs] at HNm
  have HE := hidn (extentsY_any w y F fa fc R room fuse h hF s hR n HN)
  have HF := hidn hF
  have HBz := hidn hB
  have HYF := hidn h.fy
  have HSt := hidn (fun (wx : World) (hx : RyOf wx y F fa fc R room fuse) => stops_no wx y F fa fc R room fuse hx hf0 hf1 hf2)
  have HE2 := hidn (fun (wx : World) (hx : RyOf wx y F fa fc R room (burnt fuse)) (hl : ∀ k, F k → k < wx.heap.size) => extentsY_any wx y F fa fc R room (burnt fuse) hx hl s hR n HN)
  have HPl := hidn (fun (wx : World) (hx : RyOf wx y F fa fc R room (burnt fuse)) (hl : ∀ k, F k → k < wx.heap.size) => place_any wx y F fa fc R room (burnt fuse) hx hl s hR)
  have HFr := hidn (fun (wx : World) (hx : RyOf wx y F fa fc R room (burnt fuse)) (hl : ∀ k, F k → k < wx.heap.size) => freeY_any wx y F fa fc R room (burnt fuse) hx hl hR hr0 hr1 hsm)
  have H := hidn h
  have e2 : decide ((i : Int) < 0) = false := by simp
  have e3 : decide ((n : Int) < (i : Int)) = false := by simp; omega
  clear h hF hs hB hf0 hf1 hf2
  have HPI : Hid (placeI R s = (k : Int)) := hidn (by unfold placeI; rw [hp])
  have HFK := hidn hk
  have HCI := hidn hc
  have HRl := hidn hR
  have HFL : Hid (f.l.length ≤ 100000) := hidn (by
    have h1 := sumL_take R k f hk
    have h2 := sumL_le R (k + 1)
    omega)
  have e4 : ((i : Int) == (n : Int)) = false := beq_eq_false_iff_ne.2 (by omega)
  have e5 : decide ((k : Int) < 0) = false := by simp
  clear hp hk hc hR
  go_enter Try.func16, Try.ntmps16
  go_wp2_with fail
  refine HNm.out.mono ?_
  clear HNm
  rintro e w1 ⟨rfl, hw1⟩
  rw [hw1]
  clear hw1
  go_wp2_with fail
  refine HE.out.mono ?_
  clear HE
  rintro e w2 ⟨rfl, hb2⟩
  have HG2 := hidn (Gr.of (Keeps.of_below (F := F) hb2))
  have HL2 : Hid (∀ k, F k → k < w2.heap.size) := hidn (fun k hk => Nat.lt_of_lt_of_le (HF.out k hk) hb2.size)
  have HR2 := hidn (H.out.below HF.out hb2)
  clear hb2 H HF
  go_wp2_with fail
  refine (HSt.out _ HR2.out).mono ?_
  clear HSt HR2
  rintro e w3 ⟨rfl, hR3, hG3, hs3⟩
  have HR3 := hidn hR3
  have HG3 := hidn (HG2.out.trans hG3)
  have HL3 : Hid (∀ k, F k → k < w3.heap.size) := hidn (fun k hk => by rw [hs3]; exact HL2.out k hk)
  clear hR3 hG3 hs3 HG2 HL2
  go_wp2_with fail
  refine (HE2.out _ HR3.out HL3.out).mono ?_
  clear HE2
  rintro e w4 ⟨rfl, hb4⟩
  have HR4 := hidn (HR3.out.below HL3.out hb4)
  have HG4 := hidn (HG3.out.trans (Gr.of (Keeps.of_below (F := F) hb4)))
  have HL4 : Hid (∀ k, F k → k < w4.heap.size) := hidn (fun k hk => Nat.lt_of_lt_of_le (HL3.out k hk) hb4.size)
  clear hb4 HR3 HG3 HL3
  go_wp2_with fail
  have HP := hidn (HPl.out _ HR4.out HL4.out)
  rw [HPI.out] at HP
  refine HP.out.mono ?_
  clear HP HPl HPI
  rintro e w5 ⟨rfl, hb5⟩
  have h5 := HR4.out.below HL4.out hb5
  have HG5 := hidn (HG4.out.trans (Gr.of (Keeps.of_below (F := F) hb5)))
  have HL5 : Hid (∀ k, F k → k < w5.heap.size) := hidn (fun k hk => Nat.lt_of_lt_of_le (HL4.out k hk) hb5.size)
  clear hb5 HR4 HG4 HL4
  have hmem := List.mem_of_getElem? HFK.out
  have hcm := List.mem_of_getElem? HCI.out
  obtain ⟨g, hfa, hFg, hc0, hc1⟩ := h5.at HFK.out
  subst hfa
  obtain ⟨d0, d1, d2, d3, d4⟩ := h5.ext hmem HCI.out
  have c1 : w5.cell? ⟨y, 1, none⟩ = some (.slice (some ⟨g, 0, none⟩) R.length fc) := by rw [cell_of_row _ _ _ _ _ _ h5.disk]; rfl
  have hBz := (HBz.out.gr HG5.out).1
  have hba : ba < w5.heap.size := by
    have := block_lt_of_cell (hBz.2.2.2.2 _ rfl 0 (by omega))
    rw [add_none] at this
    exact this
  have hsrc : ∀ (W' : World), Below w5.heap.size w5 W' → ∀ j u, (vb zs)[j]? = some u → W'.cell? ((⟨ba, boff, none⟩ : Addr).add j) = some u := fun W' hb j u hj => by
    have hjl : j < 128 := by have := (List.getElem?_eq_some_iff.1 hj).1; rw [length_vb, hBz.1] at this; exact this
    have hcz := hBz.2.2.2.2 _ rfl j hjl
    have e : u = .int .u8 ((zs.getD j 0 : Nat) : Int) := by
      unfold vb at hj
      rw [List.getElem?_map] at hj
      obtain ⟨x, hx, rfl⟩ := Option.map_eq_some_iff.1 hj
      rw [List.getD_eq_getElem?_getD, hx]
      rfl
    rw [e, add_none]
    rw [add_none] at hcz
    exact (hb.cell (p := ⟨ba, boff + j, none⟩) hba).trans hcz
  have hW1 : Below w5.heap.size w5 (w5.alloc (.cells #[] 5)) := (Below.refl _ _).alloc (Nat.le_refl _) _
  obtain ⟨q1, W2, hr1', hi1, hq1, hqs1, hg1⟩ := cpy (w5.alloc (.cells #[] 5)) w5.heap.size (heap_alloc_new _ _) ⟨ba, boff, none⟩ cap zs hBz.1 (hsrc _ hW1)
  have hW2 : Below w5.heap.size w5 W2 := hW1.grown hg1 hW1.size (fun k hk => by cases hk; exact Nat.le_refl _)
  have hW3 : Below w5.heap.size w5 (W2.alloc (.cells #[] 5)) := hW2.alloc hW2.size _
  obtain ⟨q2, W4, hr2', hi2, hq2, hqs2, hg2⟩ := cpy (W2.alloc (.cells #[] 5)) W2.heap.size (heap_alloc_new _ _) ⟨ba, boff, none⟩ cap zs hBz.1 (hsrc _ hW3)
  have hW4 : Below w5.heap.size w5 W4 := hW3.grown hg2 hW3.size (fun k hk => by cases hk; exact hW2.size)
  have hi1' : Im W4 q1 zs := im_grown (im_grown hi1 (grown_alloc W2 _) (fun e => by cases e)) hg2 (fun e => by have := Option.some.inj e; omega)
  have HR1 := hidn hr1'
  have HR2 := hidn hr2'
  have hrow4 := own_other (h5.rows f hmem) (w' := W4) (fun b hb => by
    obtain rfl : f.g = b := by simpa [Yf.row, Value.ownBlock] using hb
    exact hW4.block _ (HL5.out _ (h5.fr f hmem)))
  obtain ⟨cur, hcur⟩ := own_ty hrow4 (g := f.g) rfl
  have fz0 := frozen_of_row _ _ (i * 5) _ _ hcur
  have fz3 := frozen_of_row _ _ (i * 5 + 3) _ _ hcur
  have fz4 := frozen_of_row _ _ (i * 5 + 4) _ _ hcur
  have lf := HL5.out _ (h5.fr f hmem)
  have k0 := (hW4.cell (p := ⟨f.g, i * 5, none⟩) lf).trans d0
  have k3 := (hW4.cell (p := ⟨f.g, i * 5 + 3, none⟩) lf).trans d3
  have k4 := (hW4.cell (p := ⟨f.g, i * 5 + 4, none⟩) lf).trans d4
  obtain ⟨c', hc'⟩ : ∃ c' : Yc, c' = ⟨c.x.wrote zs, q1, c.q1, c.q2, q2⟩ := ⟨_, rfl⟩
  have hp1 := row_put rfl hrow4 HCI.out (c' := ⟨c.x, q1, c.q1, c.q2, c.q3⟩) 0 (by omega) (im q1) rfl
  have hp2 := row_put (by rw [List.length_set]) hp1 (by rw [List.getElem?_set_self (List.getElem?_eq_some_iff.1 HCI.out).1]) (c := ⟨c.x, q1, c.q1, c.q2, c.q3⟩) (c' := ⟨c.x, q1, c.q1, c.q2, q2⟩) 3 (by omega) (im q2) rfl
  rw [List.set_set] at hp2
  have hp3 := row_put (by rw [List.length_set]) hp2 (by rw [List.getElem?_set_self (List.getElem?_eq_some_iff.1 HCI.out).1]) (c := ⟨c.x, q1, c.q1, c.q2, q2⟩) (c' := c') 4 (by omega) (.bool true) (by rw [hc']; rfl)
  rw [List.set_set] at hp3
  have hoth : ∀ b, b ≠ f.g → (((W4.setCell ⟨f.g, i * 5, none⟩ (im q1)).setCell ⟨f.g, i * 5 + 3, none⟩ (im q2)).setCell ⟨f.g, i * 5 + 4, none⟩ (.bool true)).heap[b]? = W4.heap[b]? := fun b hb => by
    rw [Below.heap_setCell _ ⟨f.g, i * 5 + 4, none⟩ _ b hb, Below.heap_setCell _ ⟨f.g, i * 5 + 3, none⟩ _ b hb, Below.heap_setCell _ ⟨f.g, i * 5, none⟩ _ b hb]
  obtain ⟨x0, x1, x2, x3⟩ := h5.ims f hmem c hcm
  obtain ⟨f0, f1, f2, f3⟩ := h5.fi f hmem c hcm
  have hokc := (h5.ok f hmem).2.2 c hcm
  have hkeepI : ∀ (q : Nat × Nat) (z : List Nat), Im W4 q z → Im (((W4.setCell ⟨f.g, i * 5, none⟩ (im q1)).setCell ⟨f.g, i * 5 + 3, none⟩ (im q2)).setCell ⟨f.g, i * 5 + 4, none⟩ (.bool true)) q z := fun q z hq => own_other hq (fun b hb => hoth b (Ne.symm (own_ne2 hrow4 hq (g := f.g) rfl hb tyDF.2.2.2.2.2)))
  have hup : ∀ (q : Nat × Nat) (z : List Nat), Im w5 q z → F q.1 → Im W4 q z := fun q z hq hf => own_other hq (fun b hb => by cases hb; exact hW4.block _ (HL5.out _ hf))
  have hok' : c'.x.ok := by rw [hc']; exact Ext.wrote_ok hokc hBz.1 hBz.2.2.1
  have hFin := h5.turnC (w' := ((W4.setCell ⟨f.g, i * 5, none⟩ (im q1)).setCell ⟨f.g, i * 5 + 3, none⟩ (im q2)).setCell ⟨f.g, i * 5 + 4, none⟩ (.bool true)) (F' := fun b => F b ∨ b = q1.1 ∨ b = q2.1) HFK.out i c' hp3 (fun b hb hne => by rw [hoth b hne]; exact hW4.block b (HL5.out b hb)) (by rw [hc']; exact ⟨hkeepI _ _ hi1', hkeepI _ _ (hup _ _ x1 f1), hkeepI _ _ (hup _ _ x2 f2), hkeepI _ _ hi2⟩) hok' (fun b hb => .inl hb) (by rw [hc']; exact ⟨.inr (.inl rfl), .inl f1, .inl f2, .inr (.inr rfl)⟩)
  have HFin := hidn hFin
  have HCX : Hid (c'.x = c.x.wrote zs) := hidn (by rw [hc'])
  have hs14 : q1.1 < W4.heap.size := by have := hg2.size; rw [World.size_alloc] at this; omega
  have hsz : (((W4.setCell ⟨f.g, i * 5, none⟩ (im q1)).setCell ⟨f.g, i * 5 + 3, none⟩ (im q2)).setCell ⟨f.g, i * 5 + 4, none⟩ (.bool true)).heap.size = W4.heap.size := by simp [World.setCell]
  have hFfg := h5.fr f hmem
  have HGF : Hid (Gr F (fun b => F b ∨ b = q1.1 ∨ b = q2.1) w (((W4.setCell ⟨f.g, i * 5, none⟩ (im q1)).setCell ⟨f.g, i * 5 + 3, none⟩ (im q2)).setCell ⟨f.g, i * 5 + 4, none⟩ (.bool true))) := hidn (by
    have hk : Keeps F w5 (((W4.setCell ⟨f.g, i * 5, none⟩ (im q1)).setCell ⟨f.g, i * 5 + 3, none⟩ (im q2)).setCell ⟨f.g, i * 5 + 4, none⟩ (.bool true)) := (((Keeps.of_below hW4).setCell (p := ⟨f.g, i * 5, none⟩) hFfg _).setCell (p := ⟨f.g, i * 5 + 3, none⟩) hFfg _).setCell (p := ⟨f.g, i * 5 + 4, none⟩) hFfg _
    refine HG5.out.trans ⟨hk, fun b hb => ?_⟩
    rw [hsz]
    rcases hb with hb | rfl | rfl
    · exact .inl hb
    · exact .inr ⟨by have := hq1; rw [World.size_alloc] at this; omega, hs14⟩
    · exact .inr ⟨by have := hW2.size; have := hq2; rw [World.size_alloc] at this; omega, hqs2⟩)
  obtain ⟨N, hN⟩ : ∃ N, N = R.length := ⟨_, rfl⟩
  have hkN : (k : Int) < (N : Int) := by rw [hN]; have := (List.getElem?_eq_some_iff.1 HFK.out).1; omega
  have hNb : N ≤ 1000000 := by rw [hN]; exact HRl.out
  rw [← hN] at c1
  unfold Yf.row at hc1
  obtain ⟨fl, hfl⟩ : ∃ fl, fl = f.l.length := ⟨_, rfl⟩
  have hil : (i : Int) < (fl : Int) := by rw [hfl]; have := (List.getElem?_eq_some_iff.1 HCI.out).1; omega
  have hflb : fl ≤ 100000 := by rw [hfl]; exact HFL.out
  have hne5 : ((i : Int) == (fl : Int)) = false := beq_eq_false_iff_ne.2 (by omega)
  rw [← hfl] at hc1
  have HRF := hidn (And.intro HFin.out (And.intro HCX.out HGF.out))
  clear hN hfl hr1' hr2' hi1 hi2 hq1 hq2 hqs1 hqs2 hg1 hg2 hW1 hW2 hW3 hW4 hi1' hrow4 hcur hp1 hp2 hp3 hoth hkeepI hup hok' hFin hsz hs14 x0 x1 x2 x3 f0 f1 f2 f3 hokc hsrc hBz hFg hc0 d0 d1 d2 d3 d4 hmem hcm h5 hc' HFin HCX HGF
  obtain ⟨fg, hfg⟩ : ∃ fg, fg = f.g := ⟨_, rfl⟩
  obtain ⟨fcc, hfcc⟩ : ∃ fcc, fcc = f.c := ⟨_, rfl⟩
  rw [← hfg] at hc1 fz0 fz3 fz4 k0 k3 k4 HRF hFfg lf
  rw [← hfcc] at hc1
  have HFG := hidn hfg
  clear hfg hfcc hFfg
  go_wp2_with (at_builtin; first | (refine wpList_app_run2 rfl _ _ 29 29 rfl rfl (.slice (some ⟨w5.heap.size, 0, none⟩) 0 0) _ _ rfl rfl HR1.out ?_) | (refine wpList_app_run2 rfl _ _ 29 29 rfl rfl (.slice (some ⟨W2.heap.size, 0, none⟩) 0 0) _ _ rfl rfl HR2.out ?_))
  go_ret
  exact ⟨rfl, _, _, _, _, HRF.out.1, ⟨c', HRF.out.2.1, rfl⟩, HRF.out.2.2⟩
end Go.Proofs.Ytocfbokgbpaneaa
